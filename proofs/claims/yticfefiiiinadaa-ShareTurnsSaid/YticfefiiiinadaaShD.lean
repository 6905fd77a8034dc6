import Derived.Test.YticfefiiiinadaaShC
import Derived.Maps.AppendAt
namespace Go.Proofs.Yticfefiiiinadaa
open Go.RowKit Go.Shelf Go.Lib Ieee

theorem info3 : (Try.prog.info? 3).map (fun i => (i.zero, i.size, i.bytes)) = some (some (.int .i64 0), 1, 8) := by kernel_rfl

/-- A slice of the call's own that holds these ints. -/
def OI (w : World) (base : Nat) (v : Value) (l : List Int) : Prop := w.ownsRow base 3 1 v l.length (l.map (Value.int .i64))
theorem OI.nil (w : World) (base : Nat) : OI w base (.slice none 0 0) [] := World.ownsRow_nil w base _ _
theorem OI.below {w w' : World} {base : Nat} {v : Value} {l : List Int} (h : OI w base v l) (hb : Below w.heap.size w w') : OI w' base v l := own_below h hb
theorem OI.form {w : World} {base : Nat} {v : Value} {l : List Int} (h : OI w base v l) (hl : l ≠ []) :
    ∃ g cap, v = .slice (some ⟨g, 0, none⟩) l.length cap ∧ base ≤ g ∧ g < w.heap.size ∧ SI w g 0 l ∧ ∀ j, w.frozen? ⟨g, j, none⟩ = false := by
  have h0 := h
  obtain ⟨hlen, h1⟩ := h
  rcases h1 with ⟨_, hn⟩ | ⟨g, cap, cur, rfl, hb, hg, hnc, hm, hs, ht⟩
  · exact absurd (List.eq_nil_of_length_eq_zero hn) hl
  · refine ⟨g, cap, rfl, hb, ?_, ?_, fun j => World.ownsRow.frozenAt h0 j⟩
    · have := World.ownsRow.lt h0 g rfl; exact this.2
    · intro j hj
      have := World.ownsRow.cellAt h0 j (by omega)
      rw [Nat.zero_add, this, List.getElem?_map, List.getElem?_eq_getElem hj, List.getD_eq_getElem?_getD, List.getElem?_eq_getElem hj]; rfl
theorem OI.nilForm {w : World} {base : Nat} {v : Value} (h : OI w base v []) : ∃ a cap, v = .slice a 0 cap := by
  obtain ⟨_, h1⟩ := h
  rcases h1 with ⟨rfl, hn⟩ | ⟨g, cap, cur, rfl, _⟩
  · exact ⟨_, _, rfl⟩
  · exact ⟨_, _, rfl⟩

/-- Two slices of the call's own, apart. -/
def Two (B : Nat) (w0 w : World) (v1 v2 : Value) (l1 l2 : List Int) : Prop :=
  Below B w0 w ∧ OI w B v1 l1 ∧ OI w B v2 l2 ∧ (∀ j, v1.ownBlock = some j → v2.ownBlock ≠ some j)
theorem Two.start (w : World) : Two w.heap.size w w (.slice none 0 0) (.slice none 0 0) [] [] := ⟨Below.refl _ _, OI.nil _ _, OI.nil _ _, by intro j h; cases h⟩
theorem Two.push1 {B : Nat} {w0 wr w1 : World} {v1 v2 v' : Value} {l1 l2 : List Int} {x : Int} {o : Obj} (h : Two B w0 wr v1 v2 l1 l2) (hB : B ≤ wr.heap.size)
    (hown : w1.ownsRow B 3 1 v' (l1.length + 1) (l1.map (Value.int .i64) ++ [.int .i64 x])) (hg : (wr.alloc o).grownBy w1 v1.ownBlock) (hat : v'.ownBlock = v1.ownBlock ∨ v'.ownBlock = some (wr.alloc o).heap.size) :
    Two B w0 w1 v' v2 (l1 ++ [x]) l2 := by
  obtain ⟨hb, h1, h2, ha⟩ := h
  refine ⟨(hb.alloc hB o).grown hg (by simp; omega) (fun j hj => ?_), ?_, ?_, ?_⟩
  · exact (World.ownsRow.lt h1 j hj).1
  · unfold OI; simpa using hown
  · refine World.ownsRow.kept (World.ownsRow.alloc h2 o) hg ?_
    cases hv : v2.ownBlock with
    | none => exact .inl rfl
    | some j => exact .inr fun e => ha j e.symm hv
  · intro j hj hj2
    rcases hat with e | e
    · exact ha j (e ▸ hj) hj2
    · have h3 := (World.ownsRow.lt h2 j hj2).2
      rw [hj] at e
      have h4 := Option.some.inj e
      simp at h4
      omega
theorem Two.swap {B : Nat} {w0 w : World} {v1 v2 : Value} {l1 l2 : List Int} (h : Two B w0 w v1 v2 l1 l2) : Two B w0 w v2 v1 l2 l1 :=
  ⟨h.1, h.2.2.1, h.2.1, fun j h1 h2 => h.2.2.2 j h2 h1⟩

def partsL (total : Int) (zs : List Int) : List Int := zs.map fun n => total * n / sumI zs
def overL (total : Int) (zs : List Int) : List Int := zs.map fun n => total * n % sumI zs
theorem map_take_next (f : Int → Int) (zs : List Int) (k : Nat) (hk : k < zs.length) : (zs.map f).take (k + 1) = (zs.map f).take k ++ [f (zs.getD k 0)] := by
  rw [take_next _ k (by simpa using hk)]
  congr 2
  simp [List.getD_eq_getElem?_getD, List.getElem?_eq_getElem hk]

theorem SI.below {w w' : World} {b off B : Nat} {zs : List Int} (h : SI w b off zs) (hb : Below B w w') (hlt : b < B) : SI w' b off zs := fun j hj => by
  have h1 := h j hj
  have := (hb.block b hlt)
  unfold World.cell? at h1 ⊢
  rw [this]; exact h1

set_option maxHeartbeats 4000000 in
set_option maxRecDepth 100000 in
theorem cut_c (total : Int) (b off cap : Nat) (zs : List Int) (w : World) (ht0 : 0 ≤ total) (ht1 : total ≤ 65536) (hz : ∀ z ∈ zs, 1 ≤ z ∧ z ≤ 1048576) (hn0 : zs.length ≠ 0) (hn : zs.length ≤ 64) (hb : b < w.heap.size) (hc : SI w b off zs) :
    Calls Try.prog 25 #[.int .i64 total, .slice (some ⟨b, off, none⟩) zs.length cap] w fun e w' => ∃ p o, e = .returned (.tuple #[p, o]) ∧ Two w.heap.size w w' p o (partsL total zs) (overL total zs) := by
  obtain ⟨i0, hi, hz0, hz1, hz2⟩ := info_parts info3
  have hS1 : 1 ≤ sumI zs := by
    cases zs with
    | nil => exact absurd rfl hn0
    | cons x t =>
      have h1 := hz x (by simp)
      have h2 := sumI_bound t 1048576 (fun z h => by have := hz z (by simp [h]); omega)
      rw [sumI_cons]; omega
  have hS2 : sumI zs ≤ 1048576 * 64 := by
    have h2 := sumI_bound zs 1048576 (fun z h => by have := hz z h; omega)
    have : (zs.length : Int) ≤ 64 := by omega
    have := Int.mul_le_mul_of_nonneg_left this (show (0 : Int) ≤ 1048576 by omega)
    omega
  have hsum := sum_c b off cap zs w 1048576 (fun z h => by have := hz z h; omega) (by omega) (by omega) hn hc
  have hC := Lib.hid hc
  have hZ := Lib.hid hz
  have hP : Hid (∀ k, k < zs.length → (partsL total zs).take (k + 1) = (partsL total zs).take k ++ [total * zs.getD k 0 / sumI zs]) := fun k hk => map_take_next (fun n => total * n / sumI zs) zs k hk
  have hO : Hid (∀ k, k < zs.length → (overL total zs).take (k + 1) = (overL total zs).take k ++ [total * zs.getD k 0 % sumI zs]) := fun k hk => map_take_next (fun n => total * n % sumI zs) zs k hk
  have hPl : Hid ((partsL total zs).length = zs.length) := by unfold Hid partsL; simp
  have hOl : Hid ((overL total zs).length = zs.length) := by unfold Hid overL; simp
  generalize partsL total zs = PL at hP hPl ⊢
  generalize overL total zs = OL at hO hOl ⊢
  clear hc hz
  generalize sumI zs = all at hS1 hS2 hsum hP hO
  have hall : all ≠ 0 := by omega
  go_enter Try.func25, Try.ntmps25
  go_wp2_with (go_at_call 26; refine hsum.mono ?_; rintro e w1 ⟨rfl, rfl⟩)
  go_loopw [4, 5, 13] (fun p o i wr => ∃ k : Nat, k ≤ zs.length ∧ i = .int .i64 k ∧ Aside (Two w.heap.size w wr p o (PL.take k) (OL.take k))) (fun _ _ i _ => zs.length - (intOf i).toNat)
  case atStart => exact ⟨0, Nat.zero_le _, rfl, Two.start w⟩
  case round =>
    obtain ⟨k, hk, rfl, hT⟩ := hrel
    by_cases hlt : k < zs.length
    · have hlt' : (k : Int) < (zs.length : Int) := by omega
      have hcell := (SI.below hC.out hT.1 hb) k hlt
      have hzz := hZ.out _ (getD_mem zs k hlt)
      have hPn := hP.out k hlt
      have hOn := hO.out k hlt
      have hpl : (PL.take k).length = k := by have := hPl.out; simp; omega
      have hol : (OL.take k).length = k := by have := hOl.out; simp; omega
      generalize hz' : zs.getD k 0 = z at hcell hzz hPn hOn
      clear hz'
      have hprod : 0 ≤ total * z ∧ total * z ≤ 65536 * 1048576 := ⟨Int.mul_nonneg ht0 (by omega), by
        have h1 := Int.mul_le_mul_of_nonneg_right ht1 (show 0 ≤ z by omega)
        have h2 := Int.mul_le_mul_of_nonneg_left hzz.2 (show (0 : Int) ≤ 65536 by omega)
        omega⟩
      have hPN := Lib.hid hPn
      have hON := Lib.hid hOn
      have hT0 := Lib.hid hT
      clear hPn hOn
      have hB : w.heap.size ≤ wr.heap.size := hT0.out.1.size
      go_wp2_with (first
        | (at_builtin; refine wpList_append_own_at _ rfl (.tmp 17) (.tmp 23) 27 rfl w.heap.size 3 i0 (.int .i64 0) 1 8 Try.underlying27 hi hz0 hz1 hz2 rfl (by decide) _ _ _ rfl (World.ownsRow.alloc hT0.out.2.1 _) ⟨_, 0, none⟩ 1 1 [.int .i64 (total * z / all)] rfl rfl (cell_one_new _ _ _) (by simp [Value.oneCell']) (by rw [hpl]; unfold maxLen; omega) (by rw [hpl]; omega) (by simp; omega) ?_
           intro v' w1 hown' hgrow _ hat
           have hT1 := Lib.hid (Two.push1 hT0.out hB hown' hgrow hat)
           have hB1 : w.heap.size ≤ w1.heap.size := hT1.out.1.size
           clear hown' hgrow hat)
        | (at_builtin; refine wpList_append_own_at _ rfl (.tmp 25) (.tmp 31) 27 rfl w.heap.size 3 i0 (.int .i64 0) 1 8 Try.underlying27 hi hz0 hz1 hz2 rfl (by decide) _ _ _ rfl (World.ownsRow.alloc hT1.out.2.2.1 _) ⟨_, 0, none⟩ 1 1 [.int .i64 (total * z % all)] rfl rfl (cell_one_new _ _ _) (by simp [Value.oneCell']) (by rw [hol]; unfold maxLen; omega) (by rw [hol]; omega) (by simp; omega) ?_
           intro v2 w2 hown' hgrow _ hat
           have hT2 := Lib.hid (Two.swap (Two.push1 (Two.swap hT1.out) hB1 hown' hgrow hat))
           clear hown' hgrow hat))
      go_roundw
      case rel => exact ⟨k + 1, by omega, by go_num, by rw [hPN.out, hON.out]; exact hT2.out⟩
      case measure => simp [intOf]; omega
    · have hlt' : ¬ (k : Int) < (zs.length : Int) := by omega
      have hT0 := Lib.hid hT
      have hpl : PL.take k = PL := List.take_of_length_le (by have := hPl.out; omega)
      have hol : OL.take k = OL := List.take_of_length_le (by have := hOl.out; omega)
      rw [hpl, hol] at hT0
      clear hT hpl hol
      go_wp2
      go_ret2
      exact ⟨_, _, rfl, hT0.out⟩
end Go.Proofs.Yticfefiiiinadaa
