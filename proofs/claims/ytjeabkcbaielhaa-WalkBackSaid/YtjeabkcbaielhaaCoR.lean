/- cons.find: the ways of clients, of what is a tree. -/
import Derived.Test.YtjeabkcbaielhaaCoQ
import Derived.Deep.OwnRows
namespace Go.Proofs.Ytjeabkcbaielhaa.Co
open Go.RowKit Go.Shelf
theorem waysInfo : (Try.prog.info? 34).map (fun i => (i.zero, i.size, i.bytes)) = some (some (.slice none 0 0), 1, 24) := by kernel_rfl
/-- The ways of clients in a container; none where there is no leaf. -/
def waysOf (x : Con) (cs : List Int) : List (Option (List Nat)) := (run (fnd cs) (List.replicate cs.length none, (cs.length : Int)) (pre x [])).1.1
theorem made_list (n : Nat) (z : Value) : madeCells #[z] n = Array.replicate n z := by
  apply Array.ext
  · simp [size_madeCells]
  · intro i h1 h2
    simp [madeCells, Nat.mod_one]
/-- What find tells: the ways lie in a row; a way's slice, or none. -/
def FindR (x : Con) (cs : List Int) (w : World) (e : Ending) (w' : World) : Prop :=
  Below w.heap.size w w' ∧ ((treeB x = false ∧ e = .returned (.tuple #[.slice none 0 0, .int .i64 110])) ∨
    (treeB x = true ∧ ∃ rb, ∃ vs : List Value, e = .returned (.tuple #[.slice (some ⟨rb, 0, none⟩) cs.length cs.length, .int .i64 0]) ∧ w.heap.size ≤ rb ∧ Blk w' rb 34 vs.toArray ∧ vs.length = cs.length ∧
      ∀ (i : Nat) (o : Option (List Nat)), (waysOf x cs)[i]? = some o → ∃ v, vs[i]? = some v ∧ WayO w' (fun _ => True) o v))
set_option maxHeartbeats 1000000 in
theorem find_c (Z : Nat → Prop) (x : Con) (sv : Value) (cs : List Int) (kb : Nat) (w : World) (hK : KV w Z x.ks sv) (hw : x.a.wide) (hd : ht x ≤ 1000000) (hZ : ∀ b, Z b → b < w.heap.size ∧ b ≠ kb) (hcs : cs.length ≤ 8)
    (hk : Blk w kb 3 (cs.map (Value.int .i64)).toArray) :
    Calls Try.prog 61 #[conV x.a sv, .slice (some ⟨kb, 0, none⟩) cs.length cs.length] w (FindR x cs w) := by
  obtain ⟨p, cap, rfl, hl⟩ := hK.slice
  obtain ⟨n, hn⟩ : ∃ n, n = x.ks.length := ⟨_, rfl⟩
  obtain ⟨nc, hnc⟩ : ∃ n, n = cs.length := ⟨_, rfl⟩
  rw [← hn] at hK ⊢
  rw [← hnc] at hcs ⊢
  obtain ⟨R, hR⟩ : ∃ R, R = FindR x cs w := ⟨_, rfl⟩
  rw [← hR]
  have HR := Lib.hid hR
  have hb0 := ((Below.refl w.heap.size w).alloc (Nat.le_refl _) (.cells #[.int .i64 x.a.k, .int .i64 x.a.w, .int .i64 x.a.c, .int .i64 x.a.s, .slice p n cap] 24)).alloc (by simp) (.cells #[.slice (some ⟨kb, 0, none⟩) nc nc] 34)
  have HC := Lib.hid (check_c Z x (.slice p n cap) _ (hK.next hb0) hw hd (fun b h => Nat.lt_of_lt_of_le (hZ b h).1 hb0.size))
  have HN := Lib.hid hnc
  have HB := Lib.hid hb0
  clear hR hn hnc hb0
  cases ht : treeB x
  · rw [show checkI x = 110 by unfold checkI; rw [ht]; rfl] at HC
    have HT := Lib.hid ht
    clear hK hw hd hZ hk ht hl
    go_enter Try.func61, Try.ntmps61
    go_wp2_with fail
    refine HC.out.mono ?_
    rintro e w1 ⟨rfl, hb⟩
    have HB1 := Lib.hid (HB.out.trans (hb.mono HB.out.size))
    clear hb
    go_wp2_with fail
    show R (.returned (.tuple #[.slice none 0 0, .int .i64 110])) w1
    rw [HR.out]
    exact ⟨HB1.out, .inl ⟨HT.out, rfl⟩⟩
  · rw [show checkI x = 0 by unfold checkI; rw [ht]; rfl] at HC
    have HT := Lib.hid ht
    have HK := Lib.hid hK
    have HZ := Lib.hid hZ
    have HKB := Lib.hid hk
    have hcv := Blk.new (w.alloc (.cells #[.int .i64 x.a.k, .int .i64 x.a.w, .int .i64 x.a.c, .int .i64 x.a.s, .slice p n cap] 24)) 34 #[.slice (some ⟨kb, 0, none⟩) nc nc]
    rw [World.size_alloc] at hcv
    have hbx := (Blk.new w 24 #[.int .i64 x.a.k, .int .i64 x.a.w, .int .i64 x.a.c, .int .i64 x.a.s, .slice p n cap]).alloc (.cells #[.slice (some ⟨kb, 0, none⟩) nc nc] 34)
    have HCV := Lib.hid hcv
    have HBX := Lib.hid hbx
    have hmk : ∀ W : World, (Instr.makeSlice 65 (.int .i64 (nc : Int)) (.int .i64 (nc : Int))).run Try.prog W = .ok (.slice (some ⟨W.heap.size, 0, none⟩) nc nc) (W.alloc (.cells (Array.replicate nc (.slice none 0 0)) 34)) := fun W => by
      rw [← made_list]
      exact run_make_row' (P := Try.prog) 65 34 (.slice none 0 0) 24 Try.underlying65 waysInfo rfl .i64 .i64 nc (by omega) (by omega) W
    have hmf : ∀ (fn : Fn) (first cap : Array Value) (w : World), (Instr.makeFunc fn first cap).run Try.prog w = .ok (.func fn first cap) w := fun _ _ _ _ => rfl
    clear hK hZ hk ht hl hcv hbx
    go_enter Try.func61, Try.ntmps61
    go_wp2_with fail
    refine HC.out.mono ?_
    rintro e w1 ⟨rfl, hb⟩
    have hB1 := HB.out.trans (hb.mono HB.out.size)
    have hcv1 := HCV.out.next hb
    have hbx1 := HBX.out.next hb
    obtain ⟨x0, x1, x2, x3, x4⟩ : w1.cell? ⟨w.heap.size, 0, none⟩ = some (.int .i64 x.a.k) ∧ w1.cell? ⟨w.heap.size, 1, none⟩ = some (.int .i64 x.a.w) ∧ w1.cell? ⟨w.heap.size, 2, none⟩ = some (.int .i64 x.a.c) ∧ w1.cell? ⟨w.heap.size, 3, none⟩ = some (.int .i64 x.a.s) ∧ w1.cell? ⟨w.heap.size, 4, none⟩ = some (.slice p n cap) := ⟨hbx1.at_ (i := 0) rfl, hbx1.at_ (i := 1) rfl, hbx1.at_ (i := 2) rfl, hbx1.at_ (i := 3) rfl, hbx1.at_ (i := 4) rfl⟩
    have y0 := hcv1.at_ (i := 0) rfl
    have hlt0 := hbx1.lt
    have hlt1 := hcv1.lt
    have hlt2 : w.heap.size < w1.heap.size + 1 := by omega
    have hlt3 : w.heap.size < w1.heap.size + 1 + 1 := by omega
    obtain ⟨g, hg⟩ : ∃ g, g = w1.heap.size := ⟨_, rfl⟩
    obtain ⟨w2, hw2⟩ : ∃ w2, w2 = ((w1.alloc (.cells (Array.replicate nc (.slice none 0 0)) 34)).alloc (.cells #[.slice (some ⟨g, 0, none⟩) nc nc] 65)).alloc (.cells #[.int .i64 (nc : Int)] 3) := ⟨_, rfl⟩
    have HG := Lib.hid hg
    have hb12 : Below w1.heap.size w1 w2 := by rw [hw2]; exact (((Below.refl _ _).alloc (Nat.le_refl _) _).alloc (by simp) _).alloc (by simp; omega) _
    have hj : Jf cs (w.heap.size + 1) kb (g + 1) g (g + 2) (List.replicate cs.length none, (cs.length : Int)) (fun b => b = w.heap.size + 1 ∨ b = kb ∨ b = g + 1 ∨ b = g ∨ b = g + 2) w2 := by
      have hkl := HKB.out.lt
      have hs := hB1.size
      refine ⟨fun b => Iff.rfl, by omega, ?_, (HKB.out.below hB1 hkl).next hb12, ?_, ?_, by simp, by unfold I64; have := HN.out; omega, List.replicate cs.length (.slice none 0 0), ?_, by simp, fun i o ho => ?_⟩
      · rw [← HN.out]; exact hcv1.next hb12
      · rw [hw2, ← HN.out]
        have := (Blk.new (w1.alloc (.cells (Array.replicate nc (.slice none 0 0)) 34)) 65 #[.slice (some ⟨g, 0, none⟩) nc nc]).alloc (.cells #[.int .i64 (nc : Int)] 3)
        rwa [World.size_alloc, ← hg] at this
      · rw [hw2, ← HN.out]
        have := Blk.new ((w1.alloc (.cells (Array.replicate nc (.slice none 0 0)) 34)).alloc (.cells #[.slice (some ⟨g, 0, none⟩) nc nc] 65)) 3 #[.int .i64 (nc : Int)]
        rwa [World.size_alloc, World.size_alloc, ← hg] at this
      · rw [hw2, ← HN.out, hg, List.toArray_replicate]
        exact ((Blk.new w1 34 (Array.replicate nc (.slice none 0 0))).alloc _).alloc _
      · have hi := (List.getElem?_eq_some_iff.1 ho).1
        rw [List.length_replicate] at hi
        simp only [List.getElem?_replicate, if_pos hi] at ho ⊢
        have ho := Option.some.inj ho
        subst ho
        exact ⟨_, rfl, rfl⟩
    have hlk := look_c Z (fun _ => True) 97 #[.pointer (some ⟨w.heap.size + 1, 0, none⟩), .pointer (some ⟨g + 1, 0, none⟩), .pointer (some ⟨g + 2, 0, none⟩)] (fnd cs) enoughP 0 .enough (Jf cs (w.heap.size + 1) kb (g + 1) g (g + 2)) (jok_f _ _ _ _ _ _) enters_find (vis_find Z cs (by rw [← HN.out]; exact hcs) _ _ _ _ _) x _ _ w2 (.slice p n cap) (fun _ _ _ _ => trivial) hj
      ((HK.out.same (Z' := Z) (w' := w1) (fun _ h => h) hB1.size fun b _ hl => hB1.block b hl).next hb12) hw (fun b h => by have h1 := HZ.out b h; have h2 := hB1.size; have h3 := hb12.size; omega) hd
    have HL := Lib.hid hlk
    have HB1 := Lib.hid hB1
    have HB12 := Lib.hid hb12
    have HW2 := Lib.hid hw2
    clear hb hcv1 hbx1 hg hw2 hb12 hj hlk hB1
    go_wp2_with fail
    rw [← HG.out, ← HW2.out]
    refine HL.out.mono ?_
    rintro e w3 ⟨rfl, F3, hj3, ht3⟩
    have hz : (if (run (fnd cs) (List.replicate cs.length none, (cs.length : Int)) (pre x [])).2 = true then (0 : Int) else 0) = 0 := by split <;> rfl
    rw [hz]
    have y3 := hj3.wvar.at_ (i := 0) rfl
    rw [← HN.out] at y3
    have HJ3 := Lib.hid hj3
    have HT3 := Lib.hid ht3
    clear hj3 ht3 hz
    go_wp2_with fail
    show R (.returned (.tuple #[.slice (some ⟨g, 0, none⟩) nc nc, .int .i64 0])) w3
    rw [HR.out]
    obtain ⟨vs, h1, h2, h3⟩ := HJ3.out.row
    refine ⟨⟨HT3.out.os.trans (HB12.out.os.trans HB1.out.os), HT3.out.tape.trans (HB12.out.tape.trans HB1.out.tape), HT3.out.output.trans (HB12.out.output.trans HB1.out.output), Nat.le_trans HB1.out.size (Nat.le_trans HB12.out.size HT3.out.size), fun i hi => ?_⟩, .inr ⟨HT.out, g, vs, by rw [HN.out], ?_, h1, h2, fun i o ho => ?_⟩⟩
    · by_cases hik : i = kb
      · subst hik; exact HJ3.out.ints.raw.trans HKB.out.raw.symm
      · have hs1 := HB1.out.size
        have hs2 := HB12.out.size
        have hs3 := HG.out
        rw [HT3.out.block i (by omega) (by omega), HB12.out.block i (by omega), HB1.out.block i hi]
    · rw [HG.out]; exact HB1.out.size
    · obtain ⟨v, h4, h5⟩ := h3 i o ho
      exact ⟨v, h4, h5.same (Nat.le_refl _) fun b _ _ _ => ⟨rfl, trivial⟩⟩
end Go.Proofs.Ytjeabkcbaielhaa.Co
