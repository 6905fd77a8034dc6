import Derived.Test.YticfefiiiinadaaShE
import Derived.Test.YticfefiiiinadaaShH
import Derived.Sort.OwnSortedInts
namespace Go.Proofs.Yticfefiiiinadaa
open Go.RowKit Go.Shelf Go.Lib Go.Sort Ieee

section
variable {m : Nat}
theorem putRowF (w : World) (blk : Nat) (d : Array (Fin (m + 1))) : putRow encF w blk 0 d = putRow (Value.int .i64) w blk 0 (valF d).toArray := by
  unfold putRow
  congr 1
  funext c
  unfold putCells
  congr 1
  funext k x
  have hs : (valF d).toArray.size = d.size := by simp [valF]
  rw [hs]
  by_cases h : 0 ≤ k ∧ k < 0 + d.size
  · rw [if_pos h, if_pos h]
    have hk : k - 0 < d.size := by omega
    have hk' : k - 0 < (valF d).toArray.size := by omega
    rw [getElem!_pos d _ hk, getElem!_pos (valF d).toArray _ hk']
    simp [encF, valF]
  · rw [if_neg h, if_neg h]
theorem cell_sw_other {α : Type} [Inhabited α] (enc : α → Value) (W : World) (blk off n : Nat) (dk : Array α) (os : Array Obj) (a : Addr) (h1 : a.block ≠ blk) (h2 : a.block < W.heap.size) : (sortWorld enc W blk off n dk os).cell? a = W.cell? a := by
  unfold sortWorld
  rw [cell?_grow _ _ _ (by rw [size_putRow]; exact h2), cell?_putRow_other _ _ _ _ _ _ (.inl h1)]
  rfl
end

def upto (k : Nat) : List Int := (List.range k).map Int.ofNat
theorem upto_next (k : Nat) : upto (k + 1) = upto k ++ [(k : Int)] := by simp [upto, List.range_succ]
theorem upto_length (k : Nat) : (upto k).length = k := by simp [upto]

theorem below_sw {α : Type} [Inhabited α] {enc : α → Value} {w0 W : World} {blk off : Nat} {d : Array α} {B : Nat} (h : SW enc w0 blk off d W) (hB : B ≤ blk) (hblk : blk < w0.heap.size) : Below B w0 W := by
  obtain ⟨n, os, rfl⟩ := h
  refine ⟨rfl, rfl, rfl, ?_, fun j hj => ?_⟩
  · exact (SW.le ⟨n, os, rfl⟩)
  · unfold sortWorld
    rw [heap_grow_old _ _ (by rw [size_putRow]; show j < w0.heap.size; omega)]
    have : blk ≠ j := by omega
    simp [putRow, mapBlock, Sort.ahead, Array.getElem?_modify, this]

theorem cell_below {w w' : World} {B : Nat} {a : Addr} (hb : Below B w w') (h : a.block < B) : w'.cell? a = w.cell? a := by
  unfold World.cell?; rw [hb.block _ h]

theorem OI.mono {w : World} {base base' : Nat} {v : Value} {l : List Int} (h : OI w base v l) (hb : base' ≤ base) : OI w base' v l := by
  obtain ⟨h0, h1⟩ := h
  refine ⟨h0, ?_⟩
  rcases h1 with h1 | ⟨g, cap, cur, h2, h3, h4⟩
  · exact .inl h1
  · exact .inr ⟨g, cap, cur, h2, by omega, h4⟩

/-- What the sort leaves of a slice of the call's own. -/
theorem OI.sorted {m : Nat} {w W : World} {base g cap : Nat} {l : List Int} {r : Array (Fin (m + 1))} (h : OI w base (.slice (some ⟨g, 0, none⟩) l.length cap) l) (hr : (valF r).length = l.length)
    (hS : SW encF w g 0 r W) : OI W base (.slice (some ⟨g, 0, none⟩) l.length cap) (valF r) := by
  obtain ⟨n, os, rfl⟩ := hS
  have hO := h
  obtain ⟨h0, h1⟩ := h
  rcases h1 with ⟨h1, _⟩ | ⟨g', cap', cur, hv, hb, hg, hn, hm, hs, _⟩
  · cases h1
  · cases hv
    unfold OI sortWorld
    rw [putRowF, hr]
    exact ownsRow_sortedI hr hb hg hn hm hs

/-- One slice of the call's own. -/
def One1 (B : Nat) (w0 w : World) (v : Value) (l : List Int) : Prop := Below B w0 w ∧ OI w B v l
theorem One1.start (w : World) (B : Nat) : One1 B w w (.slice none 0 0) [] := ⟨Below.refl _ _, OI.nil _ _⟩
theorem One1.push {B : Nat} {w0 wr w1 : World} {v v' : Value} {l : List Int} {x : Int} {o : Obj} (h : One1 B w0 wr v l) (hB : B ≤ wr.heap.size)
    (hown : w1.ownsRow B 3 1 v' (l.length + 1) (l.map (Value.int .i64) ++ [.int .i64 x])) (hg : (wr.alloc o).grownBy w1 v.ownBlock) : One1 B w0 w1 v' (l ++ [x]) := by
  obtain ⟨hb, h1⟩ := h
  refine ⟨(hb.alloc hB o).grown hg (by simp; omega) (fun j hj => (World.ownsRow.lt h1 j hj).1), ?_⟩
  unfold OI; simpa using hown

set_option maxHeartbeats 4000000 in
set_option maxRecDepth 100000 in
theorem mostFirst_c (b off cap : Nat) (l : List Int) (w : World) (hn0 : l.length ≠ 0) (hn : l.length < 20) (hb : b < w.heap.size) (hc : SI w b off l) :
    Calls Try.prog 27 #[.slice (some ⟨b, off, none⟩) l.length cap] w fun e w' => ∃ v, e = .returned v ∧ One1 w.heap.size w w' v (ranks l) := by
  obtain ⟨i0, hi, hz0, hz1, hz2⟩ := info_parts info3
  obtain ⟨m, hm0⟩ : ∃ m, l.length = m + 1 := ⟨l.length - 1, by omega⟩
  have hm := Lib.hid hm0
  clear hm0
  have hC := Lib.hid hc
  have hbox : (w.alloc (.cells #[.slice (some ⟨b, off, none⟩) l.length cap] 27)).cell? ⟨w.heap.size, 0, none⟩ = some (.slice (some ⟨b, off, none⟩) l.length cap) := by
    rw [World.cell?_alloc_at _ _ _ _ rfl]; rfl
  have hBX := Lib.hid hbox
  clear hc hbox
  have hmf : ∀ (fn : Fn) (first cap : Array Value) (w : World), (Instr.makeFunc fn first cap).run Try.prog w = .ok (.func fn first cap) w := fun _ _ _ _ => rfl
  generalize hR : ranks l = R
  have hRR := Lib.hid hR
  clear hR
  go_enter Try.func27, Try.ntmps27
  go_wp2
  go_loopw [3, 7] (fun v i wr => ∃ k : Nat, k ≤ l.length ∧ i = .int .i64 k ∧ Aside (One1 (w.heap.size + 1) (w.alloc (.cells #[.slice (some ⟨b, off, none⟩) l.length cap] 27)) wr v (upto k))) (fun _ i _ => l.length - (intOf i).toNat)
  case atStart => exact ⟨0, Nat.zero_le _, rfl, One1.start _ _⟩
  case round =>
    obtain ⟨k, hk, rfl, hT⟩ := hrel
    have hT0 := Lib.hid hT
    clear hT
    have hB : w.heap.size + 1 ≤ wr.heap.size := by have := hT0.out.1.size; simp at this; omega
    by_cases hlt : k < l.length
    · have hlt' : (k : Int) < (l.length : Int) := by omega
      go_wp2_with (at_builtin; refine wpList_append_own_at _ rfl (.tmp 10) (.tmp 12) 27 rfl (w.heap.size + 1) 3 i0 (.int .i64 0) 1 8 Try.underlying27 hi hz0 hz1 hz2 rfl (by decide) _ _ _ rfl (World.ownsRow.alloc hT0.out.2 _) ⟨_, 0, none⟩ 1 1 [.int .i64 (k : Int)] rfl rfl (cell_one_new _ _ _) (by simp [Value.oneCell']) (by rw [upto_length]; unfold maxLen; omega) (by rw [upto_length]; omega) (by simp; omega) ?_
                   intro v' w1 hown' hgrow _ hat
                   have hT1 := Lib.hid (One1.push hT0.out hB hown' hgrow)
                   clear hown' hgrow hat)
      go_roundw
      case rel => exact ⟨k + 1, by omega, by go_num, by rw [upto_next]; exact hT1.out⟩
      case measure => simp [intOf]; omega
    · have hlt' : ¬ (k : Int) < (l.length : Int) := by omega
      have : k = l.length := by omega
      subst this
      have hT := hT0.out
      obtain ⟨g, cap', rfl, hg1, hg2, hSI, hfz⟩ := hT.2.form (by intro h; have := upto_length l.length; rw [h] at this; simp at this; omega)
      have hul : (upto l.length).length = l.length := upto_length _
      have hsz : (allF m).size = l.length := by rw [size_allF]; exact hm.out.symm
      have hH : Holds encF wr g 0 (allF m) := by
        intro j hj
        refine ⟨?_, hfz _⟩
        rw [hSI j (by omega), getElem!_pos _ j hj]
        have hj' : j < (upto l.length).length := by omega
        rw [List.getD_eq_getElem?_getD, List.getElem?_eq_getElem hj']
        simp [upto, encF, allF]
      have hR1 : Row1 encF wr g 0 (allF m) := ⟨fun _ => rfl, hH, hg2⟩
      have hcmp : CmpLays1 Try.prog 31 #[.pointer (some ⟨w.heap.size, 0, none⟩)] (encF (m := m)) (cmpF (m := m) l) g 0 (allF m).size wr :=
        CmpReads.lays fun q os dk _ x y => by
          have hbx : (sortWorld encF wr g 0 q dk os).cell? ⟨w.heap.size, 0, none⟩ = some (.slice (some ⟨b, off, none⟩) l.length cap) := by
            rw [cell_sw_other _ _ _ _ _ _ _ _ (by show w.heap.size ≠ g; omega) (by show w.heap.size < wr.heap.size; omega), cell_below hT.1 (by show w.heap.size < w.heap.size + 1; omega)]
            exact hBX.out
          have hl : SI (sortWorld encF wr g 0 q dk os) b off l := fun j hj => by
            rw [cell_sw_other _ _ _ _ _ _ _ _ (by show b ≠ g; omega) (by show b < wr.heap.size; omega), cell_below hT.1 (by show b < w.heap.size + 1; omega), World.cell?_alloc_past _ _ _ hb]
            exact hC.out j hj
          exact clo_c w.heap.size b off cap l _ x.val y.val (by have := hm.out; omega) (by have := hm.out; omega) hbx hl
      have hsort := sorts_small (encF (m := m)) (cmpF (m := m) l) 31 #[.pointer (some ⟨w.heap.size, 0, none⟩)] g 0 cap' (allF m) wr (enters_of Try.func31 (by kernel_rfl) rfl) hcmp hR1 (by omega)
      rw [hsz] at hsort
      have hend : ∀ W, SW (encF (m := m)) wr g 0 (Sort.insertionSort (ltOf (cmpF (m := m) l)) (allF m) 0 l.length) W → One1 w.heap.size w W (.slice (some ⟨g, 0, none⟩) l.length cap') R := by
        intro W hS
        have hRe : R = valF (Sort.insertionSort (ltOf (cmpF (m := m) l)) (allF m) 0 l.length) := by
          rw [← hRR.out]
          cases l with
          | nil => simp at hn0
          | cons x t =>
            have : m = t.length := by have := hm.out; simp at this; omega
            subst this
            rfl
        have hrl : (valF (Sort.insertionSort (ltOf (cmpF (m := m) l)) (allF m) 0 l.length)).length = (upto l.length).length := by
          rw [hul, sortF_length _ _ (by have := hm.out; omega)]
          exact hm.out.symm
        rw [hRe]
        have h1 := OI.sorted hT.2 hrl hS
        rw [hul] at h1
        refine ⟨?_, h1.mono (by omega)⟩
        have h2 : Below w.heap.size w (w.alloc (.cells #[.slice (some ⟨b, off, none⟩) l.length cap] 27)) := (Below.refl _ _).alloc (Nat.le_refl _) _
        exact h2.trans ((hT.1.trans (below_sw hS (by omega) hg2)).mono (by omega))
      rw [hul]
      generalize Sort.insertionSort (ltOf (cmpF (m := m) l)) (allF m) 0 l.length = r at hsort hend
      have hEND := Lib.hid hend
      clear hend hcmp hR1 hH hSI hfz hT hT0 hsz hul
      go_wp2_with (go_at_call 30; refine hsort.mono ?_; rintro e w1 ⟨rfl, hS⟩)
      go_ret
      exact ⟨_, rfl, hEND.out _ hS⟩
end Go.Proofs.Yticfefiiiinadaa
