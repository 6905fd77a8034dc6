import Derived.Test.YtfabknabkcfpjaaRhI
import Derived.Test.YtfabknabkcfpjaaRhK
import Derived.Test.YtfabknabkcfpjaaRhU
import Derived.Lib.RowBridge
namespace Go.Proofs.Ytfabknabkcfpjaa
open Go.RowKit Go.Shelf Go.Sort
theorem holds_ints {w : World} {base g cap : Nat} {zs : List Int} (h : OwK encI 3 1 w base (.slice (some ⟨g, 0, none⟩) zs.length cap) zs) : Holds (Value.int .i64) w g 0 zs.toArray := by
  intro j hj
  have hj' : j < zs.length := by simpa using hj
  have h1 := World.ownsRow.cellAt h j (by omega)
  rw [flatI] at h1
  rw [Nat.zero_add, getElem!_pos zs.toArray j hj]
  exact ⟨h1.trans (by simp [hj']), World.ownsRow.frozenAt h j⟩
theorem reads_ints {w : World} {g cap n : Nat} {zs : List Int} {d : Array Int} (h : Holds (Value.int .i64) w g 0 d) (hl : g < w.heap.size) (hn : n = zs.length) (hz : ∀ (j : Nat) (z : Int), zs[j]? = some z → j < d.size ∧ d[j]! = z) : RdK encI 1 w (.slice (some ⟨g, 0, none⟩) n cap) zs := by
  refine ⟨_, cap, by rw [hn], fun j x hx => ⟨g, 0, rfl, hl, fun i u hu => ?_⟩⟩
  have hi : i = 0 := by have := (List.getElem?_eq_some_iff.1 hu).1; rw [encI_len] at this; omega
  subst hi
  obtain ⟨h1, h2⟩ := hz j x hx
  have h3 := (h j h1).1
  rw [h2] at h3
  have e : u = .int .i64 x := by
    unfold encI at hu
    simpa using hu.symm
  rw [e, show 0 + j * 1 + 0 = 0 + j by omega]
  exact h3
theorem kept_sw {w : World} {blk off n : Nat} {d : Array Int} {os : Array Obj} : Kept (fun i => i ≠ blk) w (sortWorld (Value.int .i64) w blk off n d os) := by
  refine ⟨rfl, rfl, rfl, SW.le ⟨n, os, rfl⟩, fun j hj hne => ?_⟩
  unfold sortWorld
  rw [heap_grow_old _ _ (by rw [size_putRow]; exact hj)]
  have : blk ≠ j := fun e => hne e.symm
  simp [putRow, mapBlock, Sort.ahead, Array.getElem?_modify, this]
theorem sw_lt {w : World} {blk off n : Nat} {d : Array Int} {os : Array Obj} (h : blk < w.heap.size) : blk < (sortWorld (Value.int .i64) w blk off n d os).heap.size := Nat.lt_of_lt_of_le h (SW.le ⟨n, os, rfl⟩)
/-- slices.Sort and slices.Compact, one behind the other. -/
theorem sortInts_c (v : Value) (base : Nat) (zs : List Int) (w : World) (hO : OwK encI 3 1 w base v zs) (hn : zs.length ≤ 1048576) :
    Calls Try.prog 61 #[v] w fun e w' => e = .returned (.tuple #[]) ∧ Kept (fun i => v.ownBlock ≠ some i) w w' ∧
      Calls Try.prog 62 #[v] w' fun e w2 => ∃ v' ys, e = .returned v' ∧ ys.Pairwise (· < ·) ∧ (∀ y, y ∈ ys ↔ y ∈ zs) ∧ RdK encI 1 w2 v' ys ∧ Kept (fun i => v.ownBlock ≠ some i) w w2 := by
  by_cases hne : zs = []
  · subst hne
    obtain ⟨p, c, rfl⟩ := hO.slice
    refine (Any.slices_Sort_int_none sortInts p c w).mono fun e w' ⟨h1, h2⟩ => ⟨h1, ?_, ?_⟩
    · subst h2; exact ⟨rfl, rfl, rfl, Nat.le_refl _, fun _ _ _ => rfl⟩
    · subst h2
      refine (Any.slices_Compact_int_empty compactInts p c w').mono fun e w2 ⟨h3, h4⟩ => ⟨_, [], h3, List.Pairwise.nil, fun y => Iff.rfl, ⟨p, c, rfl, fun j x hx => by simp at hx⟩, ?_⟩
      subst h4; exact ⟨rfl, rfl, rfl, Nat.le_refl _, fun _ _ _ => rfl⟩
  · obtain ⟨g, cap, rfl, _, hlt, _, _⟩ := hO.form encI_len hne
    have hcap : zs.length ≤ cap := by
      obtain ⟨_, h1⟩ := hO
      rcases h1 with ⟨h2, _⟩ | ⟨g', cap', cur, h2, _, _, h3, _⟩
      · simp at h2
      · simp only [Value.slice.injEq] at h2; omega
    have hH := holds_ints hO
    refine (Any.slices_Sort_int sortInts g 0 cap zs w hH hlt (by omega)).mono fun e w' ⟨h1, n, os, h2⟩ => ?_
    have hP := List.mergeSort_perm zs (fun x y => decide (x ≤ y))
    have hS : (zs.mergeSort fun x y => decide (x ≤ y)).Pairwise (· ≤ ·) := by
      have h := List.pairwise_mergeSort (le := fun x y : Int => decide (x ≤ y)) (fun a b c h1 h2 => by simp at *; omega) (fun a b => by simp; omega) zs
      exact h.imp (fun h => by simpa using h)
    generalize (zs.mergeSort fun x y => decide (x ≤ y)) = ss at hP hS h2
    have hsl : ss.length = zs.length := hP.length_eq
    have h2' : w' = sortWorld (Value.int .i64) w g 0 n ss.toArray os := h2
    clear h2
    subst h2'
    refine ⟨h1, ?_, ?_⟩
    · have hk := kept_sw (w := w) (blk := g) (off := 0) (n := n) (d := ss.toArray) (os := os)
      exact ⟨hk.1, hk.2.1, hk.2.2.1, hk.2.2.2.1, fun i hi hne => hk.2.2.2.2 i hi (fun e => hne (by rw [e]; rfl))⟩
    · have hH2 : Holds (Value.int .i64) (sortWorld (Value.int .i64) w g 0 n ss.toArray os) g 0 ss.toArray := holds_sortWorld _ w g 0 n zs.toArray ss.toArray os hlt hH (by simp [hsl])
      have hl2 := sw_lt (w := w) (blk := g) (off := 0) (n := n) (d := ss.toArray) (os := os) hlt
      rw [← hsl] at hcap ⊢
      refine (Any.slices_Compact_int compactInts g 0 cap ss _ hH2 (by omega) hcap).mono fun e w2 ⟨h3, q, h4⟩ => ?_
      obtain ⟨c1, c2⟩ := compact_sorted hS
      have hcl : (Lib.compact ss).length ≤ ss.length := Lib.compact_length_le ss
      refine ⟨_, Lib.compact ss, h3, c1, fun y => (c2 y).trans hP.mem_iff, ?_, ?_⟩
      · subst h4
        have hsz : (Lib.compact ss ++ List.replicate (ss.length - (Lib.compact ss).length) 0).toArray.size = ss.toArray.size := by simp; omega
        have hH3 := holds_sortWorld (Value.int .i64) (sortWorld (Value.int .i64) w g 0 n ss.toArray os) g 0 q ss.toArray (Lib.compact ss ++ List.replicate (ss.length - (Lib.compact ss).length) 0).toArray #[] hl2 hH2 hsz
        have hw : sortWorld (Value.int .i64) (sortWorld (Value.int .i64) w g 0 n ss.toArray os) g 0 q (Lib.compact ss ++ List.replicate (ss.length - (Lib.compact ss).length) 0).toArray #[] = putRow (Value.int .i64) (Sort.ahead (sortWorld (Value.int .i64) w g 0 n ss.toArray os) q) g 0 (Lib.compact ss ++ List.replicate (ss.length - (Lib.compact ss).length) 0).toArray := by
          unfold sortWorld; rw [grow_empty]
        rw [hw] at hH3
        refine reads_ints hH3 (by rw [size_putRow]; exact hl2) rfl fun j z hj => ?_
        have hj' := (List.getElem?_eq_some_iff.1 hj).1
        have hlt2 : j < (Lib.compact ss ++ List.replicate (ss.length - (Lib.compact ss).length) 0).toArray.size := by simp; omega
        refine ⟨hlt2, ?_⟩
        rw [getElem!_pos _ j hlt2]
        simp only [List.getElem_toArray]
        rw [List.getElem_append_left hj']
        exact (List.getElem?_eq_some_iff.1 hj).2
      · subst h4
        have hk := kept_sw (w := w) (blk := g) (off := 0) (n := n) (d := ss.toArray) (os := os)
        have hk2 := kept_sw (w := sortWorld (Value.int .i64) w g 0 n ss.toArray os) (blk := g) (off := 0) (n := q) (d := (Lib.compact ss ++ List.replicate (ss.length - (Lib.compact ss).length) 0).toArray) (os := #[])
        have hw : sortWorld (Value.int .i64) (sortWorld (Value.int .i64) w g 0 n ss.toArray os) g 0 q (Lib.compact ss ++ List.replicate (ss.length - (Lib.compact ss).length) 0).toArray #[] = putRow (Value.int .i64) (Sort.ahead (sortWorld (Value.int .i64) w g 0 n ss.toArray os) q) g 0 (Lib.compact ss ++ List.replicate (ss.length - (Lib.compact ss).length) 0).toArray := by
          unfold sortWorld; rw [grow_empty]
        rw [hw] at hk2
        have hk3 := hk.trans hk2
        exact ⟨hk3.1, hk3.2.1, hk3.2.2.1, hk3.2.2.2.1, fun i hi hne => hk3.2.2.2.2 i hi (fun e => hne (by rw [e]; rfl))⟩
/-- The rows at which sides' rectangles begin or end. -/
def cutsL (ds : List Sd) : List Int := ds.flatMap fun d => [d.r.y, d.r.y + d.r.h]
theorem cutsL_snoc {ds : List Sd} {j : Nat} {d : Sd} (h : ds[j]? = some d) : cutsL (ds.take (j + 1)) = cutsL (ds.take j) ++ [d.r.y, d.r.y + d.r.h] := by
  rw [take_snoc_get h]; unfold cutsL; rw [List.flatMap_append]; simp
theorem cutsL_len (ds : List Sd) : (cutsL ds).length = 2 * ds.length := by
  unfold cutsL
  induction ds with
  | nil => rfl
  | cons d t ih => rw [List.flatMap_cons, List.length_append, ih, List.length_cons]; simp; omega
/-- What cuts keeps. -/
def Cst2 (w0 : World) (v : Value) (zs : List Int) (wx : World) : Prop := OwK encI 3 1 wx w0.heap.size v zs ∧ Below w0.heap.size w0 wx
theorem Cst2.next {w0 wx w1 : World} {v : Value} {zs : List Int} (h : Cst2 w0 v zs wx) (hb : Below wx.heap.size wx w1) : Cst2 w0 v zs w1 := ⟨h.1.below hb, h.2.trans (hb.mono h.2.size)⟩
set_option maxRecDepth 100000 in
set_option maxHeartbeats 4000000 in
theorem cuts_c (sv : Value) (ds : List Sd) (w : World) (hS : RdK encS 7 w sv ds) (hn : ds.length ≤ 4096) (hok : ∀ d ∈ ds, okS d) :
    Calls Try.prog 40 #[sv] w fun e w' => ∃ v ys, e = .returned v ∧ ys.Pairwise (· < ·) ∧ (∀ y, y ∈ ys ↔ y ∈ cutsL ds) ∧ RdK encI 1 w' v ys ∧ Below w.heap.size w w' := by
  obtain ⟨p, c, rfl, hcell⟩ := hS
  have HC := Lib.hid hcell
  obtain ⟨n, hln⟩ : ∃ n, n = ds.length := ⟨_, rfl⟩
  rw [← hln] at hn ⊢
  have HN := Lib.hid hln
  have HOS := Lib.hid hok
  obtain ⟨i0, hi, hz0, hz1, hz2⟩ := info_parts intInfo
  have P0 : Cst2 w (.slice none 0 0) [] w := ⟨OwK.nil _ _, Below.refl _ _⟩
  clear hcell hln hok
  go_enter Try.func40, Try.ntmps40
  go_wp2_with fail
  go_loopw [3, 8] (fun vv z wr => ∃ j : Nat, j ≤ n ∧ z = .int .i64 j ∧ Cst2 w vv (cutsL (ds.take j)) wr) (fun _ z _ => n - (intOf z).toNat)
  case atStart => exact ⟨0, Nat.zero_le _, rfl, P0⟩
  case round =>
    obtain ⟨j, hj, rfl, P1⟩ := hrel
    clear P0
    by_cases hlt : j < n
    · obtain ⟨d, hx⟩ : ∃ d, ds[j]? = some d := ⟨_, List.getElem?_eq_getElem (by rw [← HN.out]; exact hlt)⟩
      have HX := Lib.hid (cutsL_snoc hx)
      obtain ⟨_, _, ⟨y1, y2⟩, z1, z2⟩ := HOS.out d (List.mem_of_getElem? hx)
      obtain ⟨b, o, rfl, hb1, hb2⟩ := HC.out j d hx
      obtain ⟨r0, r1, r2, r3, r4, r5, r6⟩ := RdK.side (w := wr) (fun i u hu => (P1.2.cell (p := ⟨b, o + j * 7 + i, none⟩) hb1).trans (hb2 i u hu))
      have hbl : b < wr.heap.size := Nat.lt_of_lt_of_le hb1 P1.2.size
      have HLEN := Lib.hid (show (cutsL (ds.take j)).length ≤ 8192 by rw [cutsL_len, List.length_take]; omega)
      obtain ⟨acc, hacc⟩ : ∃ acc, cutsL (ds.take j) = acc := ⟨_, rfl⟩
      rw [hacc] at P1 HLEN HX
      clear hb2 hx hacc
      have hi0 : (0 : Int) ≤ (j : Int) := by omega
      have hi1 : (j : Int) < (n : Int) := by omega
      have P2 := P1.next ((Below.refl _ _).alloc (Nat.le_refl _) (boxS d))
      unfold boxS at P2
      clear P1
      go_wp2_with (at_builtin; refine wpList_append_own_at _ rfl (.tmp 12) (.tmp 23) 49 rfl w.heap.size 3 i0 (.int .i64 0) 1 8 Try.underlying49 hi hz0 hz1 hz2 rfl (by decide) _ _ _ rfl (World.ownsRow.alloc P2.1 _) ⟨_, 0, none⟩ 2 2 [.int .i64 d.r.y, .int .i64 (d.r.y + d.r.h)] rfl rfl (cell_list_at _ _ _ _ (by simp)) (oneCell_ints [d.r.y, d.r.y + d.r.h]) (by have := HLEN.out; unfold maxLen; omega) (by have := HLEN.out; omega) (by simp; have := P2.2.size; simp at this; omega) ?_; intro v' w3 hown hg _ hat)
      have P5 : Cst2 w v' (cutsL (ds.take (j + 1))) w3 := by
        rw [HX.out]
        refine ⟨?_, below_only (P2.2.alloc P2.2.size _) hg (by simp; have := P2.2.size; simp at this; omega) (fun g e => (P2.1.lt e).1)⟩
        unfold OwK
        rw [List.length_append, List.flatMap_append]
        exact hown
      clear P2 hown hg hat
      go_wp2_with fail
      go_roundw
      case rel => exact ⟨j + 1, by omega, by go_num, P5⟩
      case measure => simp [intOf]; omega
    · obtain rfl : j = n := by omega
      have HT := Lib.hid (show cutsL (ds.take j) = cutsL ds by rw [HN.out, List.take_length])
      rw [HT.out] at P1
      have HS := Lib.hid (sortInts_c u3 w.heap.size (cutsL ds) wr P1.1 (by rw [cutsL_len]; have := HN.out; omega))
      go_wp2_with fail
      refine HS.out.mono ?_
      rintro e1 w1 ⟨rfl, hk, hC⟩
      have HCC := Lib.hid hC
      have B1 := Kept.below P1.2 hk P1.2.size (fun i hi e => by have := (P1.1.lt e).1; omega)
      have HB0 := Lib.hid P1.2
      have HV := Lib.hid (fun (i : Nat) (h : u3.ownBlock = some i) => (P1.1.lt h).1)
      clear hC hk P1
      go_wp2_with fail
      refine HCC.out.mono ?_
      rintro e2 w2 ⟨v', ys, rfl, h1, h2, h3, h4⟩
      have HQ := Lib.hid (show ys.Pairwise (· < ·) ∧ (∀ y, y ∈ ys ↔ y ∈ cutsL ds) ∧ RdK encI 1 w2 v' ys ∧ Below w.heap.size w w2 from
        ⟨h1, h2, h3, Kept.below HB0.out h4 HB0.out.size (fun i hi e => by have := HV.out i e; omega)⟩)
      clear h1 h2 h3 h4
      go_wp2_with fail
      go_ret
      exact ⟨v', ys, rfl, HQ.out⟩
end Go.Proofs.Ytfabknabkcfpjaa
