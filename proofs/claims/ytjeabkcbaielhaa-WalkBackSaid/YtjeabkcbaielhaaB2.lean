/- slices.Replace of one container by one or two. What walk.Move answers, plain; a row of kids that becomes another. walk.apart. slices.Replace at a kid of a tree that is held; the tree told behind it. walk.out. Two leaves of one split change places, in memory; what Move tells is fine. walk.into. walk.Move. -/
import Derived.Test.YtjeabkcbaielhaaBZ
import Derived.Test.YtjeabkcbaielhaaB1
import Derived.Test.YtjeabkcbaielhaaCpV
section
namespace Go.Proofs.Ytjeabkcbaielhaa.Co
open Go.RowKit Go.Shelf Go.Lib Go.Maps
/-- What a replacement leaves. -/
def RepR (B : Nat) (v : Value) (n i m : Nat) (xs ls : List Value) (w : World) (e : Ending) (w' : World) : Prop :=
  ∃ v', e = .returned v' ∧ w'.ownsRow B 24 5 v' (n + m - 1) (xs.take (i * 5) ++ ls ++ xs.drop ((i + 1) * 5)) ∧ w.grownBy w' v.ownBlock ∧ (v'.ownBlock = v.ownBlock ∨ ∃ r, v'.ownBlock = some r ∧ w.heap.size ≤ r)
theorem splice_rep {cur ls : List Value} {N i k : Nat} (hi : i + 5 ≤ N) (hk : k = 10 ∨ k = 5) (hl : ls.length = k) (hN : N + k ≤ cur.length + 5) :
    (((cur.take (i + k) ++ (cur.take N).drop (i + 5) ++ cur.drop (i + k + ((cur.take N).drop (i + 5)).length)).take i ++ ls ++ (cur.take (i + k) ++ (cur.take N).drop (i + 5) ++ cur.drop (i + k + ((cur.take N).drop (i + 5)).length)).drop (i + k))).take (N + k - 5) = (cur.take N).take i ++ ls ++ (cur.take N).drop (i + 5) := by
  have e1 : (cur.take (i + k) ++ (cur.take N).drop (i + 5) ++ cur.drop (i + k + ((cur.take N).drop (i + 5)).length)).take i = (cur.take N).take i := by
    rw [List.append_assoc, List.take_append_of_le_length (by simp; omega), List.take_take, List.take_take]
    congr 1; omega
  have e2 : (cur.take (i + k) ++ (cur.take N).drop (i + 5) ++ cur.drop (i + k + ((cur.take N).drop (i + 5)).length)).drop (i + k) = (cur.take N).drop (i + 5) ++ cur.drop (i + k + ((cur.take N).drop (i + 5)).length) := by
    rw [List.append_assoc, List.drop_append_of_le_length (by simp; omega)]
    rw [List.drop_take]
    simp
  rw [e1, e2, ← List.append_assoc]
  exact List.take_left' (by simp [hl]; omega)
theorem splice_new9 {xs ls Z : List Value} {N i : Nat} (hi : i + 5 ≤ N) (hx : xs.length = N) (hl : ls.length = 10) :
    ((((xs.take i ++ Z).take i ++ ls ++ (xs.take i ++ Z).drop (i + 10)).take (i + 10) ++ xs.drop (i + 5) ++ ((xs.take i ++ Z).take i ++ ls ++ (xs.take i ++ Z).drop (i + 10)).drop (i + 10 + (xs.drop (i + 5)).length))).take (N + 5) = xs.take i ++ ls ++ xs.drop (i + 5) := by
  have e0 : (xs.take i).length = i := by simp; omega
  have e1 : (xs.take i ++ Z).take i = xs.take i := List.take_left' e0
  have e2 : (xs.take i ++ ls ++ (xs.take i ++ Z).drop (i + 10)).take (i + 10) = xs.take i ++ ls := List.take_left' (by simp [hl]; omega)
  rw [e1, e2]
  exact List.take_left' (by simp [hl]; omega)
theorem splice_one {cur ls : List Value} {N i : Nat} (hi : i + 5 ≤ N) (hl : ls.length = 5) (hN : N ≤ cur.length) :
    (((cur.take i ++ ls ++ cur.drop (i + 5)).take (i + 5) ++ (cur.take N).drop (i + 5) ++ (cur.take i ++ ls ++ cur.drop (i + 5)).drop (i + 5 + ((cur.take N).drop (i + 5)).length))).take N = (cur.take N).take i ++ ls ++ (cur.take N).drop (i + 5) := by
  have e2 : (cur.take i ++ ls ++ cur.drop (i + 5)).take (i + 5) = (cur.take N).take i ++ ls := by
    rw [List.take_left' (by simp [hl]; omega), List.take_take]; congr 2; omega
  rw [e2]
  exact List.take_left' (by simp [hl]; omega)
set_option maxHeartbeats 2000000 in
set_option maxRecDepth 100000 in
theorem rep_end (B g n cap i vb m cv : Nat) (xs ls : List Value) (w : World) (ho : w.ownsRow B 24 5 (.slice (some ⟨g, 0, none⟩) n cap) n xs) (hv : ∀ j u, ls[j]? = some u → w.cell? ⟨vb, j, none⟩ = some u) (hl : ls.length = m * 5) (h1 : ∀ u ∈ ls, u.oneCell' = true) (hn : n ≤ 100000) (hi : i + 1 = n) (hm : 1 ≤ m) (hm2 : m ≤ 2) (hB : B ≤ w.heap.size) :
    Calls Try.prog 108 #[.slice (some ⟨g, 0, none⟩) n cap, .int .i64 (i : Int), .int .i64 ((i : Int) + 1), .slice (some ⟨vb, 0, none⟩) m cv] w (RepR B (.slice (some ⟨g, 0, none⟩) n cap) n i m xs ls w) := by
  obtain ⟨R, hR⟩ : ∃ R, R = RepR B (.slice (some ⟨g, 0, none⟩) n cap) n i m xs ls w := ⟨_, rfl⟩
  rw [← hR]
  have HR := Lib.hid hR
  obtain ⟨i0, hi0, hz0, hz1, hz2⟩ := con_info
  obtain ⟨hxl, hcase⟩ := ho
  rcases hcase with ⟨h3, _⟩ | ⟨g', cap', cur, h3, hBg, hg, hnc, hcm, hcs, hcx⟩
  · cases h3
  obtain ⟨e1, -, rfl⟩ := Value.slice.inj h3
  have e1 := Option.some.inj e1
  injection e1 with e1
  subst e1
  clear h3
  have hop : w.ownsRow B 24 5 (.slice (some ⟨g, 0, none⟩) i cap) i (xs.take (i * 5)) := ⟨by rw [List.length_take, hxl]; omega, .inr ⟨g, cap, cur, rfl, hBg, hg, by omega, hcm, hcs, by rw [← hcx, List.take_take]; congr 1; omega⟩⟩
  have hcells : ∀ j u, ls[j]? = some u → w.cell? ((⟨vb, 0, none⟩ : Addr).add j) = some u := fun j u hu => by
    rw [show (⟨vb, 0, none⟩ : Addr).add j = ⟨vb, j, none⟩ by unfold Addr.add; split <;> simp_all]
    exact hv j u hu
  have HO := Lib.hid hop
  have HC := Lib.hid hcells
  have H1 := Lib.hid h1
  have HL := Lib.hid hl
  have HBB := Lib.hid hB
  have HXL := Lib.hid hxl
  have hb5 : ((i : Int) == (i : Int) + 1) = false := by simp; omega
  have hb6 : ((i : Int) + 1 == (n : Int)) = true := by simp; omega
  have hb7 : (i : Int) + 1 ≤ (cap : Int) := by omega
  have hb8 : (i : Int) ≤ (i : Int) + 1 := by omega
  have hb9 : (0 : Int) ≤ (i : Int) + 1 := by omega
  have hb10 : i ≤ cap := by omega
  have hb11 : ¬ (i + m < n) := by omega
  have hb12 : ¬ ((i : Int) + (m : Int) < (n : Int)) := by omega
  clear hR hv hl h1 hcells hB hop hxl hg hcs hcx
  go_enter Try.func108, Try.ntmps108
  go_wp2_with (at_builtin; (refine wpList_append_own_at _ rfl (.tmp 32) (.tmp 33) 22 rfl B 24 i0 (.agg #[.int .i64 0, .int .i64 0, .int .i64 0, .int .i64 0, .slice none 0 0]) 5 56 Try.underlying22 hi0 hz0 hz1 hz2 rfl (by decide) _ i _ rfl HO.out ⟨vb, 0, none⟩ m cv ls rfl HL.out HC.out H1.out (by unfold maxLen; omega) (by omega) HBB.out ?_; intro v7 w7 ho7 hg7 hn7 hb7; obtain ⟨p7, c7, rfl⟩ := row_slice ho7; have HO7 := Lib.hid ho7; have HG7 := Lib.hid hg7; have HB7 := Lib.hid hb7; clear ho7 hg7 hn7 hb7))
  show R (.returned (.slice p7 (i + m) c7)) w7
  rw [HR.out]
  refine ⟨_, rfl, ?_, HG7.out, HB7.out.imp id fun h => ⟨_, h, Nat.le_refl _⟩⟩
  rw [List.drop_of_length_le (by rw [HXL.out]; omega), List.append_nil, show n + m - 1 = i + m by omega]
  exact HO7.out
set_option maxHeartbeats 4000000 in
set_option maxRecDepth 100000 in
theorem rep_in (B g n cap i vb cv : Nat) (xs ls : List Value) (w : World) (ho : w.ownsRow B 24 5 (.slice (some ⟨g, 0, none⟩) n cap) n xs) (hv : ∀ j u, ls[j]? = some u → w.cell? ⟨vb, j, none⟩ = some u) (hvs : ∃ cv9, w.heap[vb]? = some (.cells cv9 24 (0, 0)) ∧ cv9.size ≠ 0) (hl : ls.length = 10) (h1 : ∀ u ∈ ls, u.oneCell' = true) (hx1 : ∀ u ∈ xs, u.oneCell' = true) (hn : n ≤ 100000) (hi : i + 1 < n) (hroom : n + 1 ≤ cap) (hne : vb ≠ g) :
    Calls Try.prog 108 #[.slice (some ⟨g, 0, none⟩) n cap, .int .i64 (i : Int), .int .i64 ((i : Int) + 1), .slice (some ⟨vb, 0, none⟩) 2 cv] w (RepR B (.slice (some ⟨g, 0, none⟩) n cap) n i 2 xs ls w) := by
  obtain ⟨R, hR⟩ : ∃ R, R = RepR B (.slice (some ⟨g, 0, none⟩) n cap) n i 2 xs ls w := ⟨_, rfl⟩
  rw [← hR]
  have HR := Lib.hid hR
  obtain ⟨i0, hi0, hz0, hz1, hz2⟩ := con_info
  obtain ⟨hxl, hcase⟩ := ho
  rcases hcase with ⟨h3, _⟩ | ⟨g', cap', cur, h3, hBg, hg, hnc, hcm, hcs, hcx⟩
  · cases h3
  obtain ⟨e1, -, rfl⟩ := Value.slice.inj h3
  have e1 := Option.some.inj e1
  injection e1 with e1
  subst e1
  clear h3
  have hsz : ∀ w, (Go.sizeOf 24).run Try.prog w = .ok 5 w := fun w => by simp [Go.sizeOf, typeInfo, hi0, hz1]
  obtain ⟨cv9, hv9, hv8⟩ := hvs
  have hov : ∀ W : World, W.heap = w.heap → ∀ lb cb off, (callFunc 99 #[.slice (some ⟨g, off, none⟩) lb cb, .slice (some ⟨vb, 0, none⟩) 2 cv]).run Try.prog W = .ok (.value (.bool false)) W := fun W hW lb cb off => by
    rw [run_callFunc_extern Try.func99 (by kernel_rfl) (by kernel_rfl) (by kernel_rfl) (e := Extern.SlicesOverlaps.overlaps #[22, 22] #[4]) (by kernel_rfl),
      Lib.run_overlaps_apart W 22 4 24 Try.underlying22 5 hsz ⟨g, off, none⟩ ⟨vb, 0, none⟩ lb cb 2 cv (fun h => hne h.symm) 24 24 cur.size cv9.size (by simp [World.shape?, hW, hg]) (by simp [World.shape?, hW, hv9]) hv8 (by simp [World.frozen?, hW, hg]) (by simp [World.frozen?, hW, hg])]
    rfl
  have hcells : ∀ j u, ls[j]? = some u → w.cell? ⟨vb, j, none⟩ = some u := hv
  have hxc : ∀ j u, xs[j]? = some u → w.cell? ⟨g, j, none⟩ = some u := fun j u hu => by
    rw [cell_of_row w g j cur 24 (0, 0) hg, ← hu, ← hcx, List.getElem?_take_of_lt (by have := (List.getElem?_eq_some_iff.1 hu).1; omega)]; simp
  obtain ⟨ds, hds⟩ : ∃ ds, ds = xs.drop ((i + 1) * 5) := ⟨_, rfl⟩
  have hdl : ds.length = (n - (i + 1)) * 5 := by rw [hds, List.length_drop, hxl]; omega
  obtain ⟨c1, hc1⟩ : ∃ c1, c1 = (cur.toList.take (i * 5 + 10) ++ ds ++ cur.toList.drop (i * 5 + 10 + ds.length)).toArray := ⟨_, rfl⟩
  obtain ⟨c2, hc2⟩ : ∃ c2, c2 = (c1.toList.take (i * 5) ++ ls ++ c1.toList.drop (i * 5 + ls.length)).toArray := ⟨_, rfl⟩
  have hc1s : c1.size = cur.size := by rw [hc1]; simp; omega
  have hc2s : c2.size = cur.size := by rw [hc2]; simp [hc1s]; omega
  have hcp1 : ∀ W : World, W.heap = w.heap → ∀ ty dc sc, (Builtin.copy_ #[22, 22] ty #[.slice (some ⟨g, (i + 2) * 5, none⟩) (n + 1 - (i + 2)) dc, .slice (some ⟨g, (i + 1) * 5, none⟩) (n - (i + 1)) sc]).run Try.prog W = .ok (goInt ((n - (i + 1) : Nat) : Int)) (W.setRow g c1) := fun W hW ty dc sc => by
    have := run_copy5 (w := W) 22 ty Try.underlying22 hi0 hz1 g ((i + 2) * 5) (n + 1 - (i + 2)) dc ⟨g, (i + 1) * 5, none⟩ (n - (i + 1)) sc (n - (i + 1)) cur 24 ds (by rw [hW]; exact hg) (by simp only [Nat.min_def]; split <;> omega) hdl (fun j v hj => by
      rw [Addr.add_lit]; exact (cell_same (w := w) (w' := W) (by rw [hW]) _).trans (hxc _ _ (by rw [hds, List.getElem?_drop] at hj; exact hj))) (by rw [hdl]; omega) (fun u hu => hx1 u (by rw [hds] at hu; exact List.mem_of_mem_drop hu))
    rw [show (i + 2) * 5 = i * 5 + 10 by omega] at this ⊢
    rw [hc1]; exact this
  have hcp2 : ∀ (W : World), W.heap[g]? = some (.cells c1 24 (0, 0)) → W.heap[vb]? = w.heap[vb]? → ∀ ty dc, (Builtin.copy_ #[22, 22] ty #[.slice (some ⟨g, i * 5, none⟩) (n + 1 - i) dc, .slice (some ⟨vb, 0, none⟩) 2 cv]).run Try.prog W = .ok (goInt ((2 : Nat) : Int)) (W.setRow g c2) := fun W hW h9 ty dc => by
    have := run_copy5 (w := W) 22 ty Try.underlying22 hi0 hz1 g (i * 5) (n + 1 - i) dc ⟨vb, 0, none⟩ 2 cv 2 c1 24 ls hW (by simp only [Nat.min_def]; split <;> omega) (by omega) (fun j v hj => by
      rw [Addr.add_lit, Nat.zero_add]
      exact (cell_same h9 j).trans (hcells j v hj)) (by omega) h1
    rw [hc2]; exact this
  have hfin : ∀ W0 W1 W2 W3 : World, W0.heap = w.heap → W1 = W0.setRow g c1 → W2.heap = W1.heap → W3 = W2.setRow g c2 → W3.os = w.os → W3.tape = w.tape → W3.output = w.output → RepR B (.slice (some ⟨g, 0, none⟩) n cap) n i 2 xs ls w (.returned (.slice (some ⟨g, 0, none⟩) (n + 1) cap)) W3 := fun W0 W1 W2 W3 h0 h1' h2 h3 ho1 ho2 ho3 => by
    have hg1 : W2.heap[g]? = some (.cells c1 24 (0, 0)) := by rw [h2, h1']; exact setRow_heap W0 g cur c1 24 _ (by rw [h0]; exact hg)
    subst h3
    refine ⟨_, rfl, row_ins (cur := c2) (setRow_heap W2 g c1 c2 24 _ hg1) hBg (by rw [hc2s]; exact hcs) (by omega) hcm (by simp [hl, hxl]; omega) ?_, ⟨ho1, ho2, ho3, ?_, fun b hb hbg => ?_⟩, .inl rfl⟩
    · have := splice_rep (cur := cur.toList) (ls := ls) (N := n * 5) (i := i * 5) (k := 10) (by omega) (.inl rfl) hl (by rw [Array.length_toList]; omega)
      rw [hcx, show i * 5 + 5 = (i + 1) * 5 by omega, ← hds] at this
      rw [← hds, ← this, hc2, hc1, hl, show (n + 1) * 5 = n * 5 + 10 - 5 by omega]
    · have e1 : (W2.setRow g c2).heap.size = W2.heap.size := by simp [World.setRow]
      have e2 : (W0.setRow g c1).heap.size = W0.heap.size := by simp [World.setRow]
      rw [e1, h2, h1', e2, h0]; exact Nat.le_refl _
    · have hbn : b ≠ g := fun e => hbg (by rw [e]; rfl)
      rw [setRow_other W2 g b c2 hbn, h2, h1', setRow_other W0 g b c1 hbn, h0]
  have hoth : ∀ W : World, W.heap = w.heap → (W.setRow g c1).heap[vb]? = w.heap[vb]? ∧ (W.setRow g c1).heap[g]? = some (.cells c1 24 (0, 0)) := fun W h => ⟨by rw [setRow_other W g vb c1 hne, h], setRow_heap W g cur c1 24 _ (by rw [h]; exact hg)⟩
  have HFIN := Lib.hid hfin
  have HOTH := Lib.hid hoth
  have HCP1 := Lib.hid hcp1
  have HCP2 := Lib.hid hcp2
  have HOV := Lib.hid hov
  have hw2 : IntKind.i64.wrap ((i : Int) + 2) = (i : Int) + 2 := by rw [IntKind.wrap_i64]; omega
  have hw1 : IntKind.i64.wrap ((i : Int) + 1) = (i : Int) + 1 := by rw [IntKind.wrap_i64]; omega
  have hwt : IntKind.i64.wrap (((i : Int) + 2) + ((n - (i + 1) : Nat) : Int)) = (n : Int) + 1 := by rw [IntKind.wrap_i64]; omega
  have htn : ((i : Int) + 1).toNat = i + 1 := by omega
  have htn2 : ((i : Int) + 2).toNat = i + 2 := by omega
  have htn3 : ((n : Int) + 1).toNat = n + 1 := by omega
  have hb1 : (0 : Int) ≤ (i : Int) + 1 := by omega
  have hb1b : (0 : Int) ≤ (i : Int) + 2 := by omega
  have hb1c : (0 : Int) ≤ (n : Int) + 1 := by omega
  have hb2 : ¬ (cap = i + 1) := by omega
  have hb2b : ¬ (cap = i + 2) := by omega
  have hb4 : ¬ (cap = i) := by omega
  have hin : i ≤ n := by omega
  have hin1 : i + 1 ≤ n := by omega
  have hin2 : i ≤ n + 1 := by omega
  have hin3 : i + 2 ≤ n + 1 := by omega
  have hin4 : i ≤ cap := by omega
  have hin5 : i + 1 ≤ cap := by omega
  have hb3 : (i : Int) ≤ (n : Int) + 1 := by omega
  have hb3b : (i : Int) + 2 ≤ (n : Int) + 1 := by omega
  have hb3c : (i : Int) + 1 ≤ (n : Int) := by omega
  have hb3d : (i : Int) ≤ (i : Int) + 1 := by omega
  have hb3e : (i : Int) + 1 ≤ (cap : Int) := by omega
  have hb3f : (n : Int) + 1 ≤ (cap : Int) := by omega
  have hb5 : ((i : Int) == (i : Int) + 1) = false := by simp; omega
  have hb6 : ((i : Int) + 1 == (n : Int)) = false := by simp; omega
  have hb7 : ¬ ((cap : Int) < (n : Int) + 1) := by omega
  have hb8 : ¬ ((i : Int) + 2 ≤ (i : Int) + 1) := by omega
  clear hR hv hl h1 hx1 hxl hBg hg hcm hcs hcx hsz hov hcells hxc hds hdl hc1 hc2 hc1s hc2s hcp1 hcp2 hfin hoth hi0 hz0 hz1 hz2 hv9 hv8
  go_enter Try.func108, Try.ntmps108
  go_upto_region 9 with fail
  refine wp_region_noPanic ?_
  refine wp_region_held_drew (S := fun _ => True) (by kernel_rfl) (by trivial) (fun hHeld => ?_)
  refine wpAnyH_take (i := 0) (v := ?v0) rfl (by kernel_rfl) (by kernel_rfl) (by kernel_rfl) (fun _ _ _ h => h) (Or.inl ⟨by kernel_rfl, ?y0⟩) (by assumption) ?r0
  case y0 => (intro wq hSw; (try dsimp only at hSw); go_simp; (try with_reducible rfl))
  (try simp only [Act.put, List.getElem_toArray, List.getElem_cons_zero, List.setIfInBounds_toArray, List.set_cons_zero, List.set_cons_succ])
  refine wpAnyH_take (i := 1) (v := ?v1) rfl (by kernel_rfl) (by kernel_rfl) (by kernel_rfl) (fun _ _ _ h => h) (Or.inl ⟨by kernel_rfl, ?y1⟩) (by assumption) ?r1
  case y1 => (intro wq hSw; (try dsimp only at hSw); go_simp; (try with_reducible rfl))
  (try simp only [Act.put, List.getElem_toArray, List.getElem_cons_succ, List.getElem_cons_zero, List.setIfInBounds_toArray, List.set_cons_zero, List.set_cons_succ])
  refine wpAnyH_take (i := 2) (v := ?v2) rfl (by kernel_rfl) (by kernel_rfl) (by kernel_rfl) (fun _ _ _ h => h) (Or.inl ⟨by kernel_rfl, ?y2⟩) (by assumption) ?r2
  case y2 => (intro wq hSw; (try dsimp only at hSw); go_simp; (try with_reducible rfl))
  (try simp only [Act.put, List.getElem_toArray, List.getElem_cons_succ, List.getElem_cons_zero, List.setIfInBounds_toArray, List.set_cons_zero, List.set_cons_succ])
  refine wpAnyH_take (i := 3) (v := ?v3) rfl (by kernel_rfl) (by kernel_rfl) (by kernel_rfl) (fun _ _ _ h => h) (Or.inl ⟨by kernel_rfl, ?y3⟩) (by assumption) ?r3
  case y3 => (intro wq hSw; (try dsimp only at hSw); go_simp; (try with_reducible rfl))
  (try simp only [Act.put, List.getElem_toArray, List.getElem_cons_succ, List.getElem_cons_zero, List.setIfInBounds_toArray, List.set_cons_zero, List.set_cons_succ])
  refine wpAnyH_take (i := 4) (v := ?v4) rfl (by kernel_rfl) (by kernel_rfl) (by kernel_rfl) (fun _ _ _ h => h) (Or.inl ⟨by kernel_rfl, ?y4⟩) (by assumption) ?r4
  case y4 => (intro wq hSw; (try dsimp only at hSw); go_simp; (try with_reducible rfl))
  (try simp only [Act.put, List.getElem_toArray, List.getElem_cons_succ, List.getElem_cons_zero, List.setIfInBounds_toArray, List.set_cons_zero, List.set_cons_succ])
  refine wpAnyH_take (i := 5) (v := ?v5) rfl (by kernel_rfl) (by kernel_rfl) (by kernel_rfl) (fun _ _ _ h => h) (Or.inl ⟨by kernel_rfl, ?y5⟩) (by assumption) ?r5
  case y5 => (intro wq hSw; (try dsimp only at hSw); go_simp; (try with_reducible rfl))
  (try simp only [Act.put, List.getElem_toArray, List.getElem_cons_succ, List.getElem_cons_zero, List.setIfInBounds_toArray, List.set_cons_zero, List.set_cons_succ])
  refine wpAnyH_take (i := 6) (v := ?v6) rfl (by kernel_rfl) (by kernel_rfl) (by kernel_rfl) (fun _ _ _ h => h) (Or.inl ⟨by kernel_rfl, ?y6⟩) (by assumption) ?r6
  case y6 => (intro wq hSw; (try dsimp only at hSw); go_simp; (try with_reducible rfl))
  (try simp only [Act.put, List.getElem_toArray, List.getElem_cons_succ, List.getElem_cons_zero, List.setIfInBounds_toArray, List.set_cons_zero, List.set_cons_succ])
  refine wpAnyH_take (i := 7) (v := ?v7) rfl (by kernel_rfl) (by kernel_rfl) (by kernel_rfl) (fun _ _ _ h => h) (Or.inl ⟨by kernel_rfl, ?y7⟩) (by assumption) ?r7
  case y7 => (intro wq hSw; (try dsimp only at hSw); go_simp; (try with_reducible rfl))
  (try simp only [Act.put, List.getElem_toArray, List.getElem_cons_succ, List.getElem_cons_zero, List.setIfInBounds_toArray, List.set_cons_zero, List.set_cons_succ])
  refine wpAnyH_take (i := 8) (v := ?v8) rfl (by kernel_rfl) (by kernel_rfl) (by kernel_rfl) (fun _ _ _ h => h) (Or.inl ⟨by kernel_rfl, ?y8⟩) (by assumption) ?r8
  case y8 => (intro wq hSw; (try dsimp only at hSw); go_simp; (try with_reducible rfl))
  (try simp only [Act.put, List.getElem_toArray, List.getElem_cons_succ, List.getElem_cons_zero, List.setIfInBounds_toArray, List.set_cons_zero, List.set_cons_succ])
  refine wpAnyH_take (i := 9) (v := ?v9) rfl (by kernel_rfl) (by kernel_rfl) (by kernel_rfl) (fun _ _ _ h => h) (Or.inl ⟨by kernel_rfl, ?y9⟩) (by assumption) ?r9
  case y9 => (intro wq hSw; (try dsimp only at hSw); go_simp; (try with_reducible rfl))
  (try simp only [Act.put, List.getElem_toArray, List.getElem_cons_succ, List.getElem_cons_zero, List.setIfInBounds_toArray, List.set_cons_zero, List.set_cons_succ])
  refine wpAnyH_take (i := 10) (v := ?v10) rfl (by kernel_rfl) (by kernel_rfl) (by kernel_rfl) (fun _ _ _ h => h) (Or.inl ⟨by kernel_rfl, ?y10⟩) (by assumption) ?r10
  case y10 => (intro wq hSw; (try dsimp only at hSw); go_simp; (try with_reducible rfl))
  (try simp only [Act.put, List.getElem_toArray, List.getElem_cons_succ, List.getElem_cons_zero, List.setIfInBounds_toArray, List.set_cons_zero, List.set_cons_succ])
  refine wpAnyH_take (i := 11) (v := ?v11) rfl (by kernel_rfl) (by kernel_rfl) (by kernel_rfl) (fun _ _ _ h => h) (Or.inl ⟨by kernel_rfl, ?y11⟩) (by assumption) ?r11
  case y11 => (intro wq hSw; (try dsimp only at hSw); go_simp; (try with_reducible rfl))
  (try simp only [Act.put, List.getElem_toArray, List.getElem_cons_succ, List.getElem_cons_zero, List.setIfInBounds_toArray, List.set_cons_zero, List.set_cons_succ])
  refine wpAnyH_take (i := 12) (v := ?v12) rfl (by kernel_rfl) (by kernel_rfl) (by kernel_rfl) (fun _ _ _ h => h) (Or.inl ⟨by kernel_rfl, ?y12⟩) (by assumption) ?r12
  case y12 => (intro wq hSw; (try dsimp only at hSw); go_simp; (try with_reducible rfl))
  (try simp only [Act.put, List.getElem_toArray, List.getElem_cons_succ, List.getElem_cons_zero, List.setIfInBounds_toArray, List.set_cons_zero, List.set_cons_succ])
  refine wpAnyH_done (by kernel_rfl) ?_ _
  refine NoPanic.normal ?_
  have HOVD := Lib.hid (HOV.out w.drew rfl)
  go_upto_region 22 with (simp only [HOVD.out])
  go_region_law (refine step_copy_runI rfl (.tmp 126) (.tmp 129) 22 22 rfl (.slice (some ⟨g, (i + 2) * 5, none⟩) (n + 1 - (i + 2)) (cap - (i + 2))) (.slice (some ⟨g, (i + 1) * 5, none⟩) (n - (i + 1)) (cap - (i + 1))) (by simp [Act.eval, Act.put]) (by simp [Act.eval, Act.put]) (HCP1.out w.drew.drew rfl _ _ _) ?_)
  have HCPB := Lib.hid (HCP2.out (w.drew.drew.setRow g c1) (HOTH.out w.drew.drew rfl).2 (HOTH.out w.drew.drew rfl).1)
  go_wp2_with ((with_reducible refine wpList_copy_runI _ rfl (.tmp 133) (.tmp 134) 22 22 rfl (.slice (some ⟨g, i * 5, none⟩) (n + 1 - i) (cap - i)) (.slice (some ⟨vb, 0, none⟩) 2 cv) rfl rfl (HCPB.out _ _) ?_))
  show R (.returned (.slice (some ⟨g, 0, none⟩) (n + 1) cap)) ((w.drew.drew.setRow g c1).setRow g c2)
  rw [HR.out]
  exact HFIN.out w.drew.drew _ _ _ rfl rfl rfl rfl rfl rfl rfl
set_option maxHeartbeats 4000000 in
set_option maxRecDepth 100000 in
theorem rep_one (B g n cap i vb cv : Nat) (xs ls : List Value) (w : World) (ho : w.ownsRow B 24 5 (.slice (some ⟨g, 0, none⟩) n cap) n xs) (hv : ∀ j u, ls[j]? = some u → w.cell? ⟨vb, j, none⟩ = some u) (hl : ls.length = 5) (h1 : ∀ u ∈ ls, u.oneCell' = true) (hx1 : ∀ u ∈ xs, u.oneCell' = true) (hn : n ≤ 100000) (hi : i + 1 < n) (_hne : vb ≠ g) :
    Calls Try.prog 108 #[.slice (some ⟨g, 0, none⟩) n cap, .int .i64 (i : Int), .int .i64 ((i : Int) + 1), .slice (some ⟨vb, 0, none⟩) 1 cv] w (RepR B (.slice (some ⟨g, 0, none⟩) n cap) n i 1 xs ls w) := by
  obtain ⟨R, hR⟩ : ∃ R, R = RepR B (.slice (some ⟨g, 0, none⟩) n cap) n i 1 xs ls w := ⟨_, rfl⟩
  rw [← hR]
  have HR := Lib.hid hR
  obtain ⟨i0, hi0, hz0, hz1, hz2⟩ := con_info
  obtain ⟨hxl, hcase⟩ := ho
  rcases hcase with ⟨h3, _⟩ | ⟨g', cap', cur, h3, hBg, hg, hnc, hcm, hcs, hcx⟩
  · cases h3
  obtain ⟨e1, -, rfl⟩ := Value.slice.inj h3
  have e1 := Option.some.inj e1
  injection e1 with e1
  subst e1
  clear h3
  have hcells : ∀ j u, ls[j]? = some u → w.cell? ⟨vb, j, none⟩ = some u := hv
  have hxc : ∀ j u, xs[j]? = some u → w.cell? ⟨g, j, none⟩ = some u := fun j u hu => by
    rw [cell_of_row w g j cur 24 (0, 0) hg, ← hu, ← hcx, List.getElem?_take_of_lt (by have := (List.getElem?_eq_some_iff.1 hu).1; omega)]; simp
  obtain ⟨ds, hds⟩ : ∃ ds, ds = xs.drop ((i + 1) * 5) := ⟨_, rfl⟩
  have hdl : ds.length = (n - (i + 1)) * 5 := by rw [hds, List.length_drop, hxl]; omega
  obtain ⟨c1, hc1⟩ : ∃ c1, c1 = (cur.toList.take (i * 5) ++ ls ++ cur.toList.drop (i * 5 + ls.length)).toArray := ⟨_, rfl⟩
  obtain ⟨c2, hc2⟩ : ∃ c2, c2 = (c1.toList.take (i * 5 + 5) ++ ds ++ c1.toList.drop (i * 5 + 5 + ds.length)).toArray := ⟨_, rfl⟩
  have hc1s : c1.size = cur.size := by rw [hc1]; simp; omega
  have hc2s : c2.size = cur.size := by rw [hc2]; simp [hc1s]; omega
  have hcp1 : ∀ W : World, W.heap = w.heap → ∀ ty dc, (Builtin.copy_ #[22, 22] ty #[.slice (some ⟨g, i * 5, none⟩) (n - i) dc, .slice (some ⟨vb, 0, none⟩) 1 cv]).run Try.prog W = .ok (goInt ((1 : Nat) : Int)) (W.setRow g c1) := fun W hW ty dc => by
    have := run_copy5 (w := W) 22 ty Try.underlying22 hi0 hz1 g (i * 5) (n - i) dc ⟨vb, 0, none⟩ 1 cv 1 cur 24 ls (by rw [hW]; exact hg) (by simp only [Nat.min_def]; split <;> omega) (by omega) (fun j v hj => by
      rw [Addr.add_lit, Nat.zero_add]
      exact (cell_same (w := w) (w' := W) (by rw [hW]) j).trans (hcells j v hj)) (by omega) h1
    rw [hc1]; exact this
  have hd1 : ∀ (j : Nat) v, ds[j]? = some v → c1[(i + 1) * 5 + j]? = some v := fun j v hj => by
    have hjl := (List.getElem?_eq_some_iff.1 hj).1
    rw [hdl] at hjl
    rw [hds, List.getElem?_drop, ← hcx, List.getElem?_take_of_lt (by omega)] at hj
    rw [hc1, List.getElem?_toArray, List.getElem?_append_right (by simp [hl]; omega)]
    simp only [List.length_append, List.length_take, Array.length_toList, hl, List.getElem?_drop]
    rw [← hj]
    congr 1
    omega
  have hcp2 : ∀ (W : World), W.heap[g]? = some (.cells c1 24 (0, 0)) → ∀ ty dc sc, (Builtin.copy_ #[22, 22] ty #[.slice (some ⟨g, (i + 1) * 5, none⟩) (n - (i + 1)) dc, .slice (some ⟨g, (i + 1) * 5, none⟩) (n - (i + 1)) sc]).run Try.prog W = .ok (goInt ((n - (i + 1) : Nat) : Int)) (W.setRow g c2) := fun W hW ty dc sc => by
    have := run_copy5 (w := W) 22 ty Try.underlying22 hi0 hz1 g ((i + 1) * 5) (n - (i + 1)) dc ⟨g, (i + 1) * 5, none⟩ (n - (i + 1)) sc (n - (i + 1)) c1 24 ds hW (by simp only [Nat.min_def]; split <;> omega) hdl (fun j v hj => by
      rw [Addr.add_lit, cell_of_row W g _ c1 24 (0, 0) hW]; exact hd1 j v hj) (by rw [hdl]; omega) (fun u hu => hx1 u (by rw [hds] at hu; exact List.mem_of_mem_drop hu))
    rw [show (i + 1) * 5 = i * 5 + 5 by omega] at this ⊢
    rw [hc2]; exact this
  have hcl : ∀ (W : World) (q : Option Addr) (c : Nat) ty, (Builtin.clear_ #[22] ty #[.slice q 0 c]).run Try.prog W = .ok (.tuple #[]) W := fun W q c ty => by
    cases q <;> simp [Builtin.clear_, run_underlying Try.underlying22]
  have hfin : ∀ W0 W1 W2 W3 : World, W0.heap = w.heap → W1 = W0.setRow g c1 → W2.heap = W1.heap → W3.heap = (W2.setRow g c2).heap → W3.os = w.os → W3.tape = w.tape → W3.output = w.output → RepR B (.slice (some ⟨g, 0, none⟩) n cap) n i 1 xs ls w (.returned (.slice (some ⟨g, 0, none⟩) n cap)) W3 := fun W0 W1 W2 W3 h0 h1' h2 h3 ho1 ho2 ho3 => by
    have hg1 : W2.heap[g]? = some (.cells c1 24 (0, 0)) := by rw [h2, h1']; exact setRow_heap W0 g cur c1 24 _ (by rw [h0]; exact hg)
    refine ⟨_, rfl, row_ins (cur := c2) (by rw [h3]; exact setRow_heap W2 g c1 c2 24 _ hg1) hBg (by rw [hc2s]; exact hcs) (by omega) hcm (by simp [hl, hxl]; omega) ?_, ⟨ho1, ho2, ho3, ?_, fun b hb hbg => ?_⟩, .inl rfl⟩
    · have := splice_one (cur := cur.toList) (ls := ls) (N := n * 5) (i := i * 5) (by omega) hl (by rw [Array.length_toList]; omega)
      rw [hcx, show i * 5 + 5 = (i + 1) * 5 by omega, ← hds] at this
      rw [← hds, ← this, hc2, hc1, hl, show i * 5 + 5 = (i + 1) * 5 by omega]
    · have e1 : (W2.setRow g c2).heap.size = W2.heap.size := by simp [World.setRow]
      have e2 : (W0.setRow g c1).heap.size = W0.heap.size := by simp [World.setRow]
      rw [h3, e1, h2, h1', e2, h0]; exact Nat.le_refl _
    · have hbn : b ≠ g := fun e => hbg (by rw [e]; rfl)
      rw [h3, setRow_other W2 g b c2 hbn, h2, h1', setRow_other W0 g b c1 hbn, h0]
  have hoth : ∀ W : World, W.heap = w.heap → (W.setRow g c1).heap[g]? = some (.cells c1 24 (0, 0)) := fun W h => setRow_heap W g cur c1 24 _ (by rw [h]; exact hg)
  have HFIN := Lib.hid hfin
  have HOTH := Lib.hid hoth
  have HCP1 := Lib.hid hcp1
  have HCP2 := Lib.hid hcp2
  have hw1 : IntKind.i64.wrap ((i : Int) + 1) = (i : Int) + 1 := by rw [IntKind.wrap_i64]; omega
  have hwt : IntKind.i64.wrap (((i : Int) + 1) + ((n - (i + 1) : Nat) : Int)) = (n : Int) := by rw [IntKind.wrap_i64]; omega
  have htn : ((i : Int) + 1).toNat = i + 1 := by omega
  have hb1 : (0 : Int) ≤ (i : Int) + 1 := by omega
  have hb2 : ¬ (cap = i + 1) := by omega
  have hb4 : ¬ (cap = i) := by omega
  have hin : i ≤ n := by omega
  have hin1 : i + 1 ≤ n := by omega
  have hin4 : i ≤ cap := by omega
  have hin5 : i + 1 ≤ cap := by omega
  have hb3 : (i : Int) ≤ (n : Int) := by omega
  have hb3c : (i : Int) + 1 ≤ (n : Int) := by omega
  have hb3d : (i : Int) ≤ (i : Int) + 1 := by omega
  have hb3e : (i : Int) + 1 ≤ (cap : Int) := by omega
  have hb3f : (n : Int) ≤ (cap : Int) := by omega
  have hb5 : ((i : Int) == (i : Int) + 1) = false := by simp; omega
  have hb6 : ((i : Int) + 1 == (n : Int)) = false := by simp; omega
  have hb7 : ¬ ((cap : Int) < (n : Int)) := by omega
  have hb7n : ¬ (cap < n) := by omega
  have hmn : min 1 (n - i) = 1 := by omega
  clear hR hv hl h1 hx1 hxl hBg hg hcm hcs hcx hcells hxc hds hdl hc1 hc2 hc1s hc2s hcp1 hcp2 hfin hoth hi0 hz0 hz1 hz2 hd1
  go_enter Try.func108, Try.ntmps108
  go_upto_region 9 with fail
  refine wp_region_noPanic ?_
  refine wp_region_held_drew (S := fun _ => True) (by kernel_rfl) (by trivial) (fun hHeld => ?_)
  refine wpAnyH_take (i := 0) (v := ?v0) rfl (by kernel_rfl) (by kernel_rfl) (by kernel_rfl) (fun _ _ _ h => h) (Or.inl ⟨by kernel_rfl, ?y0⟩) (by assumption) ?r0
  case y0 => (intro wq hSw; (try dsimp only at hSw); go_simp; (try with_reducible rfl))
  (try simp only [Act.put, List.getElem_toArray, List.getElem_cons_zero, List.setIfInBounds_toArray, List.set_cons_zero, List.set_cons_succ])
  refine wpAnyH_take (i := 1) (v := ?v1) rfl (by kernel_rfl) (by kernel_rfl) (by kernel_rfl) (fun _ _ _ h => h) (Or.inl ⟨by kernel_rfl, ?y1⟩) (by assumption) ?r1
  case y1 => (intro wq hSw; (try dsimp only at hSw); go_simp; (try with_reducible rfl))
  (try simp only [Act.put, List.getElem_toArray, List.getElem_cons_succ, List.getElem_cons_zero, List.setIfInBounds_toArray, List.set_cons_zero, List.set_cons_succ])
  refine wpAnyH_take (i := 2) (v := ?v2) rfl (by kernel_rfl) (by kernel_rfl) (by kernel_rfl) (fun _ _ _ h => h) (Or.inl ⟨by kernel_rfl, ?y2⟩) (by assumption) ?r2
  case y2 => (intro wq hSw; (try dsimp only at hSw); go_simp; (try with_reducible rfl))
  (try simp only [Act.put, List.getElem_toArray, List.getElem_cons_succ, List.getElem_cons_zero, List.setIfInBounds_toArray, List.set_cons_zero, List.set_cons_succ])
  refine wpAnyH_take (i := 3) (v := ?v3) rfl (by kernel_rfl) (by kernel_rfl) (by kernel_rfl) (fun _ _ _ h => h) (Or.inl ⟨by kernel_rfl, ?y3⟩) (by assumption) ?r3
  case y3 => (intro wq hSw; (try dsimp only at hSw); go_simp; (try with_reducible rfl))
  (try simp only [Act.put, List.getElem_toArray, List.getElem_cons_succ, List.getElem_cons_zero, List.setIfInBounds_toArray, List.set_cons_zero, List.set_cons_succ])
  refine wpAnyH_take (i := 4) (v := ?v4) rfl (by kernel_rfl) (by kernel_rfl) (by kernel_rfl) (fun _ _ _ h => h) (Or.inl ⟨by kernel_rfl, ?y4⟩) (by assumption) ?r4
  case y4 => (intro wq hSw; (try dsimp only at hSw); go_simp; (try with_reducible rfl))
  (try simp only [Act.put, List.getElem_toArray, List.getElem_cons_succ, List.getElem_cons_zero, List.setIfInBounds_toArray, List.set_cons_zero, List.set_cons_succ])
  refine wpAnyH_take (i := 5) (v := ?v5) rfl (by kernel_rfl) (by kernel_rfl) (by kernel_rfl) (fun _ _ _ h => h) (Or.inl ⟨by kernel_rfl, ?y5⟩) (by assumption) ?r5
  case y5 => (intro wq hSw; (try dsimp only at hSw); go_simp; (try with_reducible rfl))
  (try simp only [Act.put, List.getElem_toArray, List.getElem_cons_succ, List.getElem_cons_zero, List.setIfInBounds_toArray, List.set_cons_zero, List.set_cons_succ])
  refine wpAnyH_take (i := 6) (v := ?v6) rfl (by kernel_rfl) (by kernel_rfl) (by kernel_rfl) (fun _ _ _ h => h) (Or.inl ⟨by kernel_rfl, ?y6⟩) (by assumption) ?r6
  case y6 => (intro wq hSw; (try dsimp only at hSw); go_simp; (try with_reducible rfl))
  (try simp only [Act.put, List.getElem_toArray, List.getElem_cons_succ, List.getElem_cons_zero, List.setIfInBounds_toArray, List.set_cons_zero, List.set_cons_succ])
  refine wpAnyH_take (i := 7) (v := ?v7) rfl (by kernel_rfl) (by kernel_rfl) (by kernel_rfl) (fun _ _ _ h => h) (Or.inl ⟨by kernel_rfl, ?y7⟩) (by assumption) ?r7
  case y7 => (intro wq hSw; (try dsimp only at hSw); go_simp; (try with_reducible rfl))
  (try simp only [Act.put, List.getElem_toArray, List.getElem_cons_succ, List.getElem_cons_zero, List.setIfInBounds_toArray, List.set_cons_zero, List.set_cons_succ])
  refine wpAnyH_take (i := 8) (v := ?v8) rfl (by kernel_rfl) (by kernel_rfl) (by kernel_rfl) (fun _ _ _ h => h) (Or.inl ⟨by kernel_rfl, ?y8⟩) (by assumption) ?r8
  case y8 => (intro wq hSw; (try dsimp only at hSw); go_simp; (try with_reducible rfl))
  (try simp only [Act.put, List.getElem_toArray, List.getElem_cons_succ, List.getElem_cons_zero, List.setIfInBounds_toArray, List.set_cons_zero, List.set_cons_succ])
  refine wpAnyH_take (i := 9) (v := ?v9) rfl (by kernel_rfl) (by kernel_rfl) (by kernel_rfl) (fun _ _ _ h => h) (Or.inl ⟨by kernel_rfl, ?y9⟩) (by assumption) ?r9
  case y9 => (intro wq hSw; (try dsimp only at hSw); go_simp; (try with_reducible rfl))
  (try simp only [Act.put, List.getElem_toArray, List.getElem_cons_succ, List.getElem_cons_zero, List.setIfInBounds_toArray, List.set_cons_zero, List.set_cons_succ])
  refine wpAnyH_take (i := 10) (v := ?v10) rfl (by kernel_rfl) (by kernel_rfl) (by kernel_rfl) (fun _ _ _ h => h) (Or.inl ⟨by kernel_rfl, ?y10⟩) (by assumption) ?r10
  case y10 => (intro wq hSw; (try dsimp only at hSw); go_simp; (try with_reducible rfl))
  (try simp only [Act.put, List.getElem_toArray, List.getElem_cons_succ, List.getElem_cons_zero, List.setIfInBounds_toArray, List.set_cons_zero, List.set_cons_succ])
  refine wpAnyH_take (i := 11) (v := ?v11) rfl (by kernel_rfl) (by kernel_rfl) (by kernel_rfl) (fun _ _ _ h => h) (Or.inl ⟨by kernel_rfl, ?y11⟩) (by assumption) ?r11
  case y11 => (intro wq hSw; (try dsimp only at hSw); go_simp; (try with_reducible rfl))
  (try simp only [Act.put, List.getElem_toArray, List.getElem_cons_succ, List.getElem_cons_zero, List.setIfInBounds_toArray, List.set_cons_zero, List.set_cons_succ])
  refine wpAnyH_take (i := 12) (v := ?v12) rfl (by kernel_rfl) (by kernel_rfl) (by kernel_rfl) (fun _ _ _ h => h) (Or.inl ⟨by kernel_rfl, ?y12⟩) (by assumption) ?r12
  case y12 => (intro wq hSw; (try dsimp only at hSw); go_simp; (try with_reducible rfl))
  (try simp only [Act.put, List.getElem_toArray, List.getElem_cons_succ, List.getElem_cons_zero, List.setIfInBounds_toArray, List.set_cons_zero, List.set_cons_succ])
  refine wpAnyH_done (by kernel_rfl) ?_ _
  refine NoPanic.normal ?_
  have HCPA := Lib.hid (HCP1.out w.drew rfl)
  go_upto_region 18 with ((with_reducible refine wpList_copy_runI _ rfl (.tmp 95) (.tmp 96) 22 22 rfl (.slice (some ⟨g, i * 5, none⟩) (n - i) (cap - i)) (.slice (some ⟨vb, 0, none⟩) 1 cv) rfl rfl (HCPA.out _ _) ?_))
  go_region_law (refine step_copy_runI rfl (.tmp 103) (.tmp 106) 22 22 rfl (.slice (some ⟨g, (i + 1) * 5, none⟩) (n - (i + 1)) (cap - (i + 1))) (.slice (some ⟨g, (i + 1) * 5, none⟩) (n - (i + 1)) (cap - (i + 1))) (by simp [Act.eval, Act.put]) (by simp [Act.eval, Act.put]) (HCP2.out (w.drew.setRow g c1).drew (HOTH.out w.drew rfl) _ _ _) ?_)
  rcases Nat.lt_or_ge n cap with hcn | hcn
  rotate_left
  · obtain rfl : cap = n := by omega
    go_wp2_with fail
    rw [HR.out]
    exact HFIN.out w.drew _ (w.drew.setRow g c1).drew _ rfl rfl rfl rfl rfl rfl rfl
  · have hcn2 : ¬ (cap = n) := by omega
    go_wp2_with fail
    rw [HR.out]
    exact HFIN.out w.drew _ (w.drew.setRow g c1).drew _ rfl rfl rfl rfl rfl rfl rfl
set_option maxHeartbeats 4000000 in
set_option maxRecDepth 100000 in
theorem rep_out (B g n cap i vb cv : Nat) (xs ls : List Value) (w : World) (ho : w.ownsRow B 24 5 (.slice (some ⟨g, 0, none⟩) n cap) n xs) (hv : ∀ j u, ls[j]? = some u → w.cell? ⟨vb, j, none⟩ = some u) (hvl : vb < w.heap.size) (hl : ls.length = 10) (h1 : ∀ u ∈ ls, u.oneCell' = true) (hx1 : ∀ u ∈ xs, u.oneCell' = true) (hn : n ≤ 100000) (hi : i + 1 < n) (hroom : cap < n + 1) (hB : B ≤ w.heap.size) :
    Calls Try.prog 108 #[.slice (some ⟨g, 0, none⟩) n cap, .int .i64 (i : Int), .int .i64 ((i : Int) + 1), .slice (some ⟨vb, 0, none⟩) 2 cv] w (RepR B (.slice (some ⟨g, 0, none⟩) n cap) n i 2 xs ls w) := by
  obtain ⟨R, hR⟩ : ∃ R, R = RepR B (.slice (some ⟨g, 0, none⟩) n cap) n i 2 xs ls w := ⟨_, rfl⟩
  rw [← hR]
  have HR := Lib.hid hR
  obtain ⟨i0, hi0, hz0, hz1, hz2⟩ := con_info
  obtain ⟨hxl, hcase⟩ := ho
  rcases hcase with ⟨h3, _⟩ | ⟨g', cap', cur, h3, hBg, hg, hnc, hcm, hcs, hcx⟩
  · cases h3
  obtain ⟨e1, -, rfl⟩ := Value.slice.inj h3
  have e1 := Option.some.inj e1
  injection e1 with e1
  subst e1
  clear h3
  obtain rfl : cap = n := by omega
  have hcells := hv
  have hxc : ∀ j u, xs[j]? = some u → w.cell? ⟨g, j, none⟩ = some u := fun j u hu => by
    rw [cell_of_row w g j cur 24 (0, 0) hg, ← hu, ← hcx, List.getElem?_take_of_lt (by have := (List.getElem?_eq_some_iff.1 hu).1; omega)]; simp
  have hgl : g < w.heap.size := by have := (Array.getElem?_eq_some_iff.1 hg).1; exact this
  obtain ⟨G, hG⟩ : ∃ G, G = grownCap w.drew (cap + 1) cap 24 := ⟨_, rfl⟩
  have hGn : cap + 1 ≤ G := by rw [hG]; exact grownCap_ge w.drew _ _ _
  have hGm : G ≤ maxLen := by rw [hG]; exact grownCap_le_maxLen w.drew (cap + 1) cap 24 (by unfold maxLen; omega)
  have hold : (Builtin.firstCells i0.size i (.slice (some ⟨g, 0, none⟩) i cap)).run Try.prog w.drew.drew = .ok (xs.take (i * 5)).toArray w.drew.drew := by
    rw [hz1]
    exact run_firstCells_some w.drew.drew 5 i ⟨g, 0, none⟩ i cap (xs.take (i * 5)) (by rw [List.length_take]; omega) (fun j v hj => by
      rw [Addr.add_lit, Nat.zero_add]
      rw [List.getElem?_take] at hj
      split at hj
      · exact hxc j v hj
      · cases hj)
  obtain ⟨ROW, hROW⟩ : ∃ ROW : Array Value, ROW = (xs.take (i * 5)).toArray ++ Builtin.zeroCells (Value.agg #[.int .i64 0, .int .i64 0, .int .i64 0, .int .i64 0, .slice none 0 0]).cells (cap + 1 - i) ++ Builtin.zeroCells (Value.agg #[.int .i64 0, .int .i64 0, .int .i64 0, .int .i64 0, .slice none 0 0]).cells (G - (cap + 1)) := ⟨_, rfl⟩
  have hkk : (cap : Int) + 1 - (i : Int) = ((cap + 1 - i : Nat) : Int) := by omega
  have hik : i + (cap + 1 - i) = cap + 1 := by omega
  have hrz : ∀ ty, (Builtin.append_ #[22, 3] ty #[.slice (some ⟨g, 0, none⟩) i cap, .int .i64 ((cap : Int) + 1 - (i : Int))]).run Try.prog w.drew =
      .ok (.slice (some ⟨w.heap.size, 0, none⟩) (cap + 1) G) (w.drew.drew.alloc (.cells ROW 24)) := fun ty => by
    have h := Lib.run_append_grow_zeros w.drew 22 3 ty 24 i0 _ .i64 .i64 Try.underlying22 Try.underlying3 hi0 hz0 (some ⟨g, 0, none⟩) i cap (xs.take (i * 5)) hold (cap + 1 - i) (by omega) (by omega) (by omega) (by omega) (by rw [hz2]; omega) (by rw [hz2, hik]; exact growslice_fits hroom (by omega))
    rw [hik] at h
    rw [hkk, hROW, hG]
    exact h
  obtain ⟨Zr, hZr⟩ : ∃ Zr : List Value, ROW.toList = xs.take (i * 5) ++ Zr := ⟨_, by rw [hROW, Array.toList_append, Array.toList_append, List.append_assoc]⟩
  have hRs : ROW.size = G * 5 := by
    rw [hROW]
    simp only [Array.size_append, size_zeroCells, List.size_toArray, List.length_take, hxl]
    simp [Value.cells]; omega
  obtain ⟨W0, hW0⟩ : ∃ W0, W0 = w.drew.drew.alloc (.cells ROW 24) := ⟨_, rfl⟩
  rw [← hW0] at hrz
  have hN0 : W0.heap[w.heap.size]? = some (.cells ROW 24 (0, 0)) := by rw [hW0]; exact heap_alloc_new w.drew.drew _
  have hO0 : ∀ b, b < w.heap.size → W0.heap[b]? = w.heap[b]? := fun b hb => by rw [hW0]; exact Below.heap_alloc w.drew.drew _ b hb
  have hS0 : W0.heap.size = w.heap.size + 1 := by rw [hW0]; simp [World.alloc]
  obtain ⟨ds, hds⟩ : ∃ ds, ds = xs.drop ((i + 1) * 5) := ⟨_, rfl⟩
  have hdl : ds.length = (cap - (i + 1)) * 5 := by rw [hds, List.length_drop, hxl]; omega
  obtain ⟨c1, hc1⟩ : ∃ c1, c1 = (ROW.toList.take (i * 5) ++ ls ++ ROW.toList.drop (i * 5 + ls.length)).toArray := ⟨_, rfl⟩
  obtain ⟨c2, hc2⟩ : ∃ c2, c2 = (c1.toList.take (i * 5 + 10) ++ ds ++ c1.toList.drop (i * 5 + 10 + ds.length)).toArray := ⟨_, rfl⟩
  have hc1s : c1.size = ROW.size := by rw [hc1]; simp; omega
  have hc2s : c2.size = ROW.size := by rw [hc2]; simp [hc1s]; omega
  have hcpA : ∀ ty dc, (Builtin.copy_ #[22, 22] ty #[.slice (some ⟨w.heap.size, i * 5, none⟩) (cap + 1 - i) dc, .slice (some ⟨vb, 0, none⟩) 2 cv]).run Try.prog W0 = .ok (goInt ((2 : Nat) : Int)) (W0.setRow w.heap.size c1) := fun ty dc => by
    have := run_copy5 (w := W0) 22 ty Try.underlying22 hi0 hz1 w.heap.size (i * 5) (cap + 1 - i) dc ⟨vb, 0, none⟩ 2 cv 2 ROW 24 ls hN0 (by simp only [Nat.min_def]; split <;> omega) (by omega) (fun j v hj => by
      rw [Addr.add_lit, Nat.zero_add]; exact (cell_same (hO0 vb hvl) j).trans (hcells j v hj)) (by omega) h1
    rw [hc1]; exact this
  obtain ⟨W1, hW1⟩ : ∃ W1, W1 = W0.setRow w.heap.size c1 := ⟨_, rfl⟩
  rw [← hW1] at hcpA
  have hN1 : W1.heap[w.heap.size]? = some (.cells c1 24 (0, 0)) := by rw [hW1]; exact setRow_heap W0 w.heap.size ROW c1 24 _ hN0
  have hO1 : ∀ b, b < w.heap.size → W1.heap[b]? = w.heap[b]? := fun b hb => by rw [hW1, setRow_other W0 w.heap.size b c1 (by omega)]; exact hO0 b hb
  have hcpB : ∀ ty dc sc, (Builtin.copy_ #[22, 22] ty #[.slice (some ⟨w.heap.size, (i + 2) * 5, none⟩) (cap + 1 - (i + 2)) dc, .slice (some ⟨g, (i + 1) * 5, none⟩) (cap - (i + 1)) sc]).run Try.prog W1.drew = .ok (goInt ((cap - (i + 1) : Nat) : Int)) (W1.drew.setRow w.heap.size c2) := fun ty dc sc => by
    have := run_copy5 (w := W1.drew) 22 ty Try.underlying22 hi0 hz1 w.heap.size ((i + 2) * 5) (cap + 1 - (i + 2)) dc ⟨g, (i + 1) * 5, none⟩ (cap - (i + 1)) sc (cap - (i + 1)) c1 24 ds hN1 (by simp only [Nat.min_def]; split <;> omega) hdl (fun j v hj => by
      rw [Addr.add_lit]; exact (cell_same (w := w) (w' := W1.drew) (hO1 g hgl) _).trans (hxc _ _ (by rw [hds, List.getElem?_drop] at hj; exact hj))) (by rw [hdl]; omega) (fun u hu => hx1 u (by rw [hds] at hu; exact List.mem_of_mem_drop hu))
    rw [show (i + 2) * 5 = i * 5 + 10 by omega] at this ⊢
    rw [hc2]; exact this
  obtain ⟨W2, hW2⟩ : ∃ W2, W2 = W1.drew.setRow w.heap.size c2 := ⟨_, rfl⟩
  rw [← hW2] at hcpB
  have hfin : RepR B (.slice (some ⟨g, 0, none⟩) cap cap) cap i 2 xs ls w (.returned (.slice (some ⟨w.heap.size, 0, none⟩) (cap + 1) G)) W2 := by
    refine ⟨_, rfl, row_ins (cur := c2) ?_ hB (by rw [hc2s]; exact hRs) hGn hGm (by simp [hl, hxl]; omega) ?_, ⟨?_, ?_, ?_, ?_, fun b hb hbg => ?_⟩, .inr ⟨_, rfl, Nat.le_refl _⟩⟩
    · rw [hW2]; exact setRow_heap W1.drew w.heap.size c1 c2 24 _ hN1
    · have := splice_new9 (xs := xs) (ls := ls) (Z := Zr) (N := cap * 5) (i := i * 5) (by omega) hxl hl
      rw [show i * 5 + 5 = (i + 1) * 5 by omega, ← hZr, ← hds] at this
      rw [← hds, ← this, hc2, hc1, hl, show (cap + 1) * 5 = cap * 5 + 5 by omega]
    · rw [hW2, hW1, hW0]; rfl
    · rw [hW2, hW1, hW0]; rfl
    · rw [hW2, hW1, hW0]; rfl
    · rw [hW2, hW1]; simp only [World.setRow, Array.size_modify]; show _ ≤ (W0.setRow w.heap.size c1).heap.size; simp only [World.setRow, Array.size_modify]; omega
    · rw [hW2, setRow_other W1.drew w.heap.size b c2 (by omega)]; exact hO1 b hb
  have HFIN := Lib.hid hfin
  have HRZ := Lib.hid hrz
  have HCPA := Lib.hid hcpA
  have HCPB := Lib.hid hcpB
  have hw1 : IntKind.i64.wrap ((i : Int) + 1) = (i : Int) + 1 := by rw [IntKind.wrap_i64]; omega
  have hw2 : IntKind.i64.wrap ((i : Int) + 2) = (i : Int) + 2 := by rw [IntKind.wrap_i64]; omega
  have hwt : IntKind.i64.wrap (((i : Int) + 2) + ((cap - (i + 1) : Nat) : Int)) = (cap : Int) + 1 := by rw [IntKind.wrap_i64]; omega
  have hb1 : (0 : Int) ≤ (i : Int) + 1 := by omega
  have hb1b : (0 : Int) ≤ (i : Int) + 2 := by omega
  have htn : ((i : Int) + 1).toNat = i + 1 := by omega
  have htn2 : ((i : Int) + 2).toNat = i + 2 := by omega
  have hG1 : ¬ (G = i) := by omega
  have hG2 : ¬ (G = i + 2) := by omega
  have hb4 : ¬ (cap = i) := by omega
  have hb4b : ¬ (cap = i + 1) := by omega
  have hin : i ≤ cap := by omega
  have hin1 : i + 1 ≤ cap := by omega
  have hin2 : i ≤ cap + 1 := by omega
  have hin3 : i + 2 ≤ cap + 1 := by omega
  have hb3 : (i : Int) ≤ (cap : Int) := by omega
  have hb3b : (i : Int) + 1 ≤ (cap : Int) := by omega
  have hb3c : (i : Int) + 2 ≤ (cap : Int) + 1 := by omega
  have hb3d : (i : Int) ≤ (i : Int) + 1 := by omega
  have hb6 : (i : Int) ≤ (cap : Int) + 1 := by omega
  have hb5 : ((i : Int) == (i : Int) + 1) = false := by simp; omega
  have hb8 : ((i : Int) + 1 == (cap : Int)) = false := by simp; omega
  have hb7 : (cap : Int) < (cap : Int) + 1 := by omega
  have hgm : G ≤ 9223372036854775807 := by unfold maxLen at hGm; omega
  clear hR hv hl h1 hx1 hxl hBg hg hcm hcs hcx hcells hxc hds hdl hc1 hc2 hc1s hc2s hcpA hcpB hrz hfin hi0 hz0 hz1 hz2 hW1 hW0 hW2 hN0 hN1 hO0 hO1 hS0 hkk hik hold hROW hZr hRs hG hGm hB hvl hgl
  go_enter Try.func108, Try.ntmps108
  go_upto_region 9 with fail
  refine wp_region_noPanic ?_
  refine wp_region_held_drew (S := fun _ => True) (by kernel_rfl) (by trivial) (fun hHeld => ?_)
  refine wpAnyH_take (i := 0) (v := ?v0) rfl (by kernel_rfl) (by kernel_rfl) (by kernel_rfl) (fun _ _ _ h => h) (Or.inl ⟨by kernel_rfl, ?y0⟩) (by assumption) ?r0
  case y0 => (intro wq hSw; (try dsimp only at hSw); go_simp; (try with_reducible rfl))
  (try simp only [Act.put, List.getElem_toArray, List.getElem_cons_zero, List.setIfInBounds_toArray, List.set_cons_zero, List.set_cons_succ])
  refine wpAnyH_take (i := 1) (v := ?v1) rfl (by kernel_rfl) (by kernel_rfl) (by kernel_rfl) (fun _ _ _ h => h) (Or.inl ⟨by kernel_rfl, ?y1⟩) (by assumption) ?r1
  case y1 => (intro wq hSw; (try dsimp only at hSw); go_simp; (try with_reducible rfl))
  (try simp only [Act.put, List.getElem_toArray, List.getElem_cons_succ, List.getElem_cons_zero, List.setIfInBounds_toArray, List.set_cons_zero, List.set_cons_succ])
  refine wpAnyH_take (i := 2) (v := ?v2) rfl (by kernel_rfl) (by kernel_rfl) (by kernel_rfl) (fun _ _ _ h => h) (Or.inl ⟨by kernel_rfl, ?y2⟩) (by assumption) ?r2
  case y2 => (intro wq hSw; (try dsimp only at hSw); go_simp; (try with_reducible rfl))
  (try simp only [Act.put, List.getElem_toArray, List.getElem_cons_succ, List.getElem_cons_zero, List.setIfInBounds_toArray, List.set_cons_zero, List.set_cons_succ])
  refine wpAnyH_take (i := 3) (v := ?v3) rfl (by kernel_rfl) (by kernel_rfl) (by kernel_rfl) (fun _ _ _ h => h) (Or.inl ⟨by kernel_rfl, ?y3⟩) (by assumption) ?r3
  case y3 => (intro wq hSw; (try dsimp only at hSw); go_simp; (try with_reducible rfl))
  (try simp only [Act.put, List.getElem_toArray, List.getElem_cons_succ, List.getElem_cons_zero, List.setIfInBounds_toArray, List.set_cons_zero, List.set_cons_succ])
  refine wpAnyH_take (i := 4) (v := ?v4) rfl (by kernel_rfl) (by kernel_rfl) (by kernel_rfl) (fun _ _ _ h => h) (Or.inl ⟨by kernel_rfl, ?y4⟩) (by assumption) ?r4
  case y4 => (intro wq hSw; (try dsimp only at hSw); go_simp; (try with_reducible rfl))
  (try simp only [Act.put, List.getElem_toArray, List.getElem_cons_succ, List.getElem_cons_zero, List.setIfInBounds_toArray, List.set_cons_zero, List.set_cons_succ])
  refine wpAnyH_take (i := 5) (v := ?v5) rfl (by kernel_rfl) (by kernel_rfl) (by kernel_rfl) (fun _ _ _ h => h) (Or.inl ⟨by kernel_rfl, ?y5⟩) (by assumption) ?r5
  case y5 => (intro wq hSw; (try dsimp only at hSw); go_simp; (try with_reducible rfl))
  (try simp only [Act.put, List.getElem_toArray, List.getElem_cons_succ, List.getElem_cons_zero, List.setIfInBounds_toArray, List.set_cons_zero, List.set_cons_succ])
  refine wpAnyH_take (i := 6) (v := ?v6) rfl (by kernel_rfl) (by kernel_rfl) (by kernel_rfl) (fun _ _ _ h => h) (Or.inl ⟨by kernel_rfl, ?y6⟩) (by assumption) ?r6
  case y6 => (intro wq hSw; (try dsimp only at hSw); go_simp; (try with_reducible rfl))
  (try simp only [Act.put, List.getElem_toArray, List.getElem_cons_succ, List.getElem_cons_zero, List.setIfInBounds_toArray, List.set_cons_zero, List.set_cons_succ])
  refine wpAnyH_take (i := 7) (v := ?v7) rfl (by kernel_rfl) (by kernel_rfl) (by kernel_rfl) (fun _ _ _ h => h) (Or.inl ⟨by kernel_rfl, ?y7⟩) (by assumption) ?r7
  case y7 => (intro wq hSw; (try dsimp only at hSw); go_simp; (try with_reducible rfl))
  (try simp only [Act.put, List.getElem_toArray, List.getElem_cons_succ, List.getElem_cons_zero, List.setIfInBounds_toArray, List.set_cons_zero, List.set_cons_succ])
  refine wpAnyH_take (i := 8) (v := ?v8) rfl (by kernel_rfl) (by kernel_rfl) (by kernel_rfl) (fun _ _ _ h => h) (Or.inl ⟨by kernel_rfl, ?y8⟩) (by assumption) ?r8
  case y8 => (intro wq hSw; (try dsimp only at hSw); go_simp; (try with_reducible rfl))
  (try simp only [Act.put, List.getElem_toArray, List.getElem_cons_succ, List.getElem_cons_zero, List.setIfInBounds_toArray, List.set_cons_zero, List.set_cons_succ])
  refine wpAnyH_take (i := 9) (v := ?v9) rfl (by kernel_rfl) (by kernel_rfl) (by kernel_rfl) (fun _ _ _ h => h) (Or.inl ⟨by kernel_rfl, ?y9⟩) (by assumption) ?r9
  case y9 => (intro wq hSw; (try dsimp only at hSw); go_simp; (try with_reducible rfl))
  (try simp only [Act.put, List.getElem_toArray, List.getElem_cons_succ, List.getElem_cons_zero, List.setIfInBounds_toArray, List.set_cons_zero, List.set_cons_succ])
  refine wpAnyH_take (i := 10) (v := ?v10) rfl (by kernel_rfl) (by kernel_rfl) (by kernel_rfl) (fun _ _ _ h => h) (Or.inl ⟨by kernel_rfl, ?y10⟩) (by assumption) ?r10
  case y10 => (intro wq hSw; (try dsimp only at hSw); go_simp; (try with_reducible rfl))
  (try simp only [Act.put, List.getElem_toArray, List.getElem_cons_succ, List.getElem_cons_zero, List.setIfInBounds_toArray, List.set_cons_zero, List.set_cons_succ])
  refine wpAnyH_take (i := 11) (v := ?v11) rfl (by kernel_rfl) (by kernel_rfl) (by kernel_rfl) (fun _ _ _ h => h) (Or.inl ⟨by kernel_rfl, ?y11⟩) (by assumption) ?r11
  case y11 => (intro wq hSw; (try dsimp only at hSw); go_simp; (try with_reducible rfl))
  (try simp only [Act.put, List.getElem_toArray, List.getElem_cons_succ, List.getElem_cons_zero, List.setIfInBounds_toArray, List.set_cons_zero, List.set_cons_succ])
  refine wpAnyH_take (i := 12) (v := ?v12) rfl (by kernel_rfl) (by kernel_rfl) (by kernel_rfl) (fun _ _ _ h => h) (Or.inl ⟨by kernel_rfl, ?y12⟩) (by assumption) ?r12
  case y12 => (intro wq hSw; (try dsimp only at hSw); go_simp; (try with_reducible rfl))
  (try simp only [Act.put, List.getElem_toArray, List.getElem_cons_succ, List.getElem_cons_zero, List.setIfInBounds_toArray, List.set_cons_zero, List.set_cons_succ])
  refine wpAnyH_done (by kernel_rfl) ?_ _
  refine NoPanic.normal ?_
  go_wp2_with (first
    | (at_builtin; refine Lib.wpList_append_run _ rfl (.tmp 63) (.tmp 66) 22 3 rfl _ _ rfl rfl _ _ (HRZ.out _) ?_)
    | (with_reducible refine wpList_copy_runI _ rfl (.tmp 70) (.tmp 71) 22 22 rfl (.slice (some ⟨w.heap.size, i * 5, none⟩) (cap + 1 - i) (G - i)) (.slice (some ⟨vb, 0, none⟩) 2 cv) rfl rfl (HCPA.out _ _) ?_))
  go_region_law (refine step_copy_runI rfl (.tmp 78) (.tmp 81) 22 22 rfl (.slice (some ⟨w.heap.size, (i + 2) * 5, none⟩) (cap + 1 - (i + 2)) (G - (i + 2))) (.slice (some ⟨g, (i + 1) * 5, none⟩) (cap - (i + 1)) (cap - (i + 1))) (by simp [Act.eval, Act.put]) (by simp [Act.eval, Act.put]) (HCPB.out _ _ _) ?_)
  go_wp2_with fail
  show R (.returned (.slice (some ⟨w.heap.size, 0, none⟩) (cap + 1) G)) _
  rw [HR.out]
  exact HFIN.out
end Go.Proofs.Ytjeabkcbaielhaa.Co
end
section
namespace Go.Proofs.Ytjeabkcbaielhaa.Co
open Go.RowKit Go.Shelf
section
variable {w w' w1 : World} {N r : Nat} {t s : ATr} {u : List Nat}
theorem Root.row9 {v : Value} {g cap : Nat} {ks : List ATr} (h : Root N w r t) (hs : get t u = some s) (hb : w.grownBy w1 (slA s).ownBlock) (hv : v = slV g cap ks.length) (ho : w1.ownsRow 0 24 5 v ks.length (rowOf ks))
    (hg : v.ownBlock = (slA s).ownBlock ∨ ∃ b, v.ownBlock = some b ∧ w.heap.size ≤ b ∧ b ∉ blksL ks) (hO : OwnL w1 ks) (hn : (blksL ks).Nodup) (hsub : ∀ b ∈ blksL ks, b ∈ blksL s.ks ∨ w.heap.size ≤ b) (hN : N ≤ w.heap.size) :
    Root N (w1.setCell ⟨(loc r 0 t u).1, (loc r 0 t u).2 + 4, none⟩ v) r (Co.put t u (.mk ⟨s.a.d, g, cap⟩ ks)) ∧ Turn (fun b => b ∈ blks (topT r t)) (fun _ => False) w (w1.setCell ⟨(loc r 0 t u).1, (loc r 0 t u).2 + 4, none⟩ v) := by
  have hni := h.loc_not hs
  have hns := h.nodup_at hs
  have hll := (h.held.get hs).lt
  have hslt := (h.held.get hs).own.lt
  have hkeep : ∀ b, b < w.heap.size → b ∉ blks s → w1.heap[b]? = w.heap[b]? := fun b hl hx => hb.block b hl fun e => by
    obtain ⟨h0, e⟩ := slA_own e.symm
    exact hx (e ▸ own_in h0)
  have hll1 : w1.heap[(loc r 0 t u).1]? = w.heap[(loc r 0 t u).1]? := hkeep _ hll hni
  obtain ⟨cur, hc1, _, hc3⟩ := h.block hs
  have hR := ((Repl.refl (w := w1) (hll1.trans hc1) hc3).set (f := 4) (by omega) (enc_len _ _) v).before (w0 := w) hll1
  have hfar : ∀ x, x ≠ (loc r 0 t u).1 → (w1.setCell ⟨(loc r 0 t u).1, (loc r 0 t u).2 + 4, none⟩ v).heap[x]? = w1.heap[x]? := fun x hx => Below.heap_setCell w1 ⟨(loc r 0 t u).1, (loc r 0 t u).2 + 4, none⟩ v x hx
  have hgb : ∀ b, v.ownBlock = some b → b ∈ blks s ∨ w.heap.size ≤ b := fun b hb' => by
    rcases hg with hg | ⟨b', hg, hl, -⟩
    · rw [hg] at hb'
      obtain ⟨h0, e⟩ := slA_own hb'
      exact .inl (e ▸ own_in h0)
    · rw [hg] at hb'; have := Option.some.inj hb'; omega
  have hgl : ∀ b, v.ownBlock = some b → b ≠ (loc r 0 t u).1 := fun b hb' e => by
    rcases hgb b hb' with h2 | h2
    · exact hni (e ▸ h2)
    · omega
  have hown : Own (w1.setCell ⟨(loc r 0 t u).1, (loc r 0 t u).2 + 4, none⟩ v) (.mk ⟨s.a.d, g, cap⟩ ks) := by
    refine ⟨?_, hO.same fun b hb' => hfar b fun e => by
      rcases hsub b hb' with h2 | h2
      · exact hni (e ▸ blksL_in b h2)
      · omega⟩
    have h2 := row_same' (w' := w1.setCell ⟨(loc r 0 t u).1, (loc r 0 t u).2 + 4, none⟩ v) ho fun b hb' => hfar b (hgl b hb')
    show World.ownsRow _ 0 _ 5 (slV g cap ks.length) ks.length (rowOf ks)
    rw [← hv]
    exact h2
  have hgo : ks.length ≠ 0 → v.ownBlock = some g := fun h0 => by rw [hv]; unfold slV; rw [if_neg h0]; rfl
  refine ⟨h.put hs (by rw [show encC (Tr.mk ⟨s.a.d, g, cap⟩ ks : ATr).a.d (slA (.mk ⟨s.a.d, g, cap⟩ ks)) = (encC s.a.d (slA s)).set 4 v by rw [hv]; rfl]; exact hR) (fun x hx hxs hxl => (hfar x hxl).trans (hkeep x (h.lt x (by rw [blks_top]; exact hx)) hxs)) hown ?_ ?_ hN,
    ⟨hb.os, hb.tape, hb.output, by have := hb.size; simpa [World.setCell] using this, fun i hi hni' => (hfar i fun e => hni' (e ▸ h.loc_mem hs)).trans (hkeep i hi fun hm => hni' (by rw [blks_top, List.mem_cons]; exact .inr (blks_get hs i hm))), fun _ h => h.elim⟩⟩
  · show ((if ks.length = 0 then [] else [g]) ++ blksL ks).Nodup
    split
    · exact hn
    · rename_i h0
      rw [List.singleton_append, List.nodup_cons]
      refine ⟨fun hm => ?_, hn⟩
      rcases hg with hg | ⟨b', hg, hl, hnm⟩
      · rw [hgo h0] at hg
        obtain ⟨h1, e⟩ := slA_own hg.symm
        rcases hsub g hm with h2 | h2
        · exact own_out hns h1 (e ▸ h2)
        · have := hslt g (e ▸ own_in h1); omega
      · rw [hgo h0] at hg
        have hg := Option.some.inj hg
        exact hnm (hg ▸ hm)
  · intro x hx
    have hx : x ∈ (if ks.length = 0 then [] else [g]) ++ blksL ks := hx
    rw [List.mem_append] at hx
    rcases hx with hx | hx
    · split at hx
      · cases hx
      · rename_i h0
        simp at hx; subst hx
        exact hgb x (hgo h0)
    · exact (hsub x hx).imp (blksL_in x) id
end
/-- What stands in a kid's place when a leaf goes out of it. -/
def apartL (c se d : Int) (K : Con) : List Con := if aheadB d = true then leafC c se :: lessL c [K] else lessL c [K] ++ [leafC c se]
/-- Out of the split that a leaf is in: from the nearest one around. -/
def outN (x : Con) (u : List Nat) (c se d : Int) : Nat → Con × Int
  | 0 => (zeroT, 120)
  | m + 1 => match get x (u.take m), u[m]? with
    | some q, some i => if alongB q.a.k d = true then (if q.ks.length = 64 then (zeroT, 2) else match q.ks[i]? with
        | some K => (put x (u.take m) (.mk q.a (q.ks.take i ++ apartL c se d K ++ q.ks.drop (i + 1))), 0)
        | none => (zeroT, 120)) else outN x u c se d m
    | _, _ => (zeroT, 120)
/-- A leaf and the one beside it change places. -/
def swapK (x : Con) (v : List Nat) (p : Con) (i j : Nat) (y z : Con) : Con := put x v (.mk p.a ((p.ks.set i z).set j y))
def movAt (x : Con) (u : List Nat) (c d : Int) : Con × Int := match get x u.dropLast, u.getLast? with
  | some p, some i => match p.ks[i]? with
    | some y => match besI p.a.k p.ks.length i d with
      | some j => match p.ks[j]? with
        | some z => if z.a.k = 0 then (swapK x u.dropLast p i j y z, 0) else insertI (removeD x c).1 (lastI z) c y.a.s
        | none => (zeroT, 120)
      | none => outN x u c y.a.s d (u.length - 1)
    | none => (zeroT, 120)
  | _, _ => (zeroT, 120)
def movI (x : Con) (c d : Int) : Con × Int := if askW x c d ≠ 0 then (zeroT, askW x c d) else match findI x c with
  | some u => movAt x u c d
  | none => (zeroT, 6)
theorem movI_no {x : Con} {c d : Int} (h : askW x c d ≠ 0) : movI x c d = (zeroT, askW x c d) := by unfold movI; rw [if_pos h]
theorem movI_at {x : Con} {c d : Int} {u : List Nat} (h : askW x c d = 0) (hu : findI x c = some u) : movI x c d = movAt x u c d := by unfold movI; rw [if_neg (by rw [h]; simp), hu]
/-- A kid alone below a root of its own is a tree. -/
theorem alone_tree {x K : Con} {c w : Int} {v : List Nat} {m : Nat} (h : treeB x = true) (hv : IsWay x c v) (hm : m < v.length) (hK : get x (v.take (m + 1)) = some K) (h1 : 1 ≤ w) (h2 : w ≤ 1048576) :
    removeD (.mk ⟨1, w, 0, 0⟩ [K]) c = (.mk ⟨1, w, 0, 0⟩ (lessL c [K]), 0) := by
  obtain ⟨t1, t2, t3⟩ := tree_parts h
  have hs := shape_get t1 hK
  have hl : (v.take (m + 1)).length = m + 1 := by rw [List.length_take]; omega
  rw [Nat.zero_add, hl] at hs
  obtain ⟨l1, l2, e, -⟩ := all_put t1 hK
  obtain ⟨m1, m2, e2, -⟩ := clients_put t1 hK
  have ha : all (.mk ⟨1, w, 0, 0⟩ [K] : Con) = all K := by rw [all_kid (by show (1 : Int) ≠ 0; decide)]; simp
  have hc : clients (.mk ⟨1, w, 0, 0⟩ [K] : Con) = clients K := by unfold clients; rw [ha]
  have ht : treeB (.mk ⟨1, w, 0, 0⟩ [K]) = true := by
    refine tree_of (shape_splitI9 (a := ⟨1, w, 0, 0⟩) (by omega) h1 h2 (by show (1 : Int) ≤ 1; decide) (by show (1 : Int) ≤ 4; decide) rfl rfl (by simp) (.inl rfl) fun z hz => ?_) ?_ ?_
    · rw [List.mem_singleton] at hz; subst hz; exact shape_one m z hs
    · rw [hc]; rw [e2] at t2; exact (List.nodup_append.1 (List.nodup_append.1 t2).1).2.1
    · rw [ha]; rw [e] at t3; simp only [List.length_append] at t3; omega
  have hh : hasB (.mk ⟨1, w, 0, 0⟩ [K]) c = true := by
    obtain ⟨y, hy, hyk, hyc, -⟩ := hv.leaf h
    rw [hasB_iff, hc]
    have hd : get K (v.drop (m + 1)) = some y := by
      have := hy
      rw [← List.take_append_drop (m + 1) v, get_append _ hK] at this
      exact this
    exact List.mem_map.2 ⟨y, get_all hs hd hyk, hyc⟩
  unfold removeD
  rw [if_neg (by rw [ht]; simp), if_neg (by rw [hh]; simp)]
  rfl
end Go.Proofs.Ytjeabkcbaielhaa.Co
end
section
namespace Go.Proofs.Ytjeabkcbaielhaa.Co
open Go.RowKit Go.Shelf Go.Maps
/-- What a kid becomes that a leaf goes out of: a row of the call's own. -/
def ApR (L' : List Con) (w : World) (e : Ending) (w' : World) : Prop :=
  ∃ (v : Value) (L : List ATr), e = .returned v ∧ L.map era = L' ∧ w'.ownsRow w.heap.size 24 5 v L.length (rowOf L) ∧ OwnL w' L ∧ (blksL L).Nodup ∧ (∀ b ∈ blksL L, w.heap.size ≤ b) ∧ (∀ b, v.ownBlock = some b → b ∉ blksL L) ∧ Below w.heap.size w w'
theorem row_raise {w : World} {B n : Nat} {v : Value} {xs : List Value} (h : w.ownsRow 0 24 5 v n xs) (hB : ∀ b, v.ownBlock = some b → B ≤ b) : w.ownsRow B 24 5 v n xs := by
  obtain ⟨h1, h2 | ⟨g, c, cur, rfl, h3, h4⟩⟩ := h
  · exact ⟨h1, .inl h2⟩
  · exact ⟨h1, .inr ⟨g, c, cur, rfl, hB g rfl, h4⟩⟩
theorem ht_one (a : D) (K : Con) : ht (.mk a [K]) = ht K + 1 := by simp [ht, htL]
theorem wd_one (a : D) (K : Con) : wd (.mk a [K]) ≤ wd K + 1 := by simp [wd, wdL]; omega
theorem Own.row {w : World} {t : ATr} (h : Own w t) : w.ownsRow 0 24 5 (slA t) t.ks.length (rowOf t.ks) := by obtain ⟨a, ks⟩ := t; exact h.1
theorem leafA_own (w : World) (c se : Int) : Own w (leafA c se) := ⟨World.ownsRow_nil _ _ _ _, trivial⟩
theorem newT_wide : D.wide ⟨1, 65536, 0, 0⟩ := ⟨⟨by decide, by decide⟩, ⟨by decide, by decide⟩, ⟨by decide, by decide⟩, ⟨by decide, by decide⟩⟩
set_option maxHeartbeats 4000000 in
set_option maxRecDepth 100000 in
theorem apart_c (Z : Nat → Prop) (K : Con) (sk : Value) (wl c se d : Int) (w : World) (hK : KV w Z K.ks sk) (hw : K.a.wide) (hd : ht K ≤ 900000) (hwd : wd K ≤ 90000) (hrem : removeD (.mk ⟨1, 65536, 0, 0⟩ [K]) c = (.mk ⟨1, 65536, 0, 0⟩ (lessL c [K]), 0)) :
    Calls Try.prog 109 #[conV K.a sk, conV ⟨0, wl, c, se⟩ (.slice none 0 0), .int .i64 d] w (ApR (apartL c se d K) w) := by
  obtain ⟨pk, ck, rfl, -⟩ := hK.slice
  obtain ⟨nk, hnk⟩ : ∃ n, n = K.ks.length := ⟨_, rfl⟩
  rw [← hnk] at hK ⊢
  obtain ⟨R, hR⟩ : ∃ R, R = ApR (apartL c se d K) w := ⟨_, rfl⟩
  rw [← hR]
  have HR := Lib.hid hR
  obtain ⟨wB, hwB⟩ : ∃ wB, wB = (w.alloc (.cells #[.int .i64 K.a.k, .int .i64 K.a.w, .int .i64 K.a.c, .int .i64 K.a.s, .slice pk nk ck] 24)).alloc (.cells #[.int .i64 0, .int .i64 wl, .int .i64 c, .int .i64 se, .slice none 0 0] 24) := ⟨_, rfl⟩
  have hb0 : Below w.heap.size w wB := by rw [hwB]; exact ((Below.refl w.heap.size w).alloc (Nat.le_refl _) _).alloc (by simp) _
  have hq1 : Blk wB w.heap.size 24 #[.int .i64 K.a.k, .int .i64 K.a.w, .int .i64 K.a.c, .int .i64 K.a.s, .slice pk nk ck] := by rw [hwB]; exact (Blk.new w 24 _).alloc _
  have hq2 : Blk wB (w.heap.size + 1) 24 #[.int .i64 0, .int .i64 wl, .int .i64 c, .int .i64 se, .slice none 0 0] := by
    rw [hwB]; have := Blk.new (w.alloc (.cells #[.int .i64 K.a.k, .int .i64 K.a.w, .int .i64 K.a.c, .int .i64 K.a.s, .slice pk nk ck] 24)) 24 #[.int .i64 0, .int .i64 wl, .int .i64 c, .int .i64 se, .slice none 0 0]; rwa [World.size_alloc] at this
  have HB := Lib.hid hb0
  have HQ1 := Lib.hid hq1
  have HQ2 := Lib.hid hq2
  have HWB := Lib.hid hwB
  have HK := Lib.hid (hK.all)
  have HW := Lib.hid hw
  have HHT : Hid (ht (.mk ⟨1, 65536, 0, 0⟩ [K] : Con) ≤ 1000000) := by show _ ≤ _; rw [ht_one]; omega
  have HWD : Hid (wd (.mk ⟨1, 65536, 0, 0⟩ [K] : Con) ≤ 100000) := by show _ ≤ _; have := wd_one ⟨1, 65536, 0, 0⟩ K; omega
  have HREM := Lib.hid hrem
  have hNC := Lib.hid (fun W => show Calls Try.prog 23 #[.int .i64 1] W (fun e w' => e = .returned (.agg #[.int .i64 1, .int .i64 65536, .int .i64 0, .int .i64 0, .slice none 0 0]) ∧ Below W.heap.size W w') from new_c 1 W)
  clear hK hw hd hwd hrem hb0 hq1 hq2 hwB hnk hR
  show Calls Try.prog 109 #[.agg #[.int .i64 K.a.k, .int .i64 K.a.w, .int .i64 K.a.c, .int .i64 K.a.s, .slice pk nk ck], .agg #[.int .i64 0, .int .i64 wl, .int .i64 c, .int .i64 se, .slice none 0 0], .int .i64 d] w R
  go_enter Try.func109, Try.ntmps109
  go_upto_region 1 with fail
  rw [← HWB.out]
  go_wp2_with fail
  refine (hNC.out _).mono ?_
  rintro e w1 ⟨rfl, hb⟩
  have HB1 := Lib.hid (HB.out.trans (hb.mono HB.out.size))
  have HQ11 := Lib.hid (HQ1.out.next hb)
  have HQ21 := Lib.hid (HQ2.out.next hb)
  clear hb HB HQ1 HQ2 HWB
  obtain ⟨⟨b0, b1, b2, b3, b4⟩, -⟩ := c5 HQ11.out
  have hl0 := HQ11.out.lt
  have hl1 := HQ21.out.lt
  have hne1 : w.heap.size ≠ w1.heap.size := by omega
  go_upto_region 3 with fail
  obtain ⟨wA, hwA⟩ : ∃ wA, wA = (w1.alloc (.cells #[.int .i64 1, .int .i64 65536, .int .i64 0, .int .i64 0, .slice (some ⟨w1.heap.size + 1, 0, none⟩) 1 1] 24)).alloc (.cells #[.int .i64 K.a.k, .int .i64 K.a.w, .int .i64 K.a.c, .int .i64 K.a.s, .slice pk nk ck] 24) := ⟨_, rfl⟩
  have hb1A : Below w1.heap.size w1 wA := by rw [hwA]; exact ((Below.refl _ _).alloc (Nat.le_refl _) _).alloc (by simp) _
  have hq7 : Blk wA w1.heap.size 24 #[.int .i64 1, .int .i64 65536, .int .i64 0, .int .i64 0, .slice (some ⟨w1.heap.size + 1, 0, none⟩) 1 1] := by rw [hwA]; exact (Blk.new w1 24 _).alloc _
  have hq8 : Blk wA (w1.heap.size + 1) 24 #[.int .i64 K.a.k, .int .i64 K.a.w, .int .i64 K.a.c, .int .i64 K.a.s, .slice pk nk ck] := by
    rw [hwA]; have := Blk.new (w1.alloc (.cells #[.int .i64 1, .int .i64 65536, .int .i64 0, .int .i64 0, .slice (some ⟨w1.heap.size + 1, 0, none⟩) 1 1] 24)) 24 #[.int .i64 K.a.k, .int .i64 K.a.w, .int .i64 K.a.c, .int .i64 K.a.s, .slice pk nk ck]; rwa [World.size_alloc] at this
  rw [← hwA]
  have HBA := Lib.hid (HB1.out.trans (hb1A.mono HB1.out.size))
  have HQ2A := Lib.hid (HQ21.out.next hb1A)
  have HQ7 := Lib.hid hq7
  have hka : KV wA (fun b => b < wA.heap.size) [K] (.slice (some ⟨w1.heap.size + 1, 0, none⟩) 1 1) := KV.single hq8 (Z := fun b => b < wA.heap.size) hq8.lt (HK.out.next HBA.out).all HW.out
  have hrm := remove_c (.mk ⟨1, 65536, 0, 0⟩ [K]) (.slice (some ⟨w1.heap.size + 1, 0, none⟩) 1 1) c wA hka newT_wide HHT.out HWD.out
  rw [show removeI (.mk ⟨1, 65536, 0, 0⟩ [K]) c = removeD (.mk ⟨1, 65536, 0, 0⟩ [K]) c from removeD_eq _ _, HREM.out] at hrm
  have HRM := Lib.hid hrm
  obtain ⟨⟨y0, y1, y2, y3, y4⟩, -⟩ := c5 hq7
  obtain ⟨⟨l0, l1, l2, l3, l4⟩, -⟩ := c5 HQ2A.out
  have hs7 := hq7.lt
  have hs2 := HQ2A.out.lt
  obtain ⟨g7, hg7⟩ : ∃ g, g = w1.heap.size := ⟨_, rfl⟩
  rw [← hg7] at HQ7 HRM y0 y1 y2 y3 y4 hs7 hne1 ⊢
  clear hwA hb1A hq7 hq8 hka hrm hg7 b0 b1 b2 b3 b4 hl0 hl1 HQ11 HQ21 HB1 hNC
  go_wp2_with fail
  refine HRM.out.mono ?_
  rintro e w5 ⟨hT, hb⟩
  rcases hT with ⟨h0, -⟩ | ⟨-, t', hot, hnt, hgt, het, rfl⟩
  · exact absurd rfl h0
  obtain ⟨pt, ct, hst⟩ : ∃ pt ct, slA t' = .slice pt t'.ks.length ct := slV_slice _ _ _
  obtain ⟨nt, hnt9⟩ : ∃ nt, nt = t'.ks.length := ⟨_, rfl⟩
  rw [← hnt9] at hst
  rw [hst]
  have HB5 := Lib.hid (HBA.out.trans (hb.mono HBA.out.size))
  have HQ25 := Lib.hid (HQ2A.out.next hb)
  have HOT := Lib.hid hot
  have HNT := Lib.hid hnt
  have HGT : Hid (∀ b ∈ blks t', w.heap.size + 1 < b) := fun b hb9 => by have := hgt b hb9; omega
  have HET := Lib.hid het
  have HST := Lib.hid hst
  have HN9 := Lib.hid hnt9
  obtain ⟨ta, hta⟩ : ∃ a, a = t'.a.d := ⟨_, rfl⟩
  rw [← hta]
  have HAH := Lib.hid (fun W => ahead_c d W)
  obtain ⟨ah, hah⟩ : ∃ z, z = aheadB d := ⟨_, rfl⟩
  rw [← hah] at HAH
  have HAD := Lib.hid hah
  have hs5 := HQ25.out.lt
  have hs5n : w.heap.size + 1 ≠ w5.heap.size := by omega
  have hf1 : w5.frozen? ⟨w.heap.size + 1, 1, none⟩ = false := HQ25.out.frozen 1
  clear hot hnt hgt het hst hnt9 hta hah hb HRM HQ2A HBA HQ7 y0 y1 y2 y3 y4 l0 l1 l2 l3 l4
  obtain ⟨⟨l0, l1, l2, l3, l4⟩, -⟩ := c5 HQ25.out
  go_upto_region 5 with fail
  obtain ⟨wC, hwC⟩ : ∃ wC, wC = (w5.setCell ⟨w.heap.size + 1, 1, none⟩ (.int .i64 65536)).alloc (.cells #[.int .i64 ta.k, .int .i64 ta.w, .int .i64 ta.c, .int .i64 ta.s, .slice pt nt ct] 24) := ⟨_, rfl⟩
  have hs9 : (w5.setCell ⟨w.heap.size + 1, 1, none⟩ (.int .i64 65536)).heap.size = w5.heap.size := by simp [World.setCell]
  have hq9 : Blk wC w5.heap.size 24 #[.int .i64 ta.k, .int .i64 ta.w, .int .i64 ta.c, .int .i64 ta.s, .slice pt nt ct] := by rw [hwC]; have := Blk.new (w5.setCell ⟨w.heap.size + 1, 1, none⟩ (.int .i64 65536)) 24 #[.int .i64 ta.k, .int .i64 ta.w, .int .i64 ta.c, .int .i64 ta.s, .slice pt nt ct]; rwa [hs9] at this
  have hqL : Blk wC (w.heap.size + 1) 24 #[.int .i64 0, .int .i64 65536, .int .i64 c, .int .i64 se, .slice none 0 0] := by rw [hwC]; exact (HQ25.out.set_ 1 (.int .i64 65536)).alloc _
  have hbC : Below w.heap.size w wC := by rw [hwC]; exact (HB5.out.setCell (p := ⟨w.heap.size + 1, 1, none⟩) (by simp) _).alloc (by rw [hs9]; exact HB5.out.size) _
  have hfar : ∀ b, b < w5.heap.size → b ≠ w.heap.size + 1 → wC.heap[b]? = w5.heap[b]? := fun b hb hn => by
    rw [hwC, Below.heap_alloc _ _ b (by rw [hs9]; exact hb)]
    exact Below.heap_setCell w5 ⟨w.heap.size + 1, 1, none⟩ _ b hn
  have hsC : wC.heap.size = w5.heap.size + 1 := by rw [hwC]; simp [World.alloc, World.setCell]
  have hotC : Own wC t' := HOT.out.same fun b hb => hfar b (HOT.out.lt b hb) (by have := HGT.out b hb; omega)
  rw [← hwC]
  have HBC := Lib.hid hbC
  have HOC := Lib.hid hotC
  have HSC : Hid (wC.heap.size = w5.heap.size + 1) := hsC
  have HLT : Hid (∀ b ∈ blks t', b < w5.heap.size) := HOT.out.lt
  obtain ⟨⟨l0, l1, l2, l3, l4⟩, -⟩ := c5 hqL
  obtain ⟨⟨y0, y1, y2, y3, y4⟩, -⟩ := c5 hq9
  obtain ⟨g9, hg9⟩ : ∃ g, g = w5.heap.size := ⟨_, rfl⟩
  rw [← hg9] at hq9 y0 y1 y2 y3 y4 ⊢
  have hlq := hqL.lt
  have hl9 := hq9.lt
  have HQL := Lib.hid hqL
  clear hwC hs9 hq9 hqL hbC hfar hsC hotC HOT HQ25 hf1 hs5n hg9
  -- both ends' common last step
  have HFIN : Hid (∀ (L : List ATr) (v : Value) (w9 wN : World), L.map era = apartL c se d K → w9.ownsRow 0 24 5 v L.length (rowOf L) → wN.grownBy w9 (slA t').ownBlock → (v.ownBlock = (slA t').ownBlock ∨ ∃ r, v.ownBlock = some r ∧ wN.heap.size ≤ r) → Below wC.heap.size wC wN → blksL L = blksL t'.ks → (∀ y ∈ L, y ∈ t'.ks ∨ y = leafA c se) → R (.returned v) w9) := by
    intro L v w9 wN hL ho hg hv hbN hbl hmem
    rw [HR.out]
    have hnk : (blksL t'.ks).Nodup := by
      have := HNT.out
      obtain ⟨a9, ks9⟩ := t'
      simp only [blks, List.nodup_append] at this
      exact this.2.1
    have hin : ∀ b ∈ blksL t'.ks, b ∈ blks t' := fun b hb => by obtain ⟨a9, ks9⟩ := t'; exact blksL_in (s := .mk a9 ks9) b hb
    have hlt : ∀ b ∈ blks t', b < wN.heap.size := fun b hb => by have := HLT.out b hb; have := HSC.out; have := hbN.size; omega
    have hOk : OwnL w9 t'.ks := by
      have h1 : OwnL wC t'.ks := by have := HOC.out; obtain ⟨a9, ks9⟩ := t'; exact this.2
      refine h1.same fun b hb => ?_
      have hbC := HLT.out b (hin b hb)
      rw [hg.block b (hlt b (hin b hb)) fun e => ?_, hbN.block b (by have := HSC.out; omega)]
      obtain ⟨h0, e9⟩ := slA_own e.symm
      exact own_out HNT.out h0 (e9 ▸ hb)
    have hvb : ∀ b, v.ownBlock = some b → b ∉ blksL t'.ks ∧ w.heap.size ≤ b := fun b hb => by
      rcases hv with h | ⟨r, h, hr⟩
      · rw [h] at hb
        obtain ⟨h0, e9⟩ := slA_own hb
        refine ⟨fun hm => own_out HNT.out h0 (e9 ▸ hm), ?_⟩
        have := HGT.out b (e9 ▸ own_in h0)
        omega
      · rw [h] at hb
        have hb := Option.some.inj hb
        refine ⟨fun hm => ?_, ?_⟩
        · have := hlt b (hin b hm); omega
        · have := hbN.size; have := HBC.out.size; omega
    refine ⟨v, L, rfl, hL, row_raise ho fun b hb => (hvb b hb).2, OwnL_mem.2 fun y hy => ?_, by rw [hbl]; exact hnk, fun b hb => ?_, fun b hb => by rw [hbl]; exact (hvb b hb).1, ?_⟩
    · rcases hmem y hy with h | rfl
      · exact OwnL_mem.1 hOk y h
      · exact leafA_own w9 c se
    · rw [hbl] at hb
      have := HGT.out b (hin b hb)
      omega
    · have h1 := HBC.out.trans (hbN.mono HBC.out.size)
      refine ⟨hg.os.trans h1.os, hg.tape.trans h1.tape, hg.output.trans h1.output, Nat.le_trans h1.size hg.size, fun b hb => ?_⟩
      rw [hg.block b (Nat.lt_of_lt_of_le hb h1.size) fun e => ?_, h1.block b hb]
      obtain ⟨h0, e9⟩ := slA_own e.symm
      have := HGT.out b (e9 ▸ own_in h0)
      omega
  have HEK : Hid (t'.ks.map era = lessL c [K]) := by show _ = _; rw [← era_ks, HET.out] <;> rfl
  have HNK : Hid (nt ≤ 1) := by
    show _ ≤ _
    rw [HN9.out]
    have h1 := congrArg List.length HEK.out
    have h2 := lessL_len c [K]
    simp only [List.length_map, List.length_singleton] at h1 h2
    omega
  cases ah
  · have HAP : Hid (apartL c se d K = lessL c [K] ++ [leafC c se]) := by show _ = _; unfold apartL; rw [if_neg (by rw [← HAD.out]; simp)]
    obtain ⟨i0, hi0, hz0, hz1, hz2⟩ := con_info
    have hqI := Blk.new wC 24 #[.int .i64 0, .int .i64 65536, .int .i64 c, .int .i64 se, .slice none 0 0]
    have hbI : Below wC.heap.size wC (wC.alloc (.cells #[.int .i64 0, .int .i64 65536, .int .i64 c, .int .i64 se, .slice none 0 0] 24)) := (Below.refl _ _).alloc (Nat.le_refl _) _
    have hoI := (HOC.out.next hbI).row
    rw [HST.out, ← HN9.out] at hoI
    have hcells : ∀ j u, (encC ⟨0, 65536, c, se⟩ (.slice none 0 0))[j]? = some u → (wC.alloc (.cells #[.int .i64 0, .int .i64 65536, .int .i64 c, .int .i64 se, .slice none 0 0] 24)).cell? ((⟨wC.heap.size, 0, none⟩ : Addr).add j) = some u := fun j u hu => by
      rw [show (⟨wC.heap.size, 0, none⟩ : Addr).add j = ⟨wC.heap.size, j, none⟩ by unfold Addr.add; split <;> simp_all]
      exact hqI.at_ (by simpa [encC] using hu)
    have HO := Lib.hid hoI
    have HCL := Lib.hid hcells
    have H1 : Hid (∀ u ∈ encC ⟨0, 65536, c, se⟩ (.slice none 0 0), u.oneCell' = true) := by intro u hu; simp [encC] at hu; rcases hu with rfl | rfl | rfl | rfl | rfl <;> rfl
    have HBI := Lib.hid hbI
    have hn1 := HNK.out
    clear hqI hbI hoI hcells
    go_upto_region 7 with (go_at_call 106; ((with_reducible refine (HAH.out _).mono ?_); rintro e1 w1 ⟨rfl, rfl⟩))
    go_wp2_with (at_builtin; (refine wpList_append_own_at _ rfl (.tmp 30) (.tmp 32) 22 rfl 0 24 i0 (.agg #[.int .i64 0, .int .i64 0, .int .i64 0, .int .i64 0, .slice none 0 0]) 5 56 Try.underlying22 hi0 hz0 hz1 hz2 rfl (by decide) _ nt _ rfl HO.out ⟨wC.heap.size, 0, none⟩ 1 1 (encC ⟨0, 65536, c, se⟩ (.slice none 0 0)) rfl rfl HCL.out H1.out (by unfold maxLen; omega) (by omega) (Nat.zero_le _) ?_; intro v7 w7 ho7 hg7 hn7 hb7; have HO7 := Lib.hid ho7; have HG7 := Lib.hid hg7; have HB7 := Lib.hid hb7; clear ho7 hg7 hn7 hb7))
    refine HFIN.out (t'.ks ++ [leafA c se]) _ _ _ (by rw [HAP.out, List.map_append, HEK.out]; rfl) (by
      rw [rowOf_append, List.length_append, ← HN9.out]
      exact HO7.out) (by rw [HST.out]; exact HG7.out) (by rw [HST.out]; exact HB7.out.imp id fun h => ⟨_, h, Nat.le_refl _⟩) HBI.out (by rw [blksL_append]; simp [blksL, blks]) (fun y hy => by rcases List.mem_append.1 hy with h | h; exact .inl h; exact .inr (List.mem_singleton.1 h))
  · have HAP : Hid (apartL c se d K = leafC c se :: lessL c [K]) := by show _ = _; unfold apartL; rw [if_pos HAD.out.symm]
    go_upto_region 6 with (go_at_call 106; ((with_reducible refine (HAH.out _).mono ?_); rintro e1 w1 ⟨rfl, rfl⟩))
    have hqI := Blk.new wC 24 #[.int .i64 0, .int .i64 65536, .int .i64 c, .int .i64 se, .slice none 0 0]
    have hbI : Below wC.heap.size wC (wC.alloc (.cells #[.int .i64 0, .int .i64 65536, .int .i64 c, .int .i64 se, .slice none 0 0] 24)) := (Below.refl _ _).alloc (Nat.le_refl _) _
    have hoI := (HOC.out.next hbI).row
    have hcall := insert_c 0 (slA t') t'.ks.length 0 wC.heap.size (rowOf t'.ks) (encC ⟨0, 65536, c, se⟩ (.slice none 0 0)) _ hoI (by simpa [encC] using hqI) rfl (by intro u hu; simp [encC] at hu; rcases hu with rfl | rfl | rfl | rfl | rfl <;> rfl) (rowOf_one t'.ks) (by rw [← HN9.out]; have := HNK.out; omega) (Nat.zero_le _) (fun b hb => by
      obtain ⟨h0, e⟩ := slA_own hb
      have := HLT.out b (e ▸ own_in h0)
      have := HSC.out
      omega) (Nat.zero_le _)
    rw [HST.out, ← HN9.out] at hcall
    have HC := Lib.hid hcall
    have HBI := Lib.hid hbI
    clear hcall hqI hbI hoI
    go_wp2_with fail
    refine HC.out.mono ?_
    rintro e w9 ⟨v', rfl, ho', hb', hg'⟩
    obtain ⟨gv, cv, rfl, -, -⟩ := ho'.form (by omega)
    have HF := Lib.hid (HFIN.out (leafA c se :: t'.ks) _ w9 _ (by rw [HAP.out, List.map_cons, HEK.out]; rfl) (by
      have := rowOf_ins t'.ks 0 (Nat.zero_le _) (leafA c se)
      simp only [List.take_zero, List.nil_append, List.drop_zero] at this
      rw [this, List.length_cons, ← HN9.out]
      exact ho') (by rw [HST.out]; exact hb') (by rw [HST.out]; exact hg') HBI.out (by simp [blksL, blks]) (fun y hy => by rcases List.mem_cons.1 hy with h | h; exact .inr h; exact .inl h))
    clear ho' hb' hg' HC
    go_wp2_with fail
    exact HF.out
end Go.Proofs.Ytjeabkcbaielhaa.Co
end
section
namespace Go.Proofs.Ytjeabkcbaielhaa.Co
open Go.RowKit Go.Shelf Go.Maps
theorem lessL_one9 (c : Int) (K : Con) : (lessL c [K]).length ≤ 1 := lessL_len c [K]
theorem apartL_len (c se d : Int) (K : Con) : 1 ≤ (apartL c se d K).length ∧ (apartL c se d K).length ≤ 2 := by
  have := lessL_one9 c K
  unfold apartL
  split
  · simp only [List.length_cons]; omega
  · simp only [List.length_append, List.length_singleton]; omega
theorem row_form {w : World} {B n : Nat} {v : Value} {xs : List Value} (h : w.ownsRow B 24 5 v n xs) (hn : 0 < n) : ∃ g c cur, v = .slice (some ⟨g, 0, none⟩) n c ∧ B ≤ g ∧ w.heap[g]? = some (.cells cur 24 (0, 0)) ∧ cur.size ≠ 0 ∧ g < w.heap.size ∧ (∀ j u, xs[j]? = some u → w.cell? ⟨g, j, none⟩ = some u) := by
  obtain ⟨h1, h2 | ⟨g, c, cur, rfl, h3, h4, h5, h6, h7, h8⟩⟩ := h
  · omega
  · refine ⟨g, c, cur, rfl, h3, h4, by omega, (Array.getElem?_eq_some_iff.1 h4).1, fun j u hu => ?_⟩
    rw [cell_of_row w g j cur 24 (0, 0) h4, ← hu, ← h8, List.getElem?_take_of_lt (by have := (List.getElem?_eq_some_iff.1 hu).1; rw [h1] at this; omega)]; simp
/-- A kid of a split becomes one or two others. -/
theorem rep_c {w : World} {a : AD} {ks L : List ATr} {v : Value} {i : Nat} (ho : w.ownsRow 0 24 5 (slA (.mk a ks)) ks.length (rowOf ks)) (hv : w.ownsRow 0 24 5 v L.length (rowOf L)) (hne : ∀ b, v.ownBlock = some b → (slA (.mk a ks)).ownBlock ≠ some b) (hi : i < ks.length) (hk : ks.length ≤ 100000) (h1 : 1 ≤ L.length) (h2 : L.length ≤ 2) :
    Calls Try.prog 108 #[slA (.mk a ks), .int .i64 (i : Int), .int .i64 ((i : Int) + 1), v] w (RepR 0 (slA (.mk a ks)) ks.length i L.length (rowOf ks) (rowOf L) w) := by
  obtain ⟨g, cap, cur, hg, -, hgc, -, -, -⟩ := row_form ho (by omega)
  obtain ⟨vb, cv, cur2, rfl, -, hvc, hv0, hvl, hcell⟩ := row_form hv (by omega)
  have hgv : vb ≠ g := fun e => hne vb rfl (by rw [hg, e]; rfl)
  rw [hg] at ho ⊢
  have hll := rowOf_len L
  have h1l := rowOf_one L
  have h1k := rowOf_one ks
  rcases Nat.lt_or_ge (i + 1) ks.length with h | h
  · have hm : L.length = 1 ∨ L.length = 2 := by omega
    rcases hm with hm | hm
    · rw [hm] at hll ⊢
      exact rep_one 0 g ks.length cap i vb cv (rowOf ks) (rowOf L) w ho hcell (by omega) h1l h1k hk h hgv
    · rw [hm] at hll ⊢
      rcases Nat.lt_or_ge cap (ks.length + 1) with hc | hc
      · exact rep_out 0 g ks.length cap i vb cv (rowOf ks) (rowOf L) w ho hcell hvl (by omega) h1l h1k hk h hc (Nat.zero_le _)
      · exact rep_in 0 g ks.length cap i vb cv (rowOf ks) (rowOf L) w ho hcell ⟨cur2, hvc, hv0⟩ (by omega) h1l h1k hk h hc hgv
  · exact rep_end 0 g ks.length cap i vb L.length cv (rowOf ks) (rowOf L) w ho hcell (by omega) h1l hk (by omega) h1 h2 (Nat.zero_le _)
theorem rowOf_rep (ks L : List ATr) (i : Nat) (hi : i < ks.length) : rowOf (ks.take i ++ L ++ ks.drop (i + 1)) = (rowOf ks).take (i * 5) ++ rowOf L ++ (rowOf ks).drop ((i + 1) * 5) := by
  rw [rowOf_append, rowOf_append, rowOf_take ks i (by omega), rowOf_drop ks (i + 1) (by omega)]
section
variable {w w1 w2 : World} {N r : Nat} {t : ATr} {u : List Nat}
/-- The tree behind it. wA: ahead of what makes the new kids; w1: behind that; w2: behind the replacement. -/
theorem Root.replaced {wA : World} {a : AD} {ks L : List ATr} {v' : Value} {i : Nat} (h : Root N wA r t) (hs : get t u = some (.mk a ks)) (hi : i < ks.length) (hb : Below wA.heap.size wA w1) (hOL : OwnL w1 L) (hnL : (blksL L).Nodup) (hgL : ∀ b ∈ blksL L, wA.heap.size ≤ b) (h1 : 1 ≤ L.length) (hltL : ∀ b ∈ blksL L, b < w1.heap.size)
    (hc : RepR 0 (slA (.mk a ks)) ks.length i L.length (rowOf ks) (rowOf L) w1 (.returned v') w2) (hN : N ≤ wA.heap.size) :
    ∃ g cap, v' = slV g cap (ks.take i ++ L ++ ks.drop (i + 1)).length ∧ Root N (w2.setCell ⟨(loc r 0 t u).1, (loc r 0 t u).2 + 4, none⟩ v') r (Co.put t u (.mk ⟨a.d, g, cap⟩ (ks.take i ++ L ++ ks.drop (i + 1)))) ∧
      (∀ b ∈ blks (.mk ⟨a.d, g, cap⟩ (ks.take i ++ L ++ ks.drop (i + 1))), b ∈ blks (.mk a ks) ∨ wA.heap.size ≤ b) ∧ wA.grownBy w2 (slA (.mk a ks)).ownBlock := by
  obtain ⟨v9, e, ho, hg, hv⟩ := hc
  have e := Ending.returned.inj e
  subst e
  have hl : (ks.take i ++ L ++ ks.drop (i + 1)).length = ks.length + L.length - 1 := by simp only [List.length_append, List.length_take, List.length_drop]; omega
  obtain ⟨g, cap, hvs⟩ := row_slV ho (by omega)
  have hns := h.nodup_at hs
  have hheld := (h.held.get hs).own
  have hnk : (blksL ks).Nodup := by
    have := hns
    simp only [blks, List.nodup_append] at this
    exact this.2.1
  have hltk : ∀ b ∈ blksL ks, b < wA.heap.size := fun b hb' => hheld.lt b (blksL_in (s := .mk a ks) b hb')
  have hgA : wA.grownBy w2 (slA (.mk a ks)).ownBlock := ⟨hg.os.trans hb.os, hg.tape.trans hb.tape, hg.output.trans hb.output, Nat.le_trans hb.size hg.size, fun b hl' hn' => by rw [hg.block b (Nat.lt_of_lt_of_le hl' hb.size) hn', hb.block b hl']⟩
  have hownb : ∀ b, (slA (.mk a ks)).ownBlock = some b → b ∉ blksL ks ∧ b < wA.heap.size := fun b hb' => by
    obtain ⟨h0, e⟩ := slA_own hb'
    exact ⟨fun hm => own_out (s := .mk a ks) hns h0 (e ▸ hm), hheld.lt b (e ▸ own_in h0)⟩
  have hOk : OwnL w2 ks := hheld.2.same fun b hb' => hgA.block b (hltk b hb') fun e => (hownb b e.symm).1 hb'
  have hOL2 : OwnL w2 L := hOL.same fun b hb' => hg.block b (hltL b hb') fun e => by have := (hownb b e.symm).2; have := hgL b hb'; omega
  have hsub : blksL (ks.take i ++ L ++ ks.drop (i + 1)) = blksL (ks.take i) ++ blksL L ++ blksL (ks.drop (i + 1)) := by rw [blksL_append, blksL_append]
  have hka : blksL ks = blksL (ks.take i) ++ blksL (ks.drop i) := by rw [← blksL_append, List.take_append_drop]
  have hkd : ∀ b ∈ blksL (ks.drop (i + 1)), b ∈ blksL (ks.drop i) := fun b hb' => by
    rw [List.drop_eq_getElem_cons hi]; simp only [blksL, List.mem_append]; exact .inr hb'
  have hmem : ∀ b ∈ blksL (ks.take i ++ L ++ ks.drop (i + 1)), b ∈ blksL ks ∨ (wA.heap.size ≤ b ∧ b ∈ blksL L) := fun b hb' => by
    rw [hsub] at hb'
    simp only [List.mem_append] at hb'
    rcases hb' with (hb' | hb') | hb'
    · exact .inl (by rw [hka, List.mem_append]; exact .inl hb')
    · exact .inr ⟨hgL b hb', hb'⟩
    · exact .inl (by rw [hka, List.mem_append]; exact .inr (hkd b hb'))
  have hnd : (blksL (ks.take i ++ L ++ ks.drop (i + 1))).Nodup := by
    rw [hsub]
    rw [hka, List.nodup_append] at hnk
    have hn2 : (blksL (ks.drop (i + 1))).Nodup := by
      have := hnk.2.1
      rw [List.drop_eq_getElem_cons hi] at this
      simp only [blksL, List.nodup_append] at this
      exact this.2.1
    rw [List.nodup_append, List.nodup_append]
    refine ⟨⟨hnk.1, hnL, fun b hb' c hc e => ?_⟩, hn2, fun b hb' c hc e => ?_⟩
    · have := hltk b (by rw [hka, List.mem_append]; exact .inl hb'); have := hgL c hc; omega
    · rw [List.mem_append] at hb'
      rcases hb' with hb' | hb'
      · exact hnk.2.2 b hb' c (hkd c hc) e
      · have := hltk c (by rw [hka, List.mem_append]; exact .inr (hkd c hc)); have := hgL b hb'; omega
  have hvb : v'.ownBlock = (slA (.mk a ks)).ownBlock ∨ ∃ b, v'.ownBlock = some b ∧ wA.heap.size ≤ b ∧ b ∉ blksL (ks.take i ++ L ++ ks.drop (i + 1)) := by
    rcases hv with hv | ⟨b, hv, hbl⟩
    · exact .inl hv
    · refine .inr ⟨b, hv, Nat.le_trans hb.size hbl, fun hm => ?_⟩
      rcases hmem b hm with h3 | ⟨_, h3⟩
      · have := hltk b h3; have := hb.size; omega
      · have := hltL b h3; omega
  have hRow := h.row9 (s := .mk a ks) (v := v') (g := g) (cap := cap) (ks := ks.take i ++ L ++ ks.drop (i + 1)) hs hgA (by rw [hl]; exact hvs) (by rw [hl, rowOf_rep ks L i hi]; exact ho) hvb (OwnL_mem.2 fun y hy => by
    rw [List.mem_append, List.mem_append] at hy
    rcases hy with (hy | hy) | hy
    · exact OwnL_mem.1 hOk y (List.mem_of_mem_take hy)
    · exact OwnL_mem.1 hOL2 y hy
    · exact OwnL_mem.1 hOk y (List.mem_of_mem_drop hy)) hnd (fun b hb' => (hmem b hb').imp id fun h => h.1) hN
  refine ⟨g, cap, by rw [hl]; exact hvs, hRow.1, fun b hb' => ?_, hgA⟩
  have hb' : b ∈ (if (ks.take i ++ L ++ ks.drop (i + 1)).length = 0 then [] else [g]) ++ blksL (ks.take i ++ L ++ ks.drop (i + 1)) := hb'
  rw [List.mem_append] at hb'
  rcases hb' with hb' | hb'
  · rw [if_neg (by omega)] at hb'
    have hb' := List.mem_singleton.1 hb'
    subst hb'
    have hvg : v'.ownBlock = some b := by rw [hvs]; unfold slV; rw [if_neg (by omega)]; rfl
    rcases hvb with h3 | ⟨b2, h3, h4, -⟩
    · rw [h3] at hvg
      obtain ⟨h0, e⟩ := slA_own hvg
      exact .inl (e ▸ own_in h0)
    · rw [h3] at hvg; exact .inr (Option.some.inj hvg ▸ h4)
  · rcases hmem b hb' with h3 | ⟨h3, -⟩
    · exact .inl (blksL_in (s := .mk a ks) b h3)
    · exact .inr h3
end
theorem told9 {N B r g : Nat} {w4 : World} {t : ATr} {z : Con} (hr : Root N w4 r t) (he : era t = z) (hN : B ≤ N) (hg : g ∉ blks t) (v0 v1 v2 v3 v4 : Value) : TellR B (z, 0) (.returned (.tuple #[conV t.a.d (slA t), .int .i64 0])) (st5 w4 g v0 v1 v2 v3 v4) := by
  refine .inr ⟨rfl, t, hr.own.2.1.same fun b hb => far_st5 w4 g v0 v1 v2 v3 v4 b ?_, ?_, fun b hb => ?_, he, rfl⟩
  · exact fun e => hg (e ▸ hb)
  · have h := hr.nodup; rw [blks_top, List.nodup_cons] at h; exact h.2
  · exact Nat.le_trans hN (hr.ge b (by rw [blks_top]; simp [hb]))
end Go.Proofs.Ytjeabkcbaielhaa.Co
end
section
namespace Go.Proofs.Ytjeabkcbaielhaa.Co
open Go.RowKit Go.Shelf Go.Maps
theorem outN_no {x q : Con} {u : List Nat} {c se d : Int} {m i : Nat} (hq : get x (u.take m) = some q) (hi : u[m]? = some i) (ha : alongB q.a.k d = false) : outN x u c se d (m + 1) = outN x u c se d m := by
  simp only [outN, hq, hi, ha]; simp
theorem outN_full {x q : Con} {u : List Nat} {c se d : Int} {m i : Nat} (hq : get x (u.take m) = some q) (hi : u[m]? = some i) (ha : alongB q.a.k d = true) (h : q.ks.length = 64) : outN x u c se d (m + 1) = (zeroT, 2) := by
  simp only [outN, hq, hi, ha, h]; simp
theorem outN_yes {x q K : Con} {u : List Nat} {c se d : Int} {m i : Nat} (hq : get x (u.take m) = some q) (hi : u[m]? = some i) (ha : alongB q.a.k d = true) (h : q.ks.length ≠ 64) (hK : q.ks[i]? = some K) : outN x u c se d (m + 1) = (put x (u.take m) (.mk q.a (q.ks.take i ++ apartL c se d K ++ q.ks.drop (i + 1))), 0) := by
  simp only [outN, hq, hi, ha, if_neg h, hK]; simp
theorem leaf_ks9 {p : ATr} (h : (era p).ks = []) : p.ks = [] := by rw [era_ks] at h; simpa using h
theorem era_find {t : ATr} {x y : Con} {u : List Nat} (he : era t = x) (hy : get x u = some y) : ∃ s, get t u = some s ∧ era s = y := by
  rw [← he, era_get] at hy
  cases hg : get t u with
  | none => rw [hg] at hy; cases hy
  | some s => rw [hg] at hy; exact ⟨s, rfl, Option.some.inj hy⟩
/-- What stands at a place of a way, whatever the tree holds. -/
theorem way_stepT {α : Type} {x s : Tr α} {u : List Nat} {m : Nat} (h : get x u = some s) (hm : m < u.length) : ∃ p i y, get x (u.take m) = some p ∧ u[m]? = some i ∧ p.ks[i]? = some y ∧ u.take (m + 1) = u.take m ++ [i] ∧ get x (u.take (m + 1)) = some y := by
  obtain ⟨p, h1, h2⟩ := get_take h m
  have hi : u[m]? = some u[m] := List.getElem?_eq_getElem hm
  rw [List.drop_eq_getElem_cons hm] at h2
  obtain ⟨a, ks⟩ := p
  obtain ⟨y, hy, -⟩ := get_cons h2
  refine ⟨_, u[m], y, h1, hi, hy, take_snoc hi, ?_⟩
  rw [take_snoc hi, get_append _ h1]
  simp only [get]
  rw [hy]
theorem row_lower {w : World} {B n : Nat} {v : Value} {xs : List Value} (h : w.ownsRow B 24 5 v n xs) : w.ownsRow 0 24 5 v n xs := by
  obtain ⟨h1, h2 | ⟨g, c, cur, rfl, h3, h4⟩⟩ := h
  · exact ⟨h1, .inl h2⟩
  · exact ⟨h1, .inr ⟨g, c, cur, rfl, Nat.zero_le _, h4⟩⟩
/-- What out tells: the tree's own blocks may have changed. -/
def OutR (N : Nat) (r : Con × Int) (w : World) (e : Ending) (w' : World) : Prop := TellR N r e w' ∧ Below N w w'
set_option maxHeartbeats 8000000 in
set_option maxRecDepth 100000 in
theorem out_c (N : Nat) (Y : Nat → Prop) (x : Con) (t : ATr) (u : List Nat) (v : Value) (c d : Int) (y : Con) (w : World) (hot : Own w t) (hnt : (blks t).Nodup) (hgt : ∀ b ∈ blks t, N ≤ b) (hN : N ≤ w.heap.size) (het : era t = x) (hV : WV w Y u v) (hu : IsWay x c u) (hy : get x u = some y) (htr : treeB x = true) (hf : fine x) (hd : ht x ≤ 800000) (hwd : wd x ≤ 80000) (h8 : u.length ≤ 100000) :
    Calls Try.prog 93 #[conV t.a.d (slA t), v, .int .i64 d] w (OutR N (outN x u c y.a.s d (u.length - 1)) w) := by
  obtain ⟨pt, ct, hst⟩ : ∃ pt ct, slA t = .slice pt t.ks.length ct := slV_slice _ _ _
  obtain ⟨nt, hnt9⟩ : ∃ nt, nt = t.ks.length := ⟨_, rfl⟩
  rw [← hnt9] at hst
  obtain ⟨q, cu, rfl⟩ := hV.slice
  obtain ⟨R, hR⟩ : ∃ R, R = OutR N (outN x u c y.a.s d (u.length - 1)) w := ⟨_, rfl⟩
  have hRe : ∀ e w', R e w' ↔ OutR N (outN x u c y.a.s d (u.length - 1)) w e w' := by rw [hR]; exact fun _ _ => Iff.rfl
  rw [← hR]
  -- the leaf, and what it stands in
  obtain ⟨yl, hyl, hyk, hyc, hyks, hun, -⟩ := hu.leaf htr
  rw [hy] at hyl
  have hyl := Option.some.inj hyl
  subst hyl
  obtain ⟨u0, iL, rfl⟩ : ∃ u0 i, u = u0 ++ [i] := by
    rcases List.eq_nil_or_concat u with h | ⟨a, b, h⟩
    · exact absurd h hun
    · exact ⟨a, b, by rw [h, List.concat_eq_append]⟩
  obtain ⟨s, hs, hes⟩ := era_find het hy
  obtain ⟨P, hP, hPs⟩ := get_prefix hs
  have hPk : P.ks[iL]? = some s := by
    obtain ⟨a, ks⟩ := P
    obtain ⟨z, hz, hz2⟩ := get_cons hPs
    simp only [Co.get] at hz2
    rw [← Option.some.inj hz2]; exact hz
  have hsk : s.ks = [] := leaf_ks9 (by rw [hes]; exact hyks)
  have hss : slA s = .slice none 0 0 := by unfold slA slV; rw [hsk]; rfl
  have hsd : s.a.d = y.a := by rw [← era_a, hes]
  obtain ⟨wB, hwB⟩ : ∃ wB, wB = (w.alloc (.cells #[.int .i64 t.a.d.k, .int .i64 t.a.d.w, .int .i64 t.a.d.c, .int .i64 t.a.d.s, .slice pt nt ct] 24)).alloc (.cells #[.int .i64 0, .int .i64 0, .int .i64 0, .int .i64 0, .slice none 0 0] 24) := ⟨_, rfl⟩
  have hb0 : Below w.heap.size w wB := by rw [hwB]; exact ((Below.refl w.heap.size w).alloc (Nat.le_refl _) _).alloc (by simp) _
  have hq2 : Blk wB (w.heap.size + 1) 24 #[.int .i64 0, .int .i64 0, .int .i64 0, .int .i64 0, .slice none 0 0] := by
    rw [hwB]; have := Blk.new (w.alloc (.cells #[.int .i64 t.a.d.k, .int .i64 t.a.d.w, .int .i64 t.a.d.c, .int .i64 t.a.d.s, .slice pt nt ct] 24)) 24 #[.int .i64 0, .int .i64 0, .int .i64 0, .int .i64 0, .slice none 0 0]; rwa [World.size_alloc] at this
  have hroot : Root N wB w.heap.size t := by
    have h := Root.made (N := N) hot hnt hgt hN
    rw [hst] at h
    rw [hwB]
    exact h.next ((Below.refl _ _).alloc (Nat.le_refl _) _)
  have hltb : ∀ b ∈ blks t, b < w.heap.size := hot.lt
  obtain ⟨r, hr⟩ : ∃ r, r = w.heap.size := ⟨_, rfl⟩
  have hPP := held_path hroot.held hP
  obtain ⟨L0, hL0⟩ : ∃ L, L = loc w.heap.size 0 t u0 := ⟨_, rfl⟩
  rw [← hL0] at hPP
  have hPh := hroot.held.get hP
  rw [← hL0] at hPh
  have hsh := hroot.held.get hs
  have hls : loc w.heap.size 0 t (u0 ++ [iL]) = (P.a.g, iL * 5) := by rw [loc_append _ hP]; obtain ⟨a, ks⟩ := P; rw [loc_cons (show ks[iL]? = some s from hPk)]; rfl
  rw [hls] at hsh
  obtain ⟨bP, oP⟩ := L0
  have HCUT := Lib.hid (cut_p _ _ _ bP oP u0 iL (.slice q (u0 ++ [iL]).length cu) wB hPP (hV.next hb0))
  have kP := hPh.cells 4 _ rfl
  rw [slA_some hPk] at kP
  have s0 := hsh.cells 0 _ rfl
  have s1 := hsh.cells 1 _ rfl
  have s2 := hsh.cells 2 _ rfl
  have s3 := hsh.cells 3 _ rfl
  have s4 := hsh.cells 4 _ rfl
  rw [hss] at s4
  rw [hsd] at s0 s1 s2 s3
  simp only [Nat.add_zero] at s0
  have hiL := (List.getElem?_eq_some_iff.1 hPk).1
  obtain ⟨nP, hnP⟩ : ∃ n, n = P.ks.length := ⟨_, rfl⟩
  rw [← hnP] at kP hiL
  obtain ⟨gP, hgP⟩ : ∃ g, g = P.a.g := ⟨_, rfl⟩
  rw [← hgP] at kP s0 s1 s2 s3 s4
  obtain ⟨cP, hcP⟩ : ∃ g, g = P.a.cap := ⟨_, rfl⟩
  rw [← hcP] at kP
  have hiL1 : (0 : Int) ≤ (iL : Int) := by omega
  have hiL2 : (iL : Int) < (nP : Int) := by omega
  obtain ⟨n, hn⟩ : ∃ n, n = (u0 ++ [iL]).length := ⟨_, rfl⟩
  have hnn : n = u0.length + 1 := by rw [hn]; simp
  rw [← hn] at HCUT hRe h8 ⊢
  obtain ⟨U, hU⟩ : ∃ U, U = u0 ++ [iL] := ⟨_, rfl⟩
  rw [← hU] at hRe hV hn hu hy hs
  rw [← hn] at hV
  have HR := Lib.hid hRe
  have HB := Lib.hid hb0
  have HQ2 := Lib.hid hq2
  have HWB := Lib.hid hwB
  have HRT := Lib.hid hroot
  have HV := Lib.hid (hV.next hb0)
  have HN := Lib.hid hN
  have HET := Lib.hid het
  have HUW := Lib.hid hu
  have HY := Lib.hid hy
  have HTR := Lib.hid htr
  have HF := Lib.hid hf
  have HHT := Lib.hid hd
  have HWD := Lib.hid hwd
  have HLB := Lib.hid hltb
  have HNN := Lib.hid hn
  have HST := Lib.hid hst
  have HNU := Lib.hid hnn
  obtain ⟨ta, hta⟩ : ∃ a, a = t.a.d := ⟨_, rfl⟩
  rw [hst, ← hta]
  rw [← hta] at HWB
  have HTA := Lib.hid hta
  have hyk0 : y.a.k = 0 := hyk
  have hyc0 : y.a.c = c := hyc
  rw [hyk0] at s0
  rw [hyc0] at s2
  obtain ⟨wl, hwl⟩ : ∃ z, z = y.a.w := ⟨_, rfl⟩
  obtain ⟨se, hse⟩ : ∃ z, z = y.a.s := ⟨_, rfl⟩
  rw [← hwl] at s1
  rw [← hse] at s3 HR
  clear hot hnt hgt hN het hV hu hy htr hf hd hwd hR hRe hst hnt9 hyk hyc hyks hun hs hes hP hPs hPk hsk hss hsd hwB hb0 hq2 hroot hltb hPP hL0 hPh hsh hls hn hU hyk0 hyc0 hwl hse hnP hgP hcP hta hnn
  have hs1 : w.heap.size + 1 < wB.heap.size := HQ2.out.lt
  show Calls Try.prog 93 #[.agg #[.int .i64 ta.k, .int .i64 ta.w, .int .i64 ta.c, .int .i64 ta.s, .slice pt nt ct], .slice q n cu, .int .i64 d] w R
  go_enter Try.func93, Try.ntmps93
  go_upto_region 1 with fail
  rw [← HWB.out]
  go_wp2_with fail
  refine HCUT.out.mono ?_
  rintro e w2 ⟨rfl, m2, hw2⟩
  have hb2 : Below wB.heap.size wB w2 := by rw [hw2]; exact below_drewN (Below.refl _ _) m2
  have hcc : ∀ p, w2.cell? p = wB.cell? p := fun p => by rw [hw2]; rfl
  have HRT2 := Lib.hid (HRT.out.next hb2)
  have HB2 := Lib.hid (HB.out.trans (hb2.mono HB.out.size))
  have HQ22 := Lib.hid (HQ2.out.next hb2)
  have HV2 := Lib.hid (HV.out.next hb2)
  have HS2 : Hid (wB.heap.size ≤ w2.heap.size) := hb2.size
  rw [← hcc] at kP s0 s1 s2 s3 s4
  clear HCUT hw2 hb2 hcc HRT HB HQ2 HV
  go_upto_region 3 with fail
  obtain ⟨w3, hw3⟩ : ∃ w3, w3 = w2.alloc (.cells #[.int .i64 0, .int .i64 wl, .int .i64 c, .int .i64 se, .slice none 0 0] 24) := ⟨_, rfl⟩
  have hb3 : Below w2.heap.size w2 w3 := by rw [hw3]; exact (Below.refl _ _).alloc (Nat.le_refl _) _
  have hqL : Blk w3 w2.heap.size 24 #[.int .i64 0, .int .i64 wl, .int .i64 c, .int .i64 se, .slice none 0 0] := by rw [hw3]; exact Blk.new _ _ _
  rw [← hw3]
  have HRT3 := Lib.hid (HRT2.out.next hb3)
  have HB3 := Lib.hid (HB2.out.trans (hb3.mono HB2.out.size))
  have HQ23 := Lib.hid (HQ22.out.next hb3)
  have HV3 := Lib.hid (HV2.out.next hb3)
  have HQL := Lib.hid hqL
  have HGL : Hid (w.heap.size + 1 < w2.heap.size) := by have := HS2.out; show _ < _; omega
  obtain ⟨g10, hg10⟩ : ∃ g, g = w2.heap.size := ⟨_, rfl⟩
  rw [← hg10] at HQL HGL ⊢
  clear hw3 hb3 hqL hg10 HRT2 HB2 HQ22 HV2 HS2 kP s0 s1 s2 s3 s4 hiL hiL1 hiL2
  have hn1 : 1 ≤ n := by rw [HNU.out]; omega
  have hwn : IntKind.i64.wrap ((n : Int) - 1) = ((n - 1 : Nat) : Int) := by rw [IntWalk.i64_in _ (by omega)]; omega
  go_wp2_with fail
  go_loopw [11] (fun z wr => ∃ k : Nat, k + 1 ≤ n ∧ z = .int .i64 (k : Int) ∧ Below w3.heap.size w3 wr ∧ Asd (outN x U c se d (n - 1) = outN x U c se d k)) (fun z _ => (intOf z).toNat)
  case atStart => exact ⟨n - 1, by omega, rfl, Below.refl _ _, rfl⟩
  case round =>
    obtain ⟨k, hk, rfl, hbr, hA⟩ := hrel
    have HA := Lib.hid (show outN x U c se d (n - 1) = outN x U c se d k from hA)
    have HBW := Lib.hid hbr
    have HBR := Lib.hid (HB3.out.trans (hbr.mono HB3.out.size))
    have HQR := Lib.hid (HQ23.out.next hbr)
    clear hA hbr hwn
    cases k with
    | zero =>
      obtain ⟨⟨r0, r1, r2, r3, r4⟩, ⟨f0, f1, f2, f3, f4⟩⟩ := c5 HQR.out
      go_wp2_with fail
      obtain ⟨hb5, hq5, -⟩ := st5_next HBR.out (by omega) HQR.out (.int .i64 0) (.int .i64 0) (.int .i64 0) (.int .i64 0) (.slice none 0 0)
      obtain ⟨wF, hwF⟩ : ∃ wF, wF = st5 wr (w.heap.size + 1) (.int .i64 0) (.int .i64 0) (.int .i64 0) (.int .i64 0) (.slice none 0 0) := ⟨_, rfl⟩
      rw [← hwF] at hb5 hq5
      unfold st5 at hwF
      rewrite [← hwF]
      obtain ⟨⟨b0, b1, b2, b3, b4⟩, -⟩ := c5 hq5
      exact bodyPost_ret (v := .tuple #[zeroC, .int .i64 120]) (by simp [results, Try.results93, go_sem, b0, b1, b2, b3, b4]) rfl ((HR.out _ _).2 ⟨.inl (by rw [HA.out]; exact ⟨by show (120 : Int) ≠ 0; decide, rfl⟩), hb5.mono HN.out⟩)
    | succ k' =>
      obtain ⟨s, hs, hes⟩ := era_find HET.out HY.out
      obtain ⟨P, i, K, h1, h2, h3, h4, h5⟩ := way_stepT (m := k') hs (by rw [← HNN.out]; omega)
      have hrt := HRT3.out.next HBW.out
      have hP := held_path hrt.held h1
      have hh := hrt.held.get h1
      have hni := hrt.loc_not h1
      have hge := hrt.ge _ (hrt.loc_mem h1)
      have hvf : WV wr Y (U.take (k' + 1)) (.slice q (k' + 1) cu) := by
        have := HV3.out.next HBW.out
        rw [HNN.out] at this
        exact this.front (k' + 1) (by rw [← HNN.out]; omega)
      rw [h4] at hvf
      have e0 := hh.cells 0 _ rfl
      have e4 := hh.cells 4 _ rfl
      have ef := hh.free ((loc w.heap.size 0 t (U.take k')).2 + 4)
      rw [slA_some h3] at e4
      simp only [Nat.add_zero] at e0
      obtain ⟨L1, hL1⟩ : ∃ L, L = loc w.heap.size 0 t (U.take k') := ⟨_, rfl⟩
      have HL1 := Lib.hid hL1
      rw [← hL1] at hP hni hge e0 e4 ef
      obtain ⟨b1, o1⟩ := L1
      have HCUT := Lib.hid (cut_p _ _ _ b1 o1 _ _ _ wr hP hvf)
      have hex : get x (U.take k') = some (era P) := by rw [← HET.out, era_get, h1]; rfl
      have hekx : (era P).ks[i]? = some (era K) := by rw [era_ks, List.getElem?_map, h3]; rfl
      have hil := (List.getElem?_eq_some_iff.1 h3).1
      have hel : (era P).ks.length = P.ks.length := by rw [era_ks, List.length_map]
      have hno := outN_no (c := c) (se := se) (d := d) hex h2
      have hfu := outN_full (c := c) (se := se) (d := d) hex h2
      have hye := outN_yes (c := c) (se := se) (d := d) (K := era K) hex h2
      rw [hel, era_a] at hfu
      rw [era_a] at hno
      rw [hel, era_a] at hye
      have HNO := Lib.hid hno
      have HFU := Lib.hid hfu
      have HYE := Lib.hid (fun a b => hye a b hekx)
      have HAL := Lib.hid (fun W => along_c P.a.d.k d W)
      obtain ⟨al, hal⟩ : ∃ a, a = alongB P.a.d.k d := ⟨_, rfl⟩
      rw [← hal] at HAL HNO HFU HYE
      obtain ⟨n1, hn1'⟩ : ∃ z, z = P.ks.length := ⟨_, rfl⟩
      rw [← hn1'] at e4 hil HFU HYE
      obtain ⟨g1, hg1⟩ : ∃ z, z = P.a.g := ⟨_, rfl⟩
      obtain ⟨c1, hc1⟩ : ∃ z, z = P.a.cap := ⟨_, rfl⟩
      rw [← hg1, ← hc1] at e4
      have HPK := Lib.hid (And.intro hn1' (And.intro hg1 hc1))
      have HH1 := Lib.hid h1
      have HH3 := Lib.hid h3
      have HEX := Lib.hid hex
      have HRTR := Lib.hid hrt
      have HNI := Lib.hid hni
      have HGE := Lib.hid hge
      have HKX : Hid (get x (U.take (k' + 1)) = some (era K)) := by show _ = _; rw [← HET.out, era_get, h5]; rfl
      have hn64 : n1 ≤ 100000 := by rw [hn1', ← hel]; exact (HF.out _ _ hex).2
      have hkk : k' + 1 ≤ cu := by
        obtain ⟨q', c', e, _, h9, -⟩ := HV3.out
        obtain ⟨-, -, rfl⟩ := Value.slice.inj e
        rw [← HNN.out] at h9
        omega
      have hki : (0 : Int) < ((k' + 1 : Nat) : Int) := by omega
      have hw1 : IntKind.i64.wrap (((k' + 1 : Nat) : Int) - 1) = (k' : Int) := by rw [IntWalk.i64_in _ (by omega)]; omega
      clear hs hes h1 h2 h3 h4 h5 hrt hP hh hni hge hvf hL1 hex hekx hel hno hfu hye hal hn1' hg1 hc1
      go_wp2_with fail
      refine HCUT.out.mono ?_
      rintro e w4 ⟨rfl, m4, hw4⟩
      have hb4 : Below wr.heap.size wr w4 := by rw [hw4]; exact below_drewN (Below.refl _ _) m4
      have hcc : ∀ p, w4.cell? p = wr.cell? p := fun p => by rw [hw4]; rfl
      have hcf : ∀ p, w4.frozen? p = wr.frozen? p := fun p => by rw [hw4]; rfl
      rw [← hcc] at e0 e4
      rw [← hcf] at ef
      have HBW4 := Lib.hid (HBW.out.trans (hb4.mono HBW.out.size))
      have HBR4 := Lib.hid (HBR.out.trans (hb4.mono HBR.out.size))
      have HQR4 := Lib.hid (HQR.out.next hb4)
      have HRT4 := Lib.hid (HRTR.out.next hb4)
      have HQL4 := Lib.hid (HQL.out.next HBW4.out)
      clear hw4 hb4 hcc hcf HCUT HBW HBR HQR HRTR
      obtain ⟨wr, hwr⟩ : ∃ w9, w9 = w4 := ⟨_, rfl⟩
      subst hwr
      cases al
      · have HE := Lib.hid (HA.out.trans (HNO.out rfl))
        go_wp2_with (go_at_call 107; ((with_reducible refine (HAL.out _).mono ?_); rintro e1 w1 ⟨rfl, rfl⟩))
        go_roundw
        case rel => exact ⟨k', by omega, by go_num, HBW4.out, HE.out⟩
        case measure => simp [intOf]
      · by_cases h64 : n1 = 64
        · have HE := Lib.hid (HA.out.trans (HFU.out rfl h64))
          subst h64
          obtain ⟨⟨r0, r1, r2, r3, r4⟩, ⟨f0, f1, f2, f3, f4⟩⟩ := c5 HQR4.out
          go_wp2_with (go_at_call 107; ((with_reducible refine (HAL.out _).mono ?_); rintro e1 w1 ⟨rfl, rfl⟩))
          obtain ⟨hb5, hq5, -⟩ := st5_next HBR4.out (by omega) HQR4.out (.int .i64 0) (.int .i64 0) (.int .i64 0) (.int .i64 0) (.slice none 0 0)
          obtain ⟨wF, hwF⟩ : ∃ wF, wF = st5 wr (w.heap.size + 1) (.int .i64 0) (.int .i64 0) (.int .i64 0) (.int .i64 0) (.slice none 0 0) := ⟨_, rfl⟩
          rw [← hwF] at hb5 hq5
          unfold st5 at hwF
          rewrite [← hwF]
          obtain ⟨⟨b0, b1, b2, b3, b4⟩, -⟩ := c5 hq5
          exact bodyPost_ret (v := .tuple #[zeroC, .int .i64 2]) (by simp [results, Try.results93, go_sem, b0, b1, b2, b3, b4]) rfl ((HR.out _ _).2 ⟨.inl (by rw [HE.out]; exact ⟨by show (2 : Int) ≠ 0; decide, rfl⟩), hb5.mono HN.out⟩)
        · have HE := Lib.hid (HA.out.trans (HYE.out rfl h64))
          have h64b : ((n1 : Int) == 64) = false := by simp; omega
          obtain ⟨aP, ks⟩ := P
          simp only [Tr.a_mk, Tr.ks_mk] at HPK HE HH3 HEX HAL e0
          obtain ⟨hn1', hg1, hc1⟩ := HPK.out
          have hP := HRT4.out.held.get HH1.out
          obtain ⟨hoK, hgK, hcK⟩ := hP.own.kid HH3.out
          rw [← hg1] at hcK hgK
          have k0 := hcK 0 _ rfl
          have k1 := hcK 1 _ rfl
          have k2 := hcK 2 _ rfl
          have k3 := hcK 3 _ rfl
          have k4 := hcK 4 _ rfl
          simp only [Nat.add_zero] at k0
          obtain ⟨pk, ck, hsk⟩ : ∃ pk ck, slA K = .slice pk K.ks.length ck := slV_slice _ _ _
          obtain ⟨nk, hnk⟩ : ∃ z, z = K.ks.length := ⟨_, rfl⟩
          rw [← hnk] at hsk
          rw [hsk] at k4
          have hsla : slA (.mk aP ks : ATr) = .slice (some ⟨g1, 0, none⟩) n1 c1 := by rw [slA_some HH3.out, hg1, hn1', hc1]; rfl
          have hk1 : g1 ∈ blks (.mk aP ks : ATr) := by rw [hg1]; exact own_in (s := .mk aP ks) (by have := (List.getElem?_eq_some_iff.1 HH3.out).1; simp only [Tr.ks_mk]; omega)
          have hg1t : g1 < w.heap.size := HLB.out g1 (blks_get HH1.out g1 hk1)
          have hfK : fine (era K) := fine_get HF.out HKX.out
          have hbn : b1 ≠ g1 := fun e => HNI.out (e ▸ hk1)
          have hb1 : b1 < wr.heap.size := hP.lt |> fun h => by rw [← HL1.out] at h; exact h
          have HSL : Hid (∀ W, Below wr.heap.size wr W → W.cell? ⟨b1, o1 + 4, none⟩ = some (.slice (some ⟨g1, 0, none⟩) n1 c1)) := fun W h => (cell_same (h.block b1 hb1) _).trans e4
          have HSF : Hid (∀ W, Below wr.heap.size wr W → W.frozen? ⟨b1, o1 + 4, none⟩ = false) := fun W h => ((bcell (W := wr) h).2 b1 (o1 + 4) hb1).trans ef
          have HSS : Hid (∀ W, Below wr.heap.size wr W → W.cell? ⟨g10, 0, none⟩ = some (.int .i64 0) ∧ W.cell? ⟨g10, 1, none⟩ = some (.int .i64 wl) ∧ W.cell? ⟨g10, 2, none⟩ = some (.int .i64 c) ∧ W.cell? ⟨g10, 3, none⟩ = some (.int .i64 se) ∧ W.cell? ⟨g10, 4, none⟩ = some (.slice none 0 0)) := fun W h => by obtain ⟨⟨q0, q1, q2, q3, q4⟩, -⟩ := c5 (HQL4.out.next h); exact ⟨q0, q1, q2, q3, q4⟩
          have HAPC : Hid (∀ W, Below wr.heap.size wr W → Calls Try.prog 109 #[.agg #[.int .i64 K.a.d.k, .int .i64 K.a.d.w, .int .i64 K.a.d.c, .int .i64 K.a.d.s, .slice pk nk ck], .agg #[.int .i64 0, .int .i64 wl, .int .i64 c, .int .i64 se, .slice none 0 0], .int .i64 d] W (ApR (apartL c se d (era K)) W)) := fun W h => by
            have hoW := hoK.next h
            have hkv : KV W (fun b => b < W.heap.size) (era K).ks (slA K) := hoW.reads hoW.lt fun v z hz => by
              have h9 : get (era K) v = some (era z) := by rw [era_get, hz]; rfl
              have := hfK v _ h9
              rw [era_a, era_ks, List.length_map] at this
              exact ⟨this.1, by omega⟩
            have h1 := ht_get HKX.out
            have h2 := wd_get HKX.out
            have h3 := HHT.out
            have h4 := HWD.out
            have := apart_c _ (era K) (slA K) wl c se d W hkv (hfK [] _ rfl).1 (by omega) (by omega) (alone_tree HTR.out HUW.out (m := k') (by rw [← HNN.out]; omega) HKX.out (by decide) (by decide))
            rw [era_a, hsk] at this
            exact this
          have HLN : Hid (∀ L : List ATr, L.map era = apartL c se d (era K) → 1 ≤ L.length ∧ L.length ≤ 2) := fun L h => by
            have := apartL_len c se d (era K)
            rw [← h, List.length_map] at this
            exact this
          have HLEN : Hid (∀ L : List ATr, L.map era = apartL c se d (era K) → 0 < ks.length + L.length - 1) := fun L h => by
            have := (HLN.out L h).1
            have h9 : ks.length = n1 := hn1'.symm
            omega
          have HREP : Hid (∀ W (L : List ATr) vL, Below wr.heap.size wr W → L.map era = apartL c se d (era K) → W.ownsRow wr.heap.size 24 5 vL L.length (rowOf L) → Calls Try.prog 108 #[.slice (some ⟨g1, 0, none⟩) n1 c1, .int .i64 (i : Int), .int .i64 ((i : Int) + 1), vL] W (RepR 0 (slA (.mk aP ks)) ks.length i L.length (rowOf ks) (rowOf L) W)) := fun W L vL h hL ho => by
            have h9 : ks.length = n1 := hn1'.symm
            have := rep_c (w := W) (a := aP) (ks := ks) (L := L) (v := vL) (i := i) (hP.own.next h).row (row_lower ho) (fun b hb e => by
              rw [hsla] at e
              have e : some g1 = some b := e
              have e := Option.some.inj e
              subst e
              obtain ⟨-, h2 | ⟨g, c9, cur, rfl, h3, -⟩⟩ := ho
              · rw [h2.1] at hb; cases hb
              · have hb := Option.some.inj hb
                have : wr.heap.size ≤ g := h3
                have h4 : g = g1 := hb
                have := HQR4.out.lt
                omega) (by omega) (by omega) (HLN.out L hL).1 (HLN.out L hL).2
            rw [hsla] at this ⊢
            exact this
          have HREPR : Hid (∀ (W W9 : World) (L : List ATr) (v9 : Value), W9.ownsRow 0 24 5 v9 (ks.length + L.length - 1) ((rowOf ks).take (i * 5) ++ rowOf L ++ (rowOf ks).drop ((i + 1) * 5)) → W.grownBy W9 (slA (.mk aP ks)).ownBlock → (v9.ownBlock = (slA (.mk aP ks)).ownBlock ∨ ∃ r, v9.ownBlock = some r ∧ W.heap.size ≤ r) → RepR 0 (slA (.mk aP ks)) ks.length i L.length (rowOf ks) (rowOf L) W (.returned v9) W9) := fun W W9 L v9 h1 h2 h3 => ⟨_, rfl, h1, h2, h3⟩
          have hg10n : g10 ≠ g1 := by have := HGL.out; omega
          have hg10l : g10 < wr.heap.size := HQL4.out.lt
          have HSR : Hid (∀ W W9, Below wr.heap.size wr W → W.grownBy W9 (slA (.mk aP ks)).ownBlock → (W9.cell? ⟨g10, 0, none⟩ = some (.int .i64 0) ∧ W9.cell? ⟨g10, 1, none⟩ = some (.int .i64 wl) ∧ W9.cell? ⟨g10, 2, none⟩ = some (.int .i64 c) ∧ W9.cell? ⟨g10, 3, none⟩ = some (.int .i64 se) ∧ W9.cell? ⟨g10, 4, none⟩ = some (.slice none 0 0)) ∧ W9.frozen? ⟨b1, o1 + 4, none⟩ = false ∧ W9.cell? ⟨b1, o1 + 4, none⟩ = some (.slice (some ⟨g1, 0, none⟩) n1 c1)) := fun W W9 h h9 => by
            have hbb : W9.heap[b1]? = W.heap[b1]? := h9.block b1 (Nat.lt_of_lt_of_le hb1 h.size) fun e => by rw [hsla] at e; exact hbn (Option.some.inj e)
            have hbg : W9.heap[g10]? = W.heap[g10]? := h9.block g10 (Nat.lt_of_lt_of_le hg10l h.size) fun e => by rw [hsla] at e; exact hg10n (Option.some.inj e)
            refine ⟨?_, ?_, (cell_same hbb _).trans (HSL.out W h)⟩
            · have hq : Blk W9 g10 24 #[.int .i64 0, .int .i64 wl, .int .i64 c, .int .i64 se, .slice none 0 0] := hbg.trans (HQL4.out.next h)
              obtain ⟨⟨q0, q1, q2, q3, q4⟩, -⟩ := c5 hq
              exact ⟨q0, q1, q2, q3, q4⟩
            · rw [← HSF.out W h]
              simp only [World.frozen?]; rw [hbb]
          have HFIN : Hid (∀ (W9 : World) (L : List ATr) (v9 : Value) (ga ca : Nat), L.map era = apartL c se d (era K) → Root N (W9.setCell ⟨b1, o1 + 4, none⟩ v9) w.heap.size (put t (U.take k') (.mk ⟨aP.d, ga, ca⟩ (ks.take i ++ L ++ ks.drop (i + 1)))) → (∀ b ∈ blks (.mk ⟨aP.d, ga, ca⟩ (ks.take i ++ L ++ ks.drop (i + 1)) : ATr), b ∈ blks (.mk aP ks : ATr) ∨ wr.heap.size ≤ b) → wr.grownBy W9 (slA (.mk aP ks)).ownBlock →
              (∃ t9, Root N (W9.setCell ⟨b1, o1 + 4, none⟩ v9) w.heap.size t9 ∧ era t9 = (outN x U c se d (n - 1)).1 ∧ (w.heap.size + 1) ∉ blks t9 ∧ Below N w (W9.setCell ⟨b1, o1 + 4, none⟩ v9) ∧ Blk (W9.setCell ⟨b1, o1 + 4, none⟩ v9) (w.heap.size + 1) 24 #[.int .i64 0, .int .i64 0, .int .i64 0, .int .i64 0, .slice none 0 0]) ∧ ((W9.setCell ⟨b1, o1 + 4, none⟩ v9).cell? ⟨g10, 0, none⟩ = some (.int .i64 0) ∧ (W9.setCell ⟨b1, o1 + 4, none⟩ v9).cell? ⟨g10, 1, none⟩ = some (.int .i64 wl) ∧ (W9.setCell ⟨b1, o1 + 4, none⟩ v9).cell? ⟨g10, 2, none⟩ = some (.int .i64 c) ∧ (W9.setCell ⟨b1, o1 + 4, none⟩ v9).cell? ⟨g10, 3, none⟩ = some (.int .i64 se) ∧ (W9.setCell ⟨b1, o1 + 4, none⟩ v9).cell? ⟨g10, 4, none⟩ = some (.slice none 0 0))) := by
            intro W9 L v9 ga ca hL hroot hblk hgrow
            have hb1s : b1 ≠ w.heap.size + 1 := fun e => by
              have h1 := HRT4.out.loc_mem HH1.out
              rw [← HL1.out, blks_top, List.mem_cons] at h1
              rcases h1 with h1 | h1
              · have h1 : b1 = w.heap.size := h1; omega
              · have := HLB.out b1 h1; omega
            have hg10b : b1 ≠ g10 := fun e => by
              have h1 := HRT4.out.loc_mem HH1.out
              rw [← HL1.out, blks_top, List.mem_cons] at h1
              have h3 := HGL.out
              rcases h1 with h1 | h1
              · have h1 : b1 = w.heap.size := h1; omega
              · have := HLB.out b1 h1; omega
            have hfar : ∀ b, b < wr.heap.size → b ≠ g1 → b ≠ b1 → (W9.setCell ⟨b1, o1 + 4, none⟩ v9).heap[b]? = wr.heap[b]? := fun b hb hn1 hn2 => by
              rw [Below.heap_setCell W9 ⟨b1, o1 + 4, none⟩ v9 b hn2]
              exact hgrow.block b hb fun e => by rw [hsla] at e; exact hn1 (Option.some.inj e)
            refine ⟨⟨_, hroot, ?_, ?_, ?_, ?_⟩, ?_⟩
            · rw [era_put HH1.out, HET.out, HE.out, era_mk]
              simp only [era_ks, Tr.ks_mk, List.map_append, List.map_take, List.map_drop, hL]
              try rfl
            · obtain ⟨l1, l2, h1, h2⟩ := blks_put HH1.out
              rw [h2]
              have hlt := HLB.out
              rw [h1] at hlt
              simp only [List.mem_append] at hlt ⊢
              intro hm
              have hws := HQR4.out.lt
              rcases hm with (hm | hm) | hm
              · have := hlt _ (.inl (.inl hm)); omega
              · rcases hblk _ hm with h3 | h3
                · have := hlt _ (.inl (.inr h3)); omega
                · omega
              · have := hlt _ (.inr hm); omega
            · have h0 := HBR4.out
              refine ⟨hgrow.os.trans h0.os, hgrow.tape.trans h0.tape, hgrow.output.trans h0.output, by have := hgrow.size; have := h0.size; simpa [World.setCell] using (by omega : w.heap.size ≤ W9.heap.size), fun b hb => ?_⟩
              have hbN : b < w.heap.size := Nat.lt_of_lt_of_le hb HN.out
              rw [hfar b (Nat.lt_of_lt_of_le hbN h0.size) (fun e => by have := HRT4.out.ge g1 (by rw [blks_top, List.mem_cons]; exact .inr (blks_get HH1.out g1 hk1)); omega) (fun e => by have := HGE.out; omega), h0.block b hbN]
            · have hws := HQR4.out.lt
              exact (hfar _ hws (by omega) (fun e => hb1s e.symm)).trans HQR4.out
            · have hq : Blk (W9.setCell ⟨b1, o1 + 4, none⟩ v9) g10 24 #[.int .i64 0, .int .i64 wl, .int .i64 c, .int .i64 se, .slice none 0 0] := (hfar g10 hg10l hg10n (fun e => hg10b e.symm)).trans HQL4.out
              obtain ⟨⟨q0, q1, q2, q3, q4⟩, -⟩ := c5 hq
              exact ⟨q0, q1, q2, q3, q4⟩
          have hi1 : (0 : Int) ≤ (i : Int) := by omega
          have hi2 : (i : Int) < (n1 : Int) := by omega
          have hwi : IntKind.i64.wrap ((i : Int) + 1) = (i : Int) + 1 := IntWalk.i64_in _ (by omega)
          have hil : i < ks.length := by have h9 : ks.length = n1 := hn1'.symm; omega
          have HIL := Lib.hid hil
          clear hn1' hg1 hc1 hP hoK hgK hcK hsk hnk hsla hk1 hg1t hfK hbn hb1 hg10n hg10l hil
          go_upto_region 10 with (go_at_call 107; ((with_reducible refine (HAL.out _).mono ?_); rintro e1 w1 ⟨rfl, rfl⟩))
          go_cut [] (fun wx => ∃ t9, Root N wx w.heap.size t9 ∧ era t9 = (outN x U c se d (n - 1)).1 ∧ (w.heap.size + 1) ∉ blks t9 ∧ Below N w wx ∧ Blk wx (w.heap.size + 1) 24 #[.int .i64 0, .int .i64 0, .int .i64 0, .int .i64 0, .slice none 0 0])
          case first =>
            refine wp_region_noPanic ?_
            refine wp_region_held_drew (S := fun wx => wx.cell? ⟨g10, 0, none⟩ = some (.int .i64 0) ∧ wx.cell? ⟨g10, 1, none⟩ = some (.int .i64 wl) ∧ wx.cell? ⟨g10, 2, none⟩ = some (.int .i64 c) ∧ wx.cell? ⟨g10, 3, none⟩ = some (.int .i64 se) ∧ wx.cell? ⟨g10, 4, none⟩ = some (.slice none 0 0)) (by kernel_rfl) (by exact HSS.out wr.drew (Below.refl _ _).drew) (fun hHeld => ?_)
            refine wpAnyH_take (i := 0) (v := ?v0) rfl (by kernel_rfl) (by kernel_rfl) (by kernel_rfl) (fun _ _ _ h => h) (Or.inl ⟨by kernel_rfl, ?y0⟩) (by assumption) ?r0
            case y0 => (intro wq hSw; (try dsimp only at hSw); go_simp; (try with_reducible rfl))
            (try simp only [Act.put, List.getElem_toArray, List.getElem_cons_zero, List.setIfInBounds_toArray, List.set_cons_zero, List.set_cons_succ])
            refine wpAnyH_take (i := 1) (v := ?v1) rfl (by kernel_rfl) (by kernel_rfl) (by kernel_rfl) (fun _ _ _ h => h) (Or.inl ⟨by kernel_rfl, ?y1⟩) (by assumption) ?r1
            case y1 => (intro wq hSw; (try dsimp only at hSw); go_simp; (try with_reducible rfl))
            (try simp only [Act.put, List.getElem_toArray, List.getElem_cons_succ, List.getElem_cons_zero, List.setIfInBounds_toArray, List.set_cons_zero, List.set_cons_succ])
            refine wpAnyH_take (i := 2) (v := ?v2) rfl (by kernel_rfl) (by kernel_rfl) (by kernel_rfl) (fun _ _ _ h => h) (Or.inl ⟨by kernel_rfl, ?y2⟩) (by assumption) ?r2
            case y2 => (intro wq hSw; (try dsimp only at hSw); go_simp; (try with_reducible rfl))
            (try simp only [Act.put, List.getElem_toArray, List.getElem_cons_succ, List.getElem_cons_zero, List.setIfInBounds_toArray, List.set_cons_zero, List.set_cons_succ])
            refine wpAnyH_take (i := 3) (v := ?v3) rfl (by kernel_rfl) (by kernel_rfl) (by kernel_rfl) (fun _ _ _ h => h) (Or.inl ⟨by kernel_rfl, ?y3⟩) (by assumption) ?r3
            case y3 => (intro wq hSw; (try dsimp only at hSw); go_simp; (try with_reducible rfl))
            (try simp only [Act.put, List.getElem_toArray, List.getElem_cons_succ, List.getElem_cons_zero, List.setIfInBounds_toArray, List.set_cons_zero, List.set_cons_succ])
            refine wpAnyH_take (i := 5) (v := ?v5) rfl (by kernel_rfl) (by kernel_rfl) (by kernel_rfl) (fun _ _ _ h => h) (Or.inl ⟨by kernel_rfl, ?y5⟩) (by assumption) ?r5
            case y5 => (intro wq hSw; (try dsimp only at hSw); go_simp; (try with_reducible rfl))
            (try simp only [Act.put, List.getElem_toArray, List.getElem_cons_succ, List.getElem_cons_zero, List.setIfInBounds_toArray, List.set_cons_zero, List.set_cons_succ])
            refine wpAnyH_take (i := 6) (v := ?v6) rfl (by kernel_rfl) (by kernel_rfl) (by kernel_rfl) (fun _ _ _ h => h) (Or.inl ⟨by kernel_rfl, ?y6⟩) (by assumption) ?r6
            case y6 => (intro wq hSw; (try dsimp only at hSw); go_simp; (try with_reducible rfl))
            (try simp only [Act.put, List.getElem_toArray, List.getElem_cons_succ, List.getElem_cons_zero, List.setIfInBounds_toArray, List.set_cons_zero, List.set_cons_succ])
            refine wpAnyH_take (i := 7) (v := ?v7) rfl (by kernel_rfl) (by kernel_rfl) (by kernel_rfl) (fun _ _ _ h => h) (Or.inl ⟨by kernel_rfl, ?y7⟩) (by assumption) ?r7
            case y7 => (intro wq hSw; (try dsimp only at hSw); go_simp; (try with_reducible rfl))
            (try simp only [Act.put, List.getElem_toArray, List.getElem_cons_succ, List.getElem_cons_zero, List.setIfInBounds_toArray, List.set_cons_zero, List.set_cons_succ])
            refine wpAnyH_take (i := 8) (v := ?v8) rfl (by kernel_rfl) (by kernel_rfl) (by kernel_rfl) (fun _ _ _ h => h) (Or.inl ⟨by kernel_rfl, ?y8⟩) (by assumption) ?r8
            case y8 => (intro wq hSw; (try dsimp only at hSw); go_simp; (try with_reducible rfl))
            (try simp only [Act.put, List.getElem_toArray, List.getElem_cons_succ, List.getElem_cons_zero, List.setIfInBounds_toArray, List.set_cons_zero, List.set_cons_succ])
            refine wpAnyH_take (i := 9) (v := ?v9) rfl (by kernel_rfl) (by kernel_rfl) (by kernel_rfl) (fun _ _ _ h => h) (Or.inl ⟨by kernel_rfl, ?y9⟩) (by assumption) ?r9
            case y9 => (intro wq hSw; (try dsimp only at hSw); go_simp; (try with_reducible rfl))
            (try simp only [Act.put, List.getElem_toArray, List.getElem_cons_succ, List.getElem_cons_zero, List.setIfInBounds_toArray, List.set_cons_zero, List.set_cons_succ])
            refine wpAnyH_take (i := 10) (v := ?v10) rfl (by kernel_rfl) (by kernel_rfl) (by kernel_rfl) (fun _ _ _ h => h) (Or.inl ⟨by kernel_rfl, ?y10⟩) (by assumption) ?r10
            case y10 => (intro wq hSw; (try dsimp only at hSw); go_simp; (try with_reducible rfl))
            (try simp only [Act.put, List.getElem_toArray, List.getElem_cons_succ, List.getElem_cons_zero, List.setIfInBounds_toArray, List.set_cons_zero, List.set_cons_succ])
            refine wpAnyH_take (i := 12) (v := ?v12) rfl (by kernel_rfl) (by kernel_rfl) (by kernel_rfl) (fun _ _ _ h => h) (Or.inl ⟨by kernel_rfl, ?y12⟩) (by assumption) ?r12
            case y12 => (intro wq hSw; (try dsimp only at hSw); go_simp; (try with_reducible rfl))
            (try simp only [Act.put, List.getElem_toArray, List.getElem_cons_succ, List.getElem_cons_zero, List.setIfInBounds_toArray, List.set_cons_zero, List.set_cons_succ])
            refine wpAnyH_take (i := 15) (v := ?v15) rfl (by kernel_rfl) (by kernel_rfl) (by kernel_rfl) (fun _ _ _ h => h) (Or.inl ⟨by kernel_rfl, ?y15⟩) (by assumption) ?r15
            case y15 => (intro wq hSw; (try dsimp only at hSw); go_simp; (try with_reducible rfl))
            (try simp only [Act.put, List.getElem_toArray, List.getElem_cons_succ, List.getElem_cons_zero, List.setIfInBounds_toArray, List.set_cons_zero, List.set_cons_succ])
            refine wpAnyH_take (i := 16) (v := ?v16) rfl (by kernel_rfl) (by kernel_rfl) (by kernel_rfl) (fun _ _ _ h => h) (Or.inl ⟨by kernel_rfl, ?y16⟩) (by assumption) ?r16
            case y16 => (intro wq hSw; (try dsimp only at hSw); go_simp; (try with_reducible rfl))
            (try simp only [Act.put, List.getElem_toArray, List.getElem_cons_succ, List.getElem_cons_zero, List.setIfInBounds_toArray, List.set_cons_zero, List.set_cons_succ])
            refine wpAnyH_ready (rs := [4, 11]) (by kernel_rfl) (by simp) ?_
            refine AllReadyH.cons rfl (fun K hK => ?_) (AllReadyH.cons rfl (fun K hK => ?_) AllReadyH.nil)
            · go_simp
              refine hK.out _ _ (by exact HSS.out wr.drew (Below.refl _ _).drew) (fun hHeld => ?_)
              clear hK K
              (try simp only [Act.put, List.getElem_toArray, List.getElem_cons_succ, List.getElem_cons_zero, List.setIfInBounds_toArray, List.set_cons_zero, List.set_cons_succ])
              refine wpAnyH_ready (rs := [11]) (by kernel_rfl) (by simp) ?_
              refine AllReadyH.cons rfl (fun K hK => ?_) AllReadyH.nil
              go_simp
              refine hK.out _ _ (by exact HSS.out wr.drew (Below.refl _ _).drew) (fun hHeld => ?_)
              clear hK K
              (try simp only [Act.put, List.getElem_toArray, List.getElem_cons_succ, List.getElem_cons_zero, List.setIfInBounds_toArray, List.set_cons_zero, List.set_cons_succ])
              refine wpAnyH_take (i := 13) (v := ?va13) rfl (by kernel_rfl) (by kernel_rfl) (by kernel_rfl) (fun _ _ _ h => h) (Or.inl ⟨by kernel_rfl, ?ya13⟩) (by assumption) ?ra13
              case ya13 => (intro wq hSw; (try dsimp only at hSw); go_simp; (try with_reducible rfl))
              (try simp only [Act.put, List.getElem_toArray, List.getElem_cons_succ, List.getElem_cons_zero, List.setIfInBounds_toArray, List.set_cons_zero, List.set_cons_succ])
              refine wpAnyH_ready (rs := [14]) (by kernel_rfl) (by simp) ?_
              refine AllReadyH.cons rfl (fun K hK => ?_) AllReadyH.nil
              go_simp
              refine hK.out _ _ (by exact HSS.out wr.drew (Below.refl _ _).drew) (fun hHeld => ?_)
              clear hK K
              (try simp only [Act.put, List.getElem_toArray, List.getElem_cons_succ, List.getElem_cons_zero, List.setIfInBounds_toArray, List.set_cons_zero, List.set_cons_succ])
              refine wpAnyH_ready (rs := [17]) (by kernel_rfl) (by simp) ?_
              refine AllReadyH.cons rfl (fun K hK => ?_) AllReadyH.nil
              go_simp
              refine (HAPC.out wr.drew (Below.refl _ _).drew).mono ?_
              rintro e w5 ⟨vL, L, rfl, heL, hoL, hOL, hnL, hgL, hvL, hb⟩
              (try dsimp only)
              have HB5 := Lib.hid ((Below.refl wr.heap.size wr).drew.trans hb)
              have HEL := Lib.hid heL
              have HOL := Lib.hid (And.intro hOL (And.intro hnL (And.intro hgL hoL)))
              have e45 := HSL.out w5 HB5.out
              have ef5 := HSF.out w5 HB5.out
              clear heL hoL hOL hnL hgL hvL hb
              refine hK.out _ _ (by exact HSS.out w5 HB5.out) (fun hHeld => ?_)
              clear hK K
              (try simp only [Act.put, List.getElem_toArray, List.getElem_cons_succ, List.getElem_cons_zero, List.setIfInBounds_toArray, List.set_cons_zero, List.set_cons_succ])
              refine wpAnyH_ready (rs := [18]) (by kernel_rfl) (by simp) ?_
              refine AllReadyH.cons rfl (fun K hK => ?_) AllReadyH.nil
              go_simp
              refine (HREP.out w5 L vL HB5.out HEL.out HOL.out.2.2.2).mono ?_
              rintro e w9 ⟨v', rfl, ho9, hg9, hv9⟩
              obtain ⟨g7, c7, cur7, rfl, -, -, -, -, -⟩ := row_form ho9 (HLEN.out L HEL.out)
              (try dsimp only)
              have HC9 := Lib.hid (HREPR.out w5 w9 L _ ho9 hg9 hv9)
              have hS9 := HSR.out w5 w9 HB5.out hg9
              have HS9 := Lib.hid hS9.1
              have hz9 := hS9.2.1
              have hc9 := hS9.2.2
              clear ho9 hg9 hv9 hS9 e45 ef5
              refine hK.out _ _ (by exact HS9.out) (fun hHeld => ?_)
              clear hK K
              (try simp only [Act.put, List.getElem_toArray, List.getElem_cons_succ, List.getElem_cons_zero, List.setIfInBounds_toArray, List.set_cons_zero, List.set_cons_succ])
              refine wpAnyH_take (i := 19) (v := ?va19) rfl (by kernel_rfl) (by kernel_rfl) (by kernel_rfl) (fun _ _ _ h => h) (Or.inl ⟨by kernel_rfl, ?ya19⟩) (by assumption) ?ra19
              case ya19 => (intro wq hSw; (try dsimp only at hSw); go_simp; (try with_reducible rfl))
              (try simp only [Act.put, List.getElem_toArray, List.getElem_cons_succ, List.getElem_cons_zero, List.setIfInBounds_toArray, List.set_cons_zero, List.set_cons_succ])
              refine wpAnyH_take (i := 20) (v := ?va20) rfl (by kernel_rfl) (by kernel_rfl) (by kernel_rfl) (fun _ _ _ h => h) (Or.inl ⟨by kernel_rfl, ?ya20⟩) (by assumption) ?ra20
              case ya20 => (intro wq hSw; (try dsimp only at hSw); go_simp; (try with_reducible rfl))
              (try simp only [Act.put, List.getElem_toArray, List.getElem_cons_succ, List.getElem_cons_zero, List.setIfInBounds_toArray, List.set_cons_zero, List.set_cons_succ])
              refine wpAnyH_ready (rs := [21]) (by kernel_rfl) (by simp) ?_
              refine AllReadyH.cons rfl (fun K hK => ?_) AllReadyH.nil
              go_simp
              obtain ⟨ga, ca, hva, hroot, hblk, hgrow⟩ := HRT4.out.replaced HH1.out HIL.out HB5.out HOL.out.1 HOL.out.2.1 HOL.out.2.2.1 (HLN.out L HEL.out).1 (HOL.out.1.lt) HC9.out (Nat.le_trans HN.out (Nat.le_of_lt (Nat.lt_of_lt_of_le (Nat.lt_succ_self _) (Nat.le_of_lt HQR4.out.lt))))
              rw [← HL1.out] at hroot
              have hfin := HFIN.out w9 L _ ga ca HEL.out hroot hblk hgrow
              have hS10 := hfin.2
              have HFN := Lib.hid hfin.1
              clear hva hroot hblk hgrow hfin
              refine hK.out _ _ (by exact hS10) (fun hHeld => ?_)
              clear hK K
              (try simp only [Act.put, List.getElem_toArray, List.getElem_cons_succ, List.getElem_cons_zero, List.setIfInBounds_toArray, List.set_cons_zero, List.set_cons_succ])
              refine wpAnyH_done (by kernel_rfl) ?_ _
              refine NoPanic.normal ?_
              clear hS10 hz9 hc9 hHeld
              go_wp2_with fail
              go_meet
              exact HFN.out
            · go_simp
              refine hK.out _ _ (by exact HSS.out wr.drew (Below.refl _ _).drew) (fun hHeld => ?_)
              clear hK K
              (try simp only [Act.put, List.getElem_toArray, List.getElem_cons_succ, List.getElem_cons_zero, List.setIfInBounds_toArray, List.set_cons_zero, List.set_cons_succ])
              refine wpAnyH_take (i := 13) (v := ?vb13) rfl (by kernel_rfl) (by kernel_rfl) (by kernel_rfl) (fun _ _ _ h => h) (Or.inl ⟨by kernel_rfl, ?yb13⟩) (by assumption) ?rb13
              case yb13 => (intro wq hSw; (try dsimp only at hSw); go_simp; (try with_reducible rfl))
              (try simp only [Act.put, List.getElem_toArray, List.getElem_cons_succ, List.getElem_cons_zero, List.setIfInBounds_toArray, List.set_cons_zero, List.set_cons_succ])
              refine wpAnyH_ready (rs := [4, 14]) (by kernel_rfl) (by simp) ?_
              refine AllReadyH.cons rfl (fun K hK => ?_) (AllReadyH.cons rfl (fun K hK => ?_) AllReadyH.nil)
              · go_simp
                refine hK.out _ _ (by exact HSS.out wr.drew (Below.refl _ _).drew) (fun hHeld => ?_)
                clear hK K
                (try simp only [Act.put, List.getElem_toArray, List.getElem_cons_succ, List.getElem_cons_zero, List.setIfInBounds_toArray, List.set_cons_zero, List.set_cons_succ])
                refine wpAnyH_ready (rs := [14]) (by kernel_rfl) (by simp) ?_
                refine AllReadyH.cons rfl (fun K hK => ?_) AllReadyH.nil
                go_simp
                refine hK.out _ _ (by exact HSS.out wr.drew (Below.refl _ _).drew) (fun hHeld => ?_)
                clear hK K
                (try simp only [Act.put, List.getElem_toArray, List.getElem_cons_succ, List.getElem_cons_zero, List.setIfInBounds_toArray, List.set_cons_zero, List.set_cons_succ])
                refine wpAnyH_ready (rs := [17]) (by kernel_rfl) (by simp) ?_
                refine AllReadyH.cons rfl (fun K hK => ?_) AllReadyH.nil
                go_simp
                refine (HAPC.out wr.drew (Below.refl _ _).drew).mono ?_
                rintro e w5 ⟨vL, L, rfl, heL, hoL, hOL, hnL, hgL, hvL, hb⟩
                (try dsimp only)
                have HB5 := Lib.hid ((Below.refl wr.heap.size wr).drew.trans hb)
                have HEL := Lib.hid heL
                have HOL := Lib.hid (And.intro hOL (And.intro hnL (And.intro hgL hoL)))
                have e45 := HSL.out w5 HB5.out
                have ef5 := HSF.out w5 HB5.out
                clear heL hoL hOL hnL hgL hvL hb
                refine hK.out _ _ (by exact HSS.out w5 HB5.out) (fun hHeld => ?_)
                clear hK K
                (try simp only [Act.put, List.getElem_toArray, List.getElem_cons_succ, List.getElem_cons_zero, List.setIfInBounds_toArray, List.set_cons_zero, List.set_cons_succ])
                refine wpAnyH_ready (rs := [18]) (by kernel_rfl) (by simp) ?_
                refine AllReadyH.cons rfl (fun K hK => ?_) AllReadyH.nil
                go_simp
                refine (HREP.out w5 L vL HB5.out HEL.out HOL.out.2.2.2).mono ?_
                rintro e w9 ⟨v', rfl, ho9, hg9, hv9⟩
                obtain ⟨g7, c7, cur7, rfl, -, -, -, -, -⟩ := row_form ho9 (HLEN.out L HEL.out)
                (try dsimp only)
                have HC9 := Lib.hid (HREPR.out w5 w9 L _ ho9 hg9 hv9)
                have hS9 := HSR.out w5 w9 HB5.out hg9
                have HS9 := Lib.hid hS9.1
                have hz9 := hS9.2.1
                have hc9 := hS9.2.2
                clear ho9 hg9 hv9 hS9 e45 ef5
                refine hK.out _ _ (by exact HS9.out) (fun hHeld => ?_)
                clear hK K
                (try simp only [Act.put, List.getElem_toArray, List.getElem_cons_succ, List.getElem_cons_zero, List.setIfInBounds_toArray, List.set_cons_zero, List.set_cons_succ])
                refine wpAnyH_take (i := 19) (v := ?vb19) rfl (by kernel_rfl) (by kernel_rfl) (by kernel_rfl) (fun _ _ _ h => h) (Or.inl ⟨by kernel_rfl, ?yb19⟩) (by assumption) ?rb19
                case yb19 => (intro wq hSw; (try dsimp only at hSw); go_simp; (try with_reducible rfl))
                (try simp only [Act.put, List.getElem_toArray, List.getElem_cons_succ, List.getElem_cons_zero, List.setIfInBounds_toArray, List.set_cons_zero, List.set_cons_succ])
                refine wpAnyH_take (i := 20) (v := ?vb20) rfl (by kernel_rfl) (by kernel_rfl) (by kernel_rfl) (fun _ _ _ h => h) (Or.inl ⟨by kernel_rfl, ?yb20⟩) (by assumption) ?rb20
                case yb20 => (intro wq hSw; (try dsimp only at hSw); go_simp; (try with_reducible rfl))
                (try simp only [Act.put, List.getElem_toArray, List.getElem_cons_succ, List.getElem_cons_zero, List.setIfInBounds_toArray, List.set_cons_zero, List.set_cons_succ])
                refine wpAnyH_ready (rs := [21]) (by kernel_rfl) (by simp) ?_
                refine AllReadyH.cons rfl (fun K hK => ?_) AllReadyH.nil
                go_simp
                obtain ⟨ga, ca, hva, hroot, hblk, hgrow⟩ := HRT4.out.replaced HH1.out HIL.out HB5.out HOL.out.1 HOL.out.2.1 HOL.out.2.2.1 (HLN.out L HEL.out).1 (HOL.out.1.lt) HC9.out (Nat.le_trans HN.out (Nat.le_of_lt (Nat.lt_of_lt_of_le (Nat.lt_succ_self _) (Nat.le_of_lt HQR4.out.lt))))
                rw [← HL1.out] at hroot
                have hfin := HFIN.out w9 L _ ga ca HEL.out hroot hblk hgrow
                have hS10 := hfin.2
                have HFN := Lib.hid hfin.1
                clear hva hroot hblk hgrow hfin
                refine hK.out _ _ (by exact hS10) (fun hHeld => ?_)
                clear hK K
                (try simp only [Act.put, List.getElem_toArray, List.getElem_cons_succ, List.getElem_cons_zero, List.setIfInBounds_toArray, List.set_cons_zero, List.set_cons_succ])
                refine wpAnyH_done (by kernel_rfl) ?_ _
                refine NoPanic.normal ?_
                clear hS10 hz9 hc9 hHeld
                go_wp2_with fail
                go_meet
                exact HFN.out
              · go_simp
                refine hK.out _ _ (by exact HSS.out wr.drew (Below.refl _ _).drew) (fun hHeld => ?_)
                clear hK K
                (try simp only [Act.put, List.getElem_toArray, List.getElem_cons_succ, List.getElem_cons_zero, List.setIfInBounds_toArray, List.set_cons_zero, List.set_cons_succ])
                refine wpAnyH_ready (rs := [4, 17]) (by kernel_rfl) (by simp) ?_
                refine AllReadyH.cons rfl (fun K hK => ?_) (AllReadyH.cons rfl (fun K hK => ?_) AllReadyH.nil)
                · go_simp
                  refine hK.out _ _ (by exact HSS.out wr.drew (Below.refl _ _).drew) (fun hHeld => ?_)
                  clear hK K
                  (try simp only [Act.put, List.getElem_toArray, List.getElem_cons_succ, List.getElem_cons_zero, List.setIfInBounds_toArray, List.set_cons_zero, List.set_cons_succ])
                  refine wpAnyH_ready (rs := [17]) (by kernel_rfl) (by simp) ?_
                  refine AllReadyH.cons rfl (fun K hK => ?_) AllReadyH.nil
                  go_simp
                  refine (HAPC.out wr.drew (Below.refl _ _).drew).mono ?_
                  rintro e w5 ⟨vL, L, rfl, heL, hoL, hOL, hnL, hgL, hvL, hb⟩
                  (try dsimp only)
                  have HB5 := Lib.hid ((Below.refl wr.heap.size wr).drew.trans hb)
                  have HEL := Lib.hid heL
                  have HOL := Lib.hid (And.intro hOL (And.intro hnL (And.intro hgL hoL)))
                  have e45 := HSL.out w5 HB5.out
                  have ef5 := HSF.out w5 HB5.out
                  clear heL hoL hOL hnL hgL hvL hb
                  refine hK.out _ _ (by exact HSS.out w5 HB5.out) (fun hHeld => ?_)
                  clear hK K
                  (try simp only [Act.put, List.getElem_toArray, List.getElem_cons_succ, List.getElem_cons_zero, List.setIfInBounds_toArray, List.set_cons_zero, List.set_cons_succ])
                  refine wpAnyH_ready (rs := [18]) (by kernel_rfl) (by simp) ?_
                  refine AllReadyH.cons rfl (fun K hK => ?_) AllReadyH.nil
                  go_simp
                  refine (HREP.out w5 L vL HB5.out HEL.out HOL.out.2.2.2).mono ?_
                  rintro e w9 ⟨v', rfl, ho9, hg9, hv9⟩
                  obtain ⟨g7, c7, cur7, rfl, -, -, -, -, -⟩ := row_form ho9 (HLEN.out L HEL.out)
                  (try dsimp only)
                  have HC9 := Lib.hid (HREPR.out w5 w9 L _ ho9 hg9 hv9)
                  have hS9 := HSR.out w5 w9 HB5.out hg9
                  have HS9 := Lib.hid hS9.1
                  have hz9 := hS9.2.1
                  have hc9 := hS9.2.2
                  clear ho9 hg9 hv9 hS9 e45 ef5
                  refine hK.out _ _ (by exact HS9.out) (fun hHeld => ?_)
                  clear hK K
                  (try simp only [Act.put, List.getElem_toArray, List.getElem_cons_succ, List.getElem_cons_zero, List.setIfInBounds_toArray, List.set_cons_zero, List.set_cons_succ])
                  refine wpAnyH_take (i := 19) (v := ?vc19) rfl (by kernel_rfl) (by kernel_rfl) (by kernel_rfl) (fun _ _ _ h => h) (Or.inl ⟨by kernel_rfl, ?yc19⟩) (by assumption) ?rc19
                  case yc19 => (intro wq hSw; (try dsimp only at hSw); go_simp; (try with_reducible rfl))
                  (try simp only [Act.put, List.getElem_toArray, List.getElem_cons_succ, List.getElem_cons_zero, List.setIfInBounds_toArray, List.set_cons_zero, List.set_cons_succ])
                  refine wpAnyH_take (i := 20) (v := ?vc20) rfl (by kernel_rfl) (by kernel_rfl) (by kernel_rfl) (fun _ _ _ h => h) (Or.inl ⟨by kernel_rfl, ?yc20⟩) (by assumption) ?rc20
                  case yc20 => (intro wq hSw; (try dsimp only at hSw); go_simp; (try with_reducible rfl))
                  (try simp only [Act.put, List.getElem_toArray, List.getElem_cons_succ, List.getElem_cons_zero, List.setIfInBounds_toArray, List.set_cons_zero, List.set_cons_succ])
                  refine wpAnyH_ready (rs := [21]) (by kernel_rfl) (by simp) ?_
                  refine AllReadyH.cons rfl (fun K hK => ?_) AllReadyH.nil
                  go_simp
                  obtain ⟨ga, ca, hva, hroot, hblk, hgrow⟩ := HRT4.out.replaced HH1.out HIL.out HB5.out HOL.out.1 HOL.out.2.1 HOL.out.2.2.1 (HLN.out L HEL.out).1 (HOL.out.1.lt) HC9.out (Nat.le_trans HN.out (Nat.le_of_lt (Nat.lt_of_lt_of_le (Nat.lt_succ_self _) (Nat.le_of_lt HQR4.out.lt))))
                  rw [← HL1.out] at hroot
                  have hfin := HFIN.out w9 L _ ga ca HEL.out hroot hblk hgrow
                  have hS10 := hfin.2
                  have HFN := Lib.hid hfin.1
                  clear hva hroot hblk hgrow hfin
                  refine hK.out _ _ (by exact hS10) (fun hHeld => ?_)
                  clear hK K
                  (try simp only [Act.put, List.getElem_toArray, List.getElem_cons_succ, List.getElem_cons_zero, List.setIfInBounds_toArray, List.set_cons_zero, List.set_cons_succ])
                  refine wpAnyH_done (by kernel_rfl) ?_ _
                  refine NoPanic.normal ?_
                  clear hS10 hz9 hc9 hHeld
                  go_wp2_with fail
                  go_meet
                  exact HFN.out
                · go_simp
                  refine (HAPC.out wr.drew (Below.refl _ _).drew).mono ?_
                  rintro e w5 ⟨vL, L, rfl, heL, hoL, hOL, hnL, hgL, hvL, hb⟩
                  (try dsimp only)
                  have HB5 := Lib.hid ((Below.refl wr.heap.size wr).drew.trans hb)
                  have HEL := Lib.hid heL
                  have HOL := Lib.hid (And.intro hOL (And.intro hnL (And.intro hgL hoL)))
                  have e45 := HSL.out w5 HB5.out
                  have ef5 := HSF.out w5 HB5.out
                  clear heL hoL hOL hnL hgL hvL hb
                  refine hK.out _ _ (by exact HSS.out w5 HB5.out) (fun hHeld => ?_)
                  clear hK K
                  (try simp only [Act.put, List.getElem_toArray, List.getElem_cons_succ, List.getElem_cons_zero, List.setIfInBounds_toArray, List.set_cons_zero, List.set_cons_succ])
                  refine wpAnyH_ready (rs := [4]) (by kernel_rfl) (by simp) ?_
                  refine AllReadyH.cons rfl (fun K hK => ?_) AllReadyH.nil
                  go_simp
                  refine hK.out _ _ (by exact HSS.out w5 HB5.out) (fun hHeld => ?_)
                  clear hK K
                  (try simp only [Act.put, List.getElem_toArray, List.getElem_cons_succ, List.getElem_cons_zero, List.setIfInBounds_toArray, List.set_cons_zero, List.set_cons_succ])
                  refine wpAnyH_ready (rs := [18]) (by kernel_rfl) (by simp) ?_
                  refine AllReadyH.cons rfl (fun K hK => ?_) AllReadyH.nil
                  go_simp
                  refine (HREP.out w5 L vL HB5.out HEL.out HOL.out.2.2.2).mono ?_
                  rintro e w9 ⟨v', rfl, ho9, hg9, hv9⟩
                  obtain ⟨g7, c7, cur7, rfl, -, -, -, -, -⟩ := row_form ho9 (HLEN.out L HEL.out)
                  (try dsimp only)
                  have HC9 := Lib.hid (HREPR.out w5 w9 L _ ho9 hg9 hv9)
                  have hS9 := HSR.out w5 w9 HB5.out hg9
                  have HS9 := Lib.hid hS9.1
                  have hz9 := hS9.2.1
                  have hc9 := hS9.2.2
                  clear ho9 hg9 hv9 hS9 e45 ef5
                  refine hK.out _ _ (by exact HS9.out) (fun hHeld => ?_)
                  clear hK K
                  (try simp only [Act.put, List.getElem_toArray, List.getElem_cons_succ, List.getElem_cons_zero, List.setIfInBounds_toArray, List.set_cons_zero, List.set_cons_succ])
                  refine wpAnyH_take (i := 19) (v := ?vd19) rfl (by kernel_rfl) (by kernel_rfl) (by kernel_rfl) (fun _ _ _ h => h) (Or.inl ⟨by kernel_rfl, ?yd19⟩) (by assumption) ?rd19
                  case yd19 => (intro wq hSw; (try dsimp only at hSw); go_simp; (try with_reducible rfl))
                  (try simp only [Act.put, List.getElem_toArray, List.getElem_cons_succ, List.getElem_cons_zero, List.setIfInBounds_toArray, List.set_cons_zero, List.set_cons_succ])
                  refine wpAnyH_take (i := 20) (v := ?vd20) rfl (by kernel_rfl) (by kernel_rfl) (by kernel_rfl) (fun _ _ _ h => h) (Or.inl ⟨by kernel_rfl, ?yd20⟩) (by assumption) ?rd20
                  case yd20 => (intro wq hSw; (try dsimp only at hSw); go_simp; (try with_reducible rfl))
                  (try simp only [Act.put, List.getElem_toArray, List.getElem_cons_succ, List.getElem_cons_zero, List.setIfInBounds_toArray, List.set_cons_zero, List.set_cons_succ])
                  refine wpAnyH_ready (rs := [21]) (by kernel_rfl) (by simp) ?_
                  refine AllReadyH.cons rfl (fun K hK => ?_) AllReadyH.nil
                  go_simp
                  obtain ⟨ga, ca, hva, hroot, hblk, hgrow⟩ := HRT4.out.replaced HH1.out HIL.out HB5.out HOL.out.1 HOL.out.2.1 HOL.out.2.2.1 (HLN.out L HEL.out).1 (HOL.out.1.lt) HC9.out (Nat.le_trans HN.out (Nat.le_of_lt (Nat.lt_of_lt_of_le (Nat.lt_succ_self _) (Nat.le_of_lt HQR4.out.lt))))
                  rw [← HL1.out] at hroot
                  have hfin := HFIN.out w9 L _ ga ca HEL.out hroot hblk hgrow
                  have hS10 := hfin.2
                  have HFN := Lib.hid hfin.1
                  clear hva hroot hblk hgrow hfin
                  refine hK.out _ _ (by exact hS10) (fun hHeld => ?_)
                  clear hK K
                  (try simp only [Act.put, List.getElem_toArray, List.getElem_cons_succ, List.getElem_cons_zero, List.setIfInBounds_toArray, List.set_cons_zero, List.set_cons_succ])
                  refine wpAnyH_done (by kernel_rfl) ?_ _
                  refine NoPanic.normal ?_
                  clear hS10 hz9 hc9 hHeld
                  go_wp2_with fail
                  go_meet
                  exact HFN.out
          case rest =>
            obtain ⟨t9, hroot, he9, hni9, hb9, hq9⟩ := hcut
            have HRT9 := Lib.hid hroot
            have HE9 := Lib.hid he9
            have HNI9 := Lib.hid hni9
            have HB9 := Lib.hid hb9
            have HQ9 := Lib.hid hq9
            clear hroot he9 hni9 hb9 hq9 HRT4 HQL4 HQR4 HBR4 HBW4 k0 k1 k2 k3 k4 e0 e4 ef
            obtain ⟨w9, hw9⟩ : ∃ w9, w9 = wc := ⟨_, rfl⟩
            subst hw9
            obtain ⟨pz, cz, hsz⟩ : ∃ pz cz, slA t9 = .slice pz t9.ks.length cz := slV_slice _ _ _
            obtain ⟨nz, hnz⟩ : ∃ nz, nz = t9.ks.length := ⟨_, rfl⟩
            rw [← hnz] at hsz
            have hcr := root_cells HRT9.out
            rw [hsz] at hcr
            obtain ⟨m0, m1, m2, m3, m4⟩ := hcr
            obtain ⟨⟨r0, r1, r2, r3, r4⟩, f0, f1, f2, f3, f4⟩ := c5 HQ9.out
            have HTL := Lib.hid (told9 (B := N) HRT9.out HE9.out (Nat.le_refl _) HNI9.out (.int .i64 t9.a.d.k) (.int .i64 t9.a.d.w) (.int .i64 t9.a.d.c) (.int .i64 t9.a.d.s) (.slice pz nz cz))
            rw [hsz] at HTL
            obtain ⟨hbF, hqF, -⟩ := st5_next HB9.out (by have := HN.out; omega) HQ9.out (.int .i64 t9.a.d.k) (.int .i64 t9.a.d.w) (.int .i64 t9.a.d.c) (.int .i64 t9.a.d.s) (.slice pz nz cz)
            obtain ⟨tb, htb⟩ : ∃ ta, ta = t9.a.d := ⟨_, rfl⟩
            obtain ⟨wF, hwF⟩ : ∃ wF, wF = st5 w9 (w.heap.size + 1) (.int .i64 t9.a.d.k) (.int .i64 t9.a.d.w) (.int .i64 t9.a.d.c) (.int .i64 t9.a.d.s) (.slice pz nz cz) := ⟨_, rfl⟩
            rw [← hwF] at hbF hqF HTL
            rw [← htb] at m0 m1 m2 m3 hqF hwF HTL
            have HBF := Lib.hid hbF
            have HQF := Lib.hid hqF
            have HWF := Lib.hid hwF
            clear hsz hnz htb hbF hqF hwF
            go_wp2_with fail
            have hwF := HWF.out
            unfold st5 at hwF
            rewrite [← hwF]
            obtain ⟨⟨b0, b1, b2, b3, b4⟩, -⟩ := c5 HQF.out
            have h0 : (outN x U c se d (n - 1)).2 = 0 := by rw [HE.out]
            have hTL := HTL.out
            rw [show ((outN x U c se d (n - 1)).1, (0 : Int)) = outN x U c se d (n - 1) from Prod.ext rfl h0.symm] at hTL
            exact bodyPost_ret (v := .tuple #[.agg #[.int .i64 tb.k, .int .i64 tb.w, .int .i64 tb.c, .int .i64 tb.s, .slice pz nz cz], .int .i64 0]) (by simp [results, Try.results93, go_sem, b0, b1, b2, b3, b4]) rfl ((HR.out _ _).2 ⟨hTL, HBF.out⟩)
end Go.Proofs.Ytjeabkcbaielhaa.Co
end
section
namespace Go.Proofs.Ytjeabkcbaielhaa.Co
open Go.RowKit Go.Shelf Go.Maps
theorem put_snoc {α : Type} : ∀ {v : List Nat} {x p z : Tr α} {i : Nat}, get x v = some p → i < p.ks.length → put x (v ++ [i]) z = put x v (.mk p.a (p.ks.set i z)) := by
  intro v
  induction v with
  | nil =>
    intro x p z i h hi
    simp only [get] at h; have h := Option.some.inj h; subst h
    obtain ⟨a, ks⟩ := x
    simp only [Tr.ks_mk] at hi
    rw [List.nil_append, put_consI (List.getElem?_eq_getElem hi)]
    simp [put]
  | cons j r ih =>
    intro x p z i h hi
    obtain ⟨a, ks⟩ := x
    obtain ⟨y, hy, hr⟩ := get_consP h
    rw [List.cons_append, put_consI hy, put_consI hy, ih hr hi]
theorem swapK_eq {x p y z : Con} {v : List Nat} {i j : Nat} (hp : get x v = some p) (hi : i < p.ks.length) (hj : j < p.ks.length) : swapK x v p i j y z = put (put x (v ++ [i]) z) (v ++ [j]) y := by
  unfold swapK
  rw [put_snoc hp hi, put_snoc (get_put_at hp) (by simpa using hj), put_put hp]
  rfl
/-- Five cells become others. -/
def wL (w : World) (b o : Nat) (v0 v1 v2 v3 v4 : Value) : World := ((((w.setCell ⟨b, o, none⟩ v0).setCell ⟨b, o + 1, none⟩ v1).setCell ⟨b, o + 2, none⟩ v2).setCell ⟨b, o + 3, none⟩ v3).setCell ⟨b, o + 4, none⟩ v4
theorem wL_size (w : World) (b o : Nat) (v0 v1 v2 v3 v4 : Value) : (wL w b o v0 v1 v2 v3 v4).heap.size = w.heap.size := by simp [wL, World.setCell]
theorem wL_far (w : World) (b o : Nat) (v0 v1 v2 v3 v4 : Value) (x : Nat) (hx : x ≠ b) : (wL w b o v0 v1 v2 v3 v4).heap[x]? = w.heap[x]? := by
  unfold wL
  rw [Below.heap_setCell _ ⟨b, o + 4, none⟩ _ x hx, Below.heap_setCell _ ⟨b, o + 3, none⟩ _ x hx, Below.heap_setCell _ ⟨b, o + 2, none⟩ _ x hx, Below.heap_setCell _ ⟨b, o + 1, none⟩ _ x hx, Below.heap_setCell _ ⟨b, o, none⟩ _ x hx]
section
variable {w : World} {N r : Nat} {t s p q : ATr} {u v : List Nat}
theorem Root.leaf5 (h : Root N w r t) (hs : get t u = some s) (hk : s.ks = []) (d : D) (hN : N ≤ w.heap.size) :
    Root N (wL w (loc r 0 t u).1 (loc r 0 t u).2 (.int .i64 d.k) (.int .i64 d.w) (.int .i64 d.c) (.int .i64 d.s) (.slice none 0 0)) r (Co.put t u (.mk ⟨d, s.a.g, s.a.cap⟩ [])) := by
  obtain ⟨⟨⟨k, wt, c, se⟩, g, cp⟩, ks⟩ := s
  obtain ⟨dk, dw, dc, ds⟩ := d
  simp only [Tr.ks_mk] at hk
  subst hk
  have hO : ∀ (a1 a2 : D) (w' : World), Own w' (.mk ⟨a1, g, cp⟩ [] : ATr) → Own w' (.mk ⟨a2, g, cp⟩ []) := fun _ _ _ h => h
  have n0 := (h.set (f := 0) (v := .int .i64 dk) (s' := .mk ⟨⟨dk, wt, c, se⟩, g, cp⟩ []) hs (by omega) rfl rfl (hO _ _) hN).1
  have g0 : get (Co.put t u (.mk ⟨⟨dk, wt, c, se⟩, g, cp⟩ [])) u = some (.mk ⟨⟨dk, wt, c, se⟩, g, cp⟩ []) := get_put_at hs
  have l0 : loc r 0 (Co.put t u (.mk ⟨⟨dk, wt, c, se⟩, g, cp⟩ [])) u = loc r 0 t u := loc_put hs rfl rfl
  have n1 := (n0.set (f := 1) (v := .int .i64 dw) (s' := .mk ⟨⟨dk, dw, c, se⟩, g, cp⟩ []) g0 (by omega) rfl rfl (hO _ _) (by simpa [World.setCell] using hN)).1
  rw [l0, put_put hs] at n1
  have g1 : get (Co.put t u (.mk ⟨⟨dk, dw, c, se⟩, g, cp⟩ [])) u = some (.mk ⟨⟨dk, dw, c, se⟩, g, cp⟩ []) := get_put_at hs
  have l1 : loc r 0 (Co.put t u (.mk ⟨⟨dk, dw, c, se⟩, g, cp⟩ [])) u = loc r 0 t u := loc_put hs rfl rfl
  have n2 := (n1.set (f := 2) (v := .int .i64 dc) (s' := .mk ⟨⟨dk, dw, dc, se⟩, g, cp⟩ []) g1 (by omega) rfl rfl (hO _ _) (by simpa [World.setCell] using hN)).1
  rw [l1, put_put hs] at n2
  have g2 : get (Co.put t u (.mk ⟨⟨dk, dw, dc, se⟩, g, cp⟩ [])) u = some (.mk ⟨⟨dk, dw, dc, se⟩, g, cp⟩ []) := get_put_at hs
  have l2 : loc r 0 (Co.put t u (.mk ⟨⟨dk, dw, dc, se⟩, g, cp⟩ [])) u = loc r 0 t u := loc_put hs rfl rfl
  have n3 := (n2.set (f := 3) (v := .int .i64 ds) (s' := .mk ⟨⟨dk, dw, dc, ds⟩, g, cp⟩ []) g2 (by omega) rfl rfl (hO _ _) (by simpa [World.setCell] using hN)).1
  rw [l2, put_put hs] at n3
  have g3 : get (Co.put t u (.mk ⟨⟨dk, dw, dc, ds⟩, g, cp⟩ [])) u = some (.mk ⟨⟨dk, dw, dc, ds⟩, g, cp⟩ []) := get_put_at hs
  have l3 : loc r 0 (Co.put t u (.mk ⟨⟨dk, dw, dc, ds⟩, g, cp⟩ [])) u = loc r 0 t u := loc_put hs rfl rfl
  have n4 := (n3.set (f := 4) (v := .slice none 0 0) (s' := .mk ⟨⟨dk, dw, dc, ds⟩, g, cp⟩ []) g3 (by omega) rfl rfl (hO _ _) (by simpa [World.setCell] using hN)).1
  rw [l3, put_put hs] at n4
  unfold wL
  simp only [Nat.add_zero] at n4 ⊢
  exact n4
/-- Both leaves stored, one behind the other. -/
theorem Root.swap2 (h : Root N w r t) (hp : get t u = some p) (hq : get t v = some q) (kp : p.ks = []) (kq : q.ks = []) (hne : u ≠ v) (hN : N ≤ w.heap.size) :
    (∀ i x, (encC p.a.d (.slice none 0 0))[i]? = some x → w.cell? ⟨(loc r 0 t u).1, (loc r 0 t u).2 + i, none⟩ = some x) ∧
    (∀ i x, (encC q.a.d (.slice none 0 0))[i]? = some x → (wL w (loc r 0 t u).1 (loc r 0 t u).2 (.int .i64 q.a.d.k) (.int .i64 q.a.d.w) (.int .i64 q.a.d.c) (.int .i64 q.a.d.s) (.slice none 0 0)).cell? ⟨(loc r 0 t v).1, (loc r 0 t v).2 + i, none⟩ = some x) ∧
    Root N (wL (wL w (loc r 0 t u).1 (loc r 0 t u).2 (.int .i64 q.a.d.k) (.int .i64 q.a.d.w) (.int .i64 q.a.d.c) (.int .i64 q.a.d.s) (.slice none 0 0)) (loc r 0 t v).1 (loc r 0 t v).2 (.int .i64 p.a.d.k) (.int .i64 p.a.d.w) (.int .i64 p.a.d.c) (.int .i64 p.a.d.s) (.slice none 0 0)) r (Co.put (Co.put t u (.mk ⟨q.a.d, p.a.g, p.a.cap⟩ [])) v (.mk ⟨p.a.d, q.a.g, q.a.cap⟩ [])) := by
  have hsp : slA p = .slice none 0 0 := by unfold slA slV; rw [kp]; rfl
  have hsq : slA q = .slice none 0 0 := by unfold slA slV; rw [kq]; rfl
  have n1 := h.leaf5 hp kp q.a.d hN
  have g1 : get (Co.put t u (.mk ⟨q.a.d, p.a.g, p.a.cap⟩ [])) v = some q := get_put_other hp kp hq kq hne
  have l1 : loc r 0 (Co.put t u (.mk ⟨q.a.d, p.a.g, p.a.cap⟩ [])) v = loc r 0 t v := loc_put hp kp rfl
  have n2 := n1.leaf5 g1 kq p.a.d (by rw [wL_size]; exact hN)
  rw [l1] at n2
  refine ⟨fun i x hx => ?_, fun i x hx => ?_, n2⟩
  · rw [← hsp] at hx; exact (h.held.get hp).cells i x hx
  · rw [← hsq] at hx
    have := (n1.held.get g1).cells i x hx
    rwa [l1] at this
end
theorem swap2_era {x y z : Con} {t p q : ATr} {u v : List Nat} (he : era t = x) (hp : get t u = some p) (hq : get t v = some q) (kp : p.ks = []) (kq : q.ks = []) (hne : u ≠ v) (hy : era p = y) (hz : era q = z) : era (put (put t u (.mk ⟨q.a.d, p.a.g, p.a.cap⟩ [])) v (.mk ⟨p.a.d, q.a.g, q.a.cap⟩ [])) = put (put x u z) v y := by
  have g1 : get (Co.put t u (.mk ⟨q.a.d, p.a.g, p.a.cap⟩ [])) v = some q := get_put_other hp kp hq kq hne
  have e1 : era (.mk ⟨p.a.d, q.a.g, q.a.cap⟩ [] : ATr) = y := by rw [← hy]; obtain ⟨a, ks⟩ := p; simp only [Tr.ks_mk] at kp; subst kp; rfl
  have e2 : era (.mk ⟨q.a.d, p.a.g, p.a.cap⟩ [] : ATr) = z := by rw [← hz]; obtain ⟨a, ks⟩ := q; simp only [Tr.ks_mk] at kq; subst kq; rfl
  rw [era_put g1, era_put hp, he, e1, e2]
theorem remove_fineW {x : Con} {c : Int} (hf : fine x) : fine (removeD x c).1 := by
  by_cases h0 : (removeD x c).2 = 0
  · exact remove_fine hf h0
  · unfold removeD at h0 ⊢
    split
    · exact zeroT_fine
    · split
      · exact zeroT_fine
      · rename_i h2 h3
        rw [if_neg h2, if_neg h3] at h0
        exact absurd rfl h0
theorem newT_fine {K : Con} (h : fine K) : fine (.mk ⟨1, 65536, 0, 0⟩ [K]) := fine_mk newT_wide (by simp) (by intro y hy; rw [List.mem_singleton] at hy; subst hy; exact h)
theorem leafC_fine {c se : Int} (hc : I64 c) (hs : I64 se) : fine (leafC c se) := fine_mk ⟨(show I64 0 from ⟨by decide, by decide⟩), (show I64 65536 from ⟨by decide, by decide⟩), hc, hs⟩ (by simp) (by simp)
theorem out_fine {x : Con} {u : List Nat} {c se d : Int} (hf : fine x) (htr : treeB x = true) (hu : IsWay x c u) (hc : I64 c) (hs : I64 se) : ∀ m, m < u.length → fine (outN x u c se d m).1
  | 0, _ => zeroT_fine
  | m + 1, hm => by
    simp only [outN]
    split
    · rename_i q i hq hi
      split
      · split
        · exact zeroT_fine
        · rename_i h64
          split
          · rename_i K hK
            have hgK : get x (u.take (m + 1)) = some K := by
              rw [take_snoc hi, get_append _ hq]; obtain ⟨a, ks⟩ := q; simp only [get]; rw [show ks[i]? = some K from hK]
            have hfq := fine_get hf hq
            have hfK := fine_get hf hgK
            have hrem := alone_tree htr hu (m := m) (by omega) hgK (w := 65536) (by decide) (by decide)
            have hfr := remove_fineW (c := c) (newT_fine hfK)
            rw [hrem] at hfr
            have hless := (fine_kids hfr).2.2
            have hlen := apartL_len c se d K
            have hq64 : q.ks.length ≤ 64 := by
              have hsh := shape_get (tree_parts htr).1 hq
              by_cases hk : q.a.k = 0
              · rw [shape_leaf hsh hk]; simp
              · obtain ⟨qa, qk⟩ := q
                obtain ⟨_, _, _, _, _, _, _, p8, _⟩ := split_shape9 hsh hk
                exact p8
            obtain ⟨qa, qk⟩ := q
            obtain ⟨q1, q2, q3⟩ := fine_kids hfq
            refine fine_put hf (fine_mk q1 ?_ fun y hy => ?_)
            · simp only [Tr.ks_mk, List.length_append, List.length_take, List.length_drop] at hq64 ⊢; omega
            · simp only [Tr.ks_mk, List.mem_append] at hy
              rcases hy with (hy | hy) | hy
              · exact q3 y (List.mem_of_mem_take hy)
              · unfold apartL at hy
                split at hy
                · rcases List.mem_cons.1 hy with rfl | hy
                  · exact leafC_fine hc hs
                  · exact hless y hy
                · rcases List.mem_append.1 hy with hy | hy
                  · exact hless y hy
                  · rw [List.mem_singleton] at hy; subst hy; exact leafC_fine hc hs
              · exact q3 y (List.mem_of_mem_drop hy)
          · exact zeroT_fine
      · exact out_fine hf htr hu hc hs m (by omega)
    · exact zeroT_fine
end Go.Proofs.Ytjeabkcbaielhaa.Co
end
section
namespace Go.Proofs.Ytjeabkcbaielhaa.Co
open Go.RowKit Go.Shelf Go.Maps
set_option maxHeartbeats 4000000 in
set_option maxRecDepth 100000 in
theorem into_c (Z : Nat → Prop) (x z : Con) (sx sz : Value) (wl c se : Int) (w : World) (hK : KV w Z x.ks sx) (hs : Small x) (htr : treeB x = true) (hh : hasB x c = true) (hcn : cnt x ≤ 500) (hKz : KV w Z z.ks sz) (hzw : z.a.wide) (hzd : ht z ≤ 1000000) (hc : I64 c) (hse : I64 se) :
    Calls Try.prog 94 #[conV x.a sx, conV ⟨0, wl, c, se⟩ (.slice none 0 0), conV z.a sz] w (AnsR 0 (insertI (removeD x c).1 (lastI z) c se) w) := by
  obtain ⟨px, cx, rfl, -⟩ := hK.slice
  obtain ⟨nx, hnx⟩ : ∃ n, n = x.ks.length := ⟨_, rfl⟩
  obtain ⟨pz, cz, rfl, -⟩ := hKz.slice
  obtain ⟨nz, hnz⟩ : ∃ n, n = z.ks.length := ⟨_, rfl⟩
  rw [← hnx] at hK ⊢
  rw [← hnz] at hKz ⊢
  obtain ⟨R, hR⟩ : ∃ R, R = AnsR 0 (insertI (removeD x c).1 (lastI z) c se) w := ⟨_, rfl⟩
  have hRe : ∀ e w', R e w' ↔ AnsR 0 (insertI (removeD x c).1 (lastI z) c se) w e w' := by rw [hR]; exact fun _ _ => Iff.rfl
  rw [← hR]
  obtain ⟨wB, hwB⟩ : ∃ wB, wB = (((w.alloc (.cells #[.int .i64 x.a.k, .int .i64 x.a.w, .int .i64 x.a.c, .int .i64 x.a.s, .slice px nx cx] 24)).alloc (.cells #[.int .i64 0, .int .i64 wl, .int .i64 c, .int .i64 se, .slice none 0 0] 24)).alloc (.cells #[.int .i64 z.a.k, .int .i64 z.a.w, .int .i64 z.a.c, .int .i64 z.a.s, .slice pz nz cz] 24)).alloc (.cells #[.int .i64 0, .int .i64 0, .int .i64 0, .int .i64 0, .slice none 0 0] 24) := ⟨_, rfl⟩
  have hb0 : Below w.heap.size w wB := by rw [hwB]; exact ((((Below.refl w.heap.size w).alloc (Nat.le_refl _) _).alloc (by simp) _).alloc (by simp; omega) _).alloc (by simp; omega) _
  have hq1 : Blk wB w.heap.size 24 #[.int .i64 x.a.k, .int .i64 x.a.w, .int .i64 x.a.c, .int .i64 x.a.s, .slice px nx cx] := by rw [hwB]; exact (((Blk.new w 24 _).alloc _).alloc _).alloc _
  have hq2 : Blk wB (w.heap.size + 1) 24 #[.int .i64 0, .int .i64 wl, .int .i64 c, .int .i64 se, .slice none 0 0] := by
    rw [hwB]; have := ((Blk.new (w.alloc (.cells #[.int .i64 x.a.k, .int .i64 x.a.w, .int .i64 x.a.c, .int .i64 x.a.s, .slice px nx cx] 24)) 24 #[.int .i64 0, .int .i64 wl, .int .i64 c, .int .i64 se, .slice none 0 0]).alloc (.cells #[.int .i64 z.a.k, .int .i64 z.a.w, .int .i64 z.a.c, .int .i64 z.a.s, .slice pz nz cz] 24)).alloc (.cells #[.int .i64 0, .int .i64 0, .int .i64 0, .int .i64 0, .slice none 0 0] 24); rwa [World.size_alloc] at this
  have hq3 : Blk wB (w.heap.size + 1 + 1) 24 #[.int .i64 z.a.k, .int .i64 z.a.w, .int .i64 z.a.c, .int .i64 z.a.s, .slice pz nz cz] := by
    rw [hwB]; have := (Blk.new ((w.alloc (.cells #[.int .i64 x.a.k, .int .i64 x.a.w, .int .i64 x.a.c, .int .i64 x.a.s, .slice px nx cx] 24)).alloc (.cells #[.int .i64 0, .int .i64 wl, .int .i64 c, .int .i64 se, .slice none 0 0] 24)) 24 #[.int .i64 z.a.k, .int .i64 z.a.w, .int .i64 z.a.c, .int .i64 z.a.s, .slice pz nz cz]).alloc (.cells #[.int .i64 0, .int .i64 0, .int .i64 0, .int .i64 0, .slice none 0 0] 24); rwa [World.size_alloc, World.size_alloc] at this
  have hq4 : Blk wB (w.heap.size + 1 + 1 + 1) 24 #[.int .i64 0, .int .i64 0, .int .i64 0, .int .i64 0, .slice none 0 0] := by
    rw [hwB]; have := Blk.new (((w.alloc (.cells #[.int .i64 x.a.k, .int .i64 x.a.w, .int .i64 x.a.c, .int .i64 x.a.s, .slice px nx cx] 24)).alloc (.cells #[.int .i64 0, .int .i64 wl, .int .i64 c, .int .i64 se, .slice none 0 0] 24)).alloc (.cells #[.int .i64 z.a.k, .int .i64 z.a.w, .int .i64 z.a.c, .int .i64 z.a.s, .slice pz nz cz] 24)) 24 #[.int .i64 0, .int .i64 0, .int .i64 0, .int .i64 0, .slice none 0 0]; rwa [World.size_alloc, World.size_alloc, World.size_alloc] at this
  have hrm := rem_k c (hK.next hb0).all hs (fun _ h => h)
  have hrd : removeD x c = ((removeD x c).1, 0) := by unfold removeD; rw [if_neg (by rw [htr]; simp), if_neg (by rw [hh]; simp)]
  have hrt := remove_tree (c := c) htr
  have hre : (removeD x c).1 = .mk x.a (lessL c x.ks) := by unfold removeD; rw [if_neg (by rw [htr]; simp), if_neg (by rw [hh]; simp)]
  have hsr : Small (removeD x c).1 := small_of (by rw [hre]; have := hrt.2.2; omega) (remove_fineW hs.f)
  obtain ⟨y, hy⟩ : ∃ y, y = (removeD x c).1 := ⟨_, rfl⟩
  rw [hrd, ← hy] at hrm
  rw [← hy] at hsr hRe
  have HRM := Lib.hid hrm
  have HSY := Lib.hid hsr
  have HKZ := Lib.hid (hKz.next hb0).all
  have HZW := Lib.hid hzw
  have HZD := Lib.hid hzd
  have HIC := Lib.hid hc
  have HIS := Lib.hid hse
  have HB := Lib.hid hb0
  have HQ1 := Lib.hid hq1
  have HQ2 := Lib.hid hq2
  have HQ3 := Lib.hid hq3
  have HQ4 := Lib.hid hq4
  have HWB := Lib.hid hwB
  have HR := Lib.hid hRe
  obtain ⟨⟨a0, a1, a2, a3, a4⟩, -⟩ := c5 hq1
  obtain ⟨⟨l0, l1, l2, l3, l4⟩, -⟩ := c5 hq2
  clear hnx hnz hK hKz hs htr hh hcn hzw hzd hc hse hR hRe hwB hb0 hq1 hq2 hq3 hq4 hrm hrd hrt hre hsr hy
  show Calls Try.prog 94 #[.agg #[.int .i64 x.a.k, .int .i64 x.a.w, .int .i64 x.a.c, .int .i64 x.a.s, .slice px nx cx], .agg #[.int .i64 0, .int .i64 wl, .int .i64 c, .int .i64 se, .slice none 0 0], .agg #[.int .i64 z.a.k, .int .i64 z.a.w, .int .i64 z.a.c, .int .i64 z.a.s, .slice pz nz cz]] w R
  go_enter Try.func94, Try.ntmps94
  go_upto_region 1 with fail
  rw [← HWB.out]
  go_wp2_with fail
  refine HRM.out.mono ?_
  rintro e w2 ⟨y2, py, ny, ky, rfl, hky, hy2, hb⟩
  rw [if_pos rfl] at hy2
  simp only at hy2
  subst hy2
  have HB2 := Lib.hid (HB.out.trans (hb.mono HB.out.size))
  have HQ22 := Lib.hid (HQ2.out.next hb)
  have HQ32 := Lib.hid (HQ3.out.next hb)
  have HQ42 := Lib.hid (HQ4.out.next hb)
  have HKZ2 := Lib.hid (HKZ.out.next hb)
  have HKY := Lib.hid hky.all
  clear hb hky HRM HB HQ1 HQ2 HQ3 HQ4 HKZ HWB a0 a1 a2 a3 a4 l0 l1 l2 l3 l4
  have hl9 := HQ42.out.lt
  go_upto_region 2 with fail
  obtain ⟨wm, hwm⟩ : ∃ wm, wm = w2.alloc (.cells #[.int .i64 y2.a.k, .int .i64 y2.a.w, .int .i64 y2.a.c, .int .i64 y2.a.s, .slice py ny ky] 24) := ⟨_, rfl⟩
  have hb2m : Below w2.heap.size w2 wm := by rw [hwm]; exact (Below.refl _ _).alloc (Nat.le_refl _) _
  have hq8 : Blk wm w2.heap.size 24 #[.int .i64 y2.a.k, .int .i64 y2.a.w, .int .i64 y2.a.c, .int .i64 y2.a.s, .slice py ny ky] := by rw [hwm]; exact Blk.new _ _ _
  rw [← hwm]
  obtain ⟨g8, hg8⟩ : ∃ g, g = w2.heap.size := ⟨_, rfl⟩
  have hg9 : w.heap.size + 1 + 1 + 1 < g8 := by omega
  rw [← hg8] at hq8 ⊢
  have HQM8 := Lib.hid hq8
  have HQM2 := Lib.hid (HQ22.out.next hb2m)
  have HQM3 := Lib.hid (HQ32.out.next hb2m)
  have HQM4 := Lib.hid (HQ42.out.next hb2m)
  have HBM := Lib.hid (HB2.out.trans (hb2m.mono HB2.out.size))
  have HKYM := Lib.hid (HKY.out.next hb2m).all
  have HKZM := Lib.hid (HKZ2.out.next hb2m)
  have HLS : Hid (∀ W, Below wm.heap.size wm W → Calls Try.prog 88 #[.agg #[.int .i64 z.a.k, .int .i64 z.a.w, .int .i64 z.a.c, .int .i64 z.a.s, .slice pz nz cz]] W fun e w' => e = .returned (.int .i64 (lastI z)) ∧ Below W.heap.size W w') := fun W h => last_c _ z (.slice pz nz cz) W (HKZM.out.next h) HZW.out HZD.out
  have HIN : Hid (∀ W, Below wm.heap.size wm W → Calls Try.prog 31 #[.agg #[.int .i64 y2.a.k, .int .i64 y2.a.w, .int .i64 y2.a.c, .int .i64 y2.a.s, .slice py ny ky], .int .i64 (lastI z), .int .i64 c, .int .i64 se] W (AnsR 0 (insertI y2 (lastI z) c se) W)) := fun W h => ins_k (lastI z) c se HIC.out HIS.out (HKYM.out.next h).all HSY.out (fun _ h => h)
  have HSS : Hid (∀ W, Below wm.heap.size wm W → W.cell? ⟨g8, 0, none⟩ = some (.int .i64 y2.a.k) ∧ W.cell? ⟨g8, 1, none⟩ = some (.int .i64 y2.a.w) ∧ W.cell? ⟨g8, 2, none⟩ = some (.int .i64 y2.a.c) ∧ W.cell? ⟨g8, 3, none⟩ = some (.int .i64 y2.a.s) ∧ W.cell? ⟨g8, 4, none⟩ = some (.slice py ny ky) ∧ W.cell? ⟨w.heap.size + 1 + 1, 0, none⟩ = some (.int .i64 z.a.k) ∧ W.cell? ⟨w.heap.size + 1 + 1, 1, none⟩ = some (.int .i64 z.a.w) ∧ W.cell? ⟨w.heap.size + 1 + 1, 2, none⟩ = some (.int .i64 z.a.c) ∧ W.cell? ⟨w.heap.size + 1 + 1, 3, none⟩ = some (.int .i64 z.a.s) ∧ W.cell? ⟨w.heap.size + 1 + 1, 4, none⟩ = some (.slice pz nz cz) ∧ W.cell? ⟨w.heap.size + 1, 2, none⟩ = some (.int .i64 c) ∧ W.cell? ⟨w.heap.size + 1, 3, none⟩ = some (.int .i64 se)) := fun W h => by
    obtain ⟨⟨u0, u1, u2, u3, u4⟩, -⟩ := c5 (HQM8.out.next h)
    obtain ⟨⟨u5, u6, u7, u8, u9⟩, -⟩ := c5 (HQM3.out.next h)
    obtain ⟨⟨-, -, x2, x3, -⟩, -⟩ := c5 (HQM2.out.next h)
    exact ⟨u0, u1, u2, u3, u4, u5, u6, u7, u8, u9, x2, x3⟩
  have HNE : Hid (∀ W, Below wm.heap.size wm W → ∀ b, (b < 0 ∨ W.heap.size ≤ b) → b ≠ w.heap.size + 1 + 1 + 1) := fun W h b hb => by
    have h1 := HQM4.out.lt
    have h2 := h.size
    rcases hb with hb | hb <;> omega
  have HZZ : Hid (∀ W, Below wm.heap.size wm W → ∀ b, (b < 0 ∨ W.heap.size ≤ b) → (b < 0 ∨ w.heap.size ≤ b)) := fun W h b hb => by
    have h1 := HBM.out.size
    have h2 := h.size
    rcases hb with hb | hb
    · exact .inl hb
    · exact .inr (by omega)
  have HSF : Hid (∀ W, Below wm.heap.size wm W → ∀ v0 v1 v2 v3 v4, (∀ (b : Nat) (t : TypeId) (cs : Array Value), b ≠ w.heap.size + 1 + 1 + 1 → Blk W b t cs → Blk (st5 W (w.heap.size + 1 + 1 + 1) v0 v1 v2 v3 v4) b t cs) → (st5 W (w.heap.size + 1 + 1 + 1) v0 v1 v2 v3 v4).cell? ⟨g8, 0, none⟩ = some (.int .i64 y2.a.k) ∧ (st5 W (w.heap.size + 1 + 1 + 1) v0 v1 v2 v3 v4).cell? ⟨g8, 1, none⟩ = some (.int .i64 y2.a.w) ∧ (st5 W (w.heap.size + 1 + 1 + 1) v0 v1 v2 v3 v4).cell? ⟨g8, 2, none⟩ = some (.int .i64 y2.a.c) ∧ (st5 W (w.heap.size + 1 + 1 + 1) v0 v1 v2 v3 v4).cell? ⟨g8, 3, none⟩ = some (.int .i64 y2.a.s) ∧ (st5 W (w.heap.size + 1 + 1 + 1) v0 v1 v2 v3 v4).cell? ⟨g8, 4, none⟩ = some (.slice py ny ky) ∧ (st5 W (w.heap.size + 1 + 1 + 1) v0 v1 v2 v3 v4).cell? ⟨w.heap.size + 1 + 1, 0, none⟩ = some (.int .i64 z.a.k) ∧ (st5 W (w.heap.size + 1 + 1 + 1) v0 v1 v2 v3 v4).cell? ⟨w.heap.size + 1 + 1, 1, none⟩ = some (.int .i64 z.a.w) ∧ (st5 W (w.heap.size + 1 + 1 + 1) v0 v1 v2 v3 v4).cell? ⟨w.heap.size + 1 + 1, 2, none⟩ = some (.int .i64 z.a.c) ∧ (st5 W (w.heap.size + 1 + 1 + 1) v0 v1 v2 v3 v4).cell? ⟨w.heap.size + 1 + 1, 3, none⟩ = some (.int .i64 z.a.s) ∧ (st5 W (w.heap.size + 1 + 1 + 1) v0 v1 v2 v3 v4).cell? ⟨w.heap.size + 1 + 1, 4, none⟩ = some (.slice pz nz cz) ∧ (st5 W (w.heap.size + 1 + 1 + 1) v0 v1 v2 v3 v4).cell? ⟨w.heap.size + 1, 2, none⟩ = some (.int .i64 c) ∧ (st5 W (w.heap.size + 1 + 1 + 1) v0 v1 v2 v3 v4).cell? ⟨w.heap.size + 1, 3, none⟩ = some (.int .i64 se)) := fun W h v0 v1 v2 v3 v4 hf => by
    obtain ⟨⟨u0, u1, u2, u3, u4⟩, -⟩ := c5 (hf g8 _ _ (by omega) (HQM8.out.next h))
    obtain ⟨⟨u5, u6, u7, u8, u9⟩, -⟩ := c5 (hf (w.heap.size + 1 + 1) _ _ (by omega) (HQM3.out.next h))
    obtain ⟨⟨-, -, x2, x3, -⟩, -⟩ := c5 (hf (w.heap.size + 1) _ _ (by omega) (HQM2.out.next h))
    exact ⟨u0, u1, u2, u3, u4, u5, u6, u7, u8, u9, x2, x3⟩
  obtain ⟨lz, hlz⟩ : ∃ l, l = lastI z := ⟨_, rfl⟩
  rw [← hlz] at HLS HIN HR
  clear hwm hb2m hq8 hg8 hg9 HQ22 HQ32 HQ42 HB2 HKY HKZ2 hl9 hlz
  refine wp_region_noPanic ?_
  refine wp_region_held_drew (S := fun wx => wx.cell? ⟨g8, 0, none⟩ = some (.int .i64 y2.a.k) ∧ wx.cell? ⟨g8, 1, none⟩ = some (.int .i64 y2.a.w) ∧ wx.cell? ⟨g8, 2, none⟩ = some (.int .i64 y2.a.c) ∧ wx.cell? ⟨g8, 3, none⟩ = some (.int .i64 y2.a.s) ∧ wx.cell? ⟨g8, 4, none⟩ = some (.slice py ny ky) ∧ wx.cell? ⟨w.heap.size + 1 + 1, 0, none⟩ = some (.int .i64 z.a.k) ∧ wx.cell? ⟨w.heap.size + 1 + 1, 1, none⟩ = some (.int .i64 z.a.w) ∧ wx.cell? ⟨w.heap.size + 1 + 1, 2, none⟩ = some (.int .i64 z.a.c) ∧ wx.cell? ⟨w.heap.size + 1 + 1, 3, none⟩ = some (.int .i64 z.a.s) ∧ wx.cell? ⟨w.heap.size + 1 + 1, 4, none⟩ = some (.slice pz nz cz) ∧ wx.cell? ⟨w.heap.size + 1, 2, none⟩ = some (.int .i64 c) ∧ wx.cell? ⟨w.heap.size + 1, 3, none⟩ = some (.int .i64 se)) (by kernel_rfl) (by exact HSS.out wm.drew (Below.refl _ _).drew) (fun hHeld => ?_)
  refine wpAnyH_take (i := 0) (v := ?v0) rfl (by kernel_rfl) (by kernel_rfl) (by kernel_rfl) (fun _ _ _ h => h) (Or.inl ⟨by kernel_rfl, ?y0⟩) (by assumption) ?r0
  case y0 => (intro wq hSw; (try dsimp only at hSw); go_simp; (try with_reducible rfl))
  (try simp only [Act.put, List.getElem_toArray, List.getElem_cons_zero, List.setIfInBounds_toArray, List.set_cons_zero, List.set_cons_succ])
  refine wpAnyH_take (i := 1) (v := ?v1) rfl (by kernel_rfl) (by kernel_rfl) (by kernel_rfl) (fun _ _ _ h => h) (Or.inl ⟨by kernel_rfl, ?y1⟩) (by assumption) ?r1
  case y1 => (intro wq hSw; (try dsimp only at hSw); go_simp; (try with_reducible rfl))
  (try simp only [Act.put, List.getElem_toArray, List.getElem_cons_succ, List.getElem_cons_zero, List.setIfInBounds_toArray, List.set_cons_zero, List.set_cons_succ])
  refine wpAnyH_take (i := 3) (v := ?v3) rfl (by kernel_rfl) (by kernel_rfl) (by kernel_rfl) (fun _ _ _ h => h) (Or.inl ⟨by kernel_rfl, ?y3⟩) (by assumption) ?r3
  case y3 => (intro wq hSw; (try dsimp only at hSw); go_simp; (try with_reducible rfl))
  (try simp only [Act.put, List.getElem_toArray, List.getElem_cons_succ, List.getElem_cons_zero, List.setIfInBounds_toArray, List.set_cons_zero, List.set_cons_succ])
  refine wpAnyH_take (i := 4) (v := ?v4) rfl (by kernel_rfl) (by kernel_rfl) (by kernel_rfl) (fun _ _ _ h => h) (Or.inl ⟨by kernel_rfl, ?y4⟩) (by assumption) ?r4
  case y4 => (intro wq hSw; (try dsimp only at hSw); go_simp; (try with_reducible rfl))
  (try simp only [Act.put, List.getElem_toArray, List.getElem_cons_succ, List.getElem_cons_zero, List.setIfInBounds_toArray, List.set_cons_zero, List.set_cons_succ])
  refine wpAnyH_take (i := 5) (v := ?v5) rfl (by kernel_rfl) (by kernel_rfl) (by kernel_rfl) (fun _ _ _ h => h) (Or.inl ⟨by kernel_rfl, ?y5⟩) (by assumption) ?r5
  case y5 => (intro wq hSw; (try dsimp only at hSw); go_simp; (try with_reducible rfl))
  (try simp only [Act.put, List.getElem_toArray, List.getElem_cons_succ, List.getElem_cons_zero, List.setIfInBounds_toArray, List.set_cons_zero, List.set_cons_succ])
  refine wpAnyH_take (i := 6) (v := ?v6) rfl (by kernel_rfl) (by kernel_rfl) (by kernel_rfl) (fun _ _ _ h => h) (Or.inl ⟨by kernel_rfl, ?y6⟩) (by assumption) ?r6
  case y6 => (intro wq hSw; (try dsimp only at hSw); go_simp; (try with_reducible rfl))
  (try simp only [Act.put, List.getElem_toArray, List.getElem_cons_succ, List.getElem_cons_zero, List.setIfInBounds_toArray, List.set_cons_zero, List.set_cons_succ])
  refine wpAnyH_ready (rs := [2]) (by kernel_rfl) (by simp) ?_
  refine AllReadyH.cons rfl (fun K hK => ?_) AllReadyH.nil
  go_simp
  refine (HLS.out wm.drew (Below.refl _ _).drew).mono ?_
  rintro e w5 ⟨rfl, hb⟩; have HB5 := Lib.hid ((Below.refl wm.heap.size wm).drew.trans hb); clear hb
  (try dsimp only)
  refine hK.out _ _ (by exact HSS.out w5 HB5.out) (fun hHeld => ?_)
  clear hK K
  (try simp only [Act.put, List.getElem_toArray, List.getElem_cons_succ, List.getElem_cons_zero, List.setIfInBounds_toArray, List.set_cons_zero, List.set_cons_succ])
  refine wpAnyH_ready (rs := [7]) (by kernel_rfl) (by simp) ?_
  refine AllReadyH.cons rfl (fun K hK => ?_) AllReadyH.nil
  go_simp
  refine (HIN.out w5 HB5.out).mono ?_
  rintro e w7 ⟨y3, p3, n3, k3, rfl, hk7, hy7, hb⟩; have HB7 := Lib.hid (HB5.out.trans (hb.mono HB5.out.size)); have HK7 := Lib.hid hk7; have HY7 := Lib.hid hy7; have HQ7 := Lib.hid (HQM4.out.next HB7.out); have HL7 := Lib.hid (HB5.out.size); clear hb hk7 hy7; obtain ⟨⟨r0, r1, r2, r3, r4⟩, ⟨f0, f1, f2, f3, f4⟩⟩ := c5 HQ7.out
  (try dsimp only)
  refine hK.out _ _ (by exact HSS.out w7 HB7.out) (fun hHeld => ?_)
  clear hK K
  (try simp only [Act.put, List.getElem_toArray, List.getElem_cons_succ, List.getElem_cons_zero, List.setIfInBounds_toArray, List.set_cons_zero, List.set_cons_succ])
  refine wpAnyH_take (i := 8) (v := ?v8) rfl (by kernel_rfl) (by kernel_rfl) (by kernel_rfl) (fun _ _ _ h => h) (Or.inl ⟨by kernel_rfl, ?y8⟩) (by assumption) ?r8
  case y8 => (intro wq hSw; (try dsimp only at hSw); go_simp; (try with_reducible rfl))
  (try simp only [Act.put, List.getElem_toArray, List.getElem_cons_succ, List.getElem_cons_zero, List.setIfInBounds_toArray, List.set_cons_zero, List.set_cons_succ])
  refine wpAnyH_take (i := 9) (v := ?v9) rfl (by kernel_rfl) (by kernel_rfl) (by kernel_rfl) (fun _ _ _ h => h) (Or.inl ⟨by kernel_rfl, ?y9⟩) (by assumption) ?r9
  case y9 => (intro wq hSw; (try dsimp only at hSw); go_simp; (try with_reducible rfl))
  (try simp only [Act.put, List.getElem_toArray, List.getElem_cons_succ, List.getElem_cons_zero, List.setIfInBounds_toArray, List.set_cons_zero, List.set_cons_succ])
  refine wpAnyH_ready (rs := [10]) (by kernel_rfl) (by simp) ?_
  refine AllReadyH.cons rfl (fun K hK => ?_) AllReadyH.nil
  go_simp; obtain ⟨hb9, hq9, hfq⟩ := st5_next (HBM.out.trans (HB7.out.mono HBM.out.size)) (g := w.heap.size + 1 + 1 + 1) (by omega) HQ7.out (.int .i64 y3.a.k) (.int .i64 y3.a.w) (.int .i64 y3.a.c) (.int .i64 y3.a.s) (.slice p3 n3 k3); have HB9 := Lib.hid hb9; have HQ9 := Lib.hid hq9; have HK9 := Lib.hid (KV.st5 (g := w.heap.size + 1 + 1 + 1) (Z' := fun b => b < 0 ∨ w.heap.size ≤ b) HK7.out (HNE.out w5 HB5.out) (HZZ.out w5 HB5.out) (.int .i64 y3.a.k) (.int .i64 y3.a.w) (.int .i64 y3.a.c) (.int .i64 y3.a.s) (.slice p3 n3 k3)); have hS9 := HSF.out w7 HB7.out _ _ _ _ _ hfq; clear hb9 hq9 hfq r0 r1 r2 r3 r4 f0 f1 f2 f3 f4
  refine hK.out _ _ (by exact hS9) (fun hHeld => ?_)
  clear hK K
  (try simp only [Act.put, List.getElem_toArray, List.getElem_cons_succ, List.getElem_cons_zero, List.setIfInBounds_toArray, List.set_cons_zero, List.set_cons_succ])
  refine wpAnyH_take (i := 11) (v := ?v11) rfl (by kernel_rfl) (by kernel_rfl) (by kernel_rfl) (fun _ _ _ h => h) (Or.inl ⟨by kernel_rfl, ?y11⟩) (by assumption) ?r11
  case y11 => (intro wq hSw; (try dsimp only at hSw); go_simp; (try with_reducible rfl))
  (try simp only [Act.put, List.getElem_toArray, List.getElem_cons_succ, List.getElem_cons_zero, List.setIfInBounds_toArray, List.set_cons_zero, List.set_cons_succ])
  refine wpAnyH_done (by kernel_rfl) ?_ _
  refine NoPanic.normal ?_
  clear hS9 hHeld
  go_wp2_with fail
  obtain ⟨wF, hwF⟩ : ∃ wF, wF = st5 w7 (w.heap.size + 1 + 1 + 1) (.int .i64 y3.a.k) (.int .i64 y3.a.w) (.int .i64 y3.a.c) (.int .i64 y3.a.s) (.slice p3 n3 k3) := ⟨_, rfl⟩
  have hb9 := HB9.out
  have hq9 := HQ9.out
  have hk9 := HK9.out
  rw [← hwF] at hb9 hq9 hk9
  unfold st5 at hwF
  rewrite [← hwF]
  obtain ⟨⟨b0, b1, b2, b3, b4⟩, -⟩ := c5 hq9
  exact bodyPost_ret (v := .tuple #[.agg #[.int .i64 y3.a.k, .int .i64 y3.a.w, .int .i64 y3.a.c, .int .i64 y3.a.s, .slice p3 n3 k3], .int .i64 (insertI y2 lz c se).2]) (by simp [results, Try.results94, go_sem, b0, b1, b2, b3, b4]) rfl ((HR.out _ _).2 ⟨y3, p3, n3, k3, rfl, hk9, HY7.out, hb9⟩)
end Go.Proofs.Ytjeabkcbaielhaa.Co
end
section
namespace Go.Proofs.Ytjeabkcbaielhaa.Co
open Go.RowKit Go.Shelf Go.Maps
theorem movAt_none {x p y : Con} {v : List Nat} {c d : Int} {i : Nat} (hp : get x v = some p) (hy : p.ks[i]? = some y) (hb : besI p.a.k p.ks.length i d = none) : movAt x (v ++ [i]) c d = outN x (v ++ [i]) c y.a.s d ((v ++ [i]).length - 1) := by
  unfold movAt; simp only [List.dropLast_concat, List.getLast?_concat, hp, hy, hb]
theorem movAt_swap {x p y z : Con} {v : List Nat} {c d : Int} {i j : Nat} (hp : get x v = some p) (hy : p.ks[i]? = some y) (hb : besI p.a.k p.ks.length i d = some j) (hz : p.ks[j]? = some z) (hk : z.a.k = 0) : movAt x (v ++ [i]) c d = (swapK x v p i j y z, 0) := by
  unfold movAt; simp only [List.dropLast_concat, List.getLast?_concat, hp, hy, hb, hz, if_pos hk]
theorem movAt_into {x p y z : Con} {v : List Nat} {c d : Int} {i j : Nat} (hp : get x v = some p) (hy : p.ks[i]? = some y) (hb : besI p.a.k p.ks.length i d = some j) (hz : p.ks[j]? = some z) (hk : z.a.k ≠ 0) : movAt x (v ++ [i]) c d = insertI (removeD x c).1 (lastI z) c y.a.s := by
  unfold movAt; simp only [List.dropLast_concat, List.getLast?_concat, hp, hy, hb, hz, if_neg hk]
theorem wL_os (w : World) (b o : Nat) (v0 v1 v2 v3 v4 : Value) : (wL w b o v0 v1 v2 v3 v4).os = w.os := by unfold wL World.setCell; rfl
theorem wL_tape (w : World) (b o : Nat) (v0 v1 v2 v3 v4 : Value) : (wL w b o v0 v1 v2 v3 v4).tape = w.tape := by unfold wL World.setCell; rfl
theorem wL_output (w : World) (b o : Nat) (v0 v1 v2 v3 v4 : Value) : (wL w b o v0 v1 v2 v3 v4).output = w.output := by unfold wL World.setCell; rfl
theorem swapK_fine {x p y z : Con} {v : List Nat} {i j : Nat} (hf : fine x) (hp : get x v = some p) (hy : p.ks[i]? = some y) (hz : p.ks[j]? = some z) : fine (swapK x v p i j y z) := by
  have hi := (List.getElem?_eq_some_iff.1 hy).1
  have hj := (List.getElem?_eq_some_iff.1 hz).1
  have hfp := fine_get hf hp
  unfold swapK
  obtain ⟨a, ks⟩ := p
  obtain ⟨q1, q2, q3⟩ := fine_kids hfp
  simp only [Tr.a_mk, Tr.ks_mk] at *
  refine fine_put hf (fine_mk q1 (by simpa using q2) fun t ht => ?_)
  rcases List.mem_or_eq_of_mem_set ht with h | rfl
  · rcases List.mem_or_eq_of_mem_set h with h | rfl
    · exact q3 t h
    · exact q3 t (List.mem_of_getElem? hz)
  · exact q3 t (List.mem_of_getElem? hy)
set_option maxHeartbeats 8000000 in
set_option maxRecDepth 100000 in
theorem Move_c (x : Con) (sv : Value) (c d : Int) (w : World) (hK : KV w (fun b => b < w.heap.size) x.ks sv) (hsm : Small x) (hcn : cnt x ≤ 500) :
    Calls Try.prog 50 #[conV x.a sv, .int .i64 c, .int .i64 d] w (AnsR 0 (movI x c d) w) := by
  obtain ⟨p, cap, rfl, -⟩ := hK.slice
  obtain ⟨n, hn⟩ : ∃ n, n = x.ks.length := ⟨_, rfl⟩
  rw [← hn] at hK ⊢
  obtain ⟨R, hR⟩ : ∃ R, R = AnsR 0 (movI x c d) w := ⟨_, rfl⟩
  have hRe : ∀ e w', R e w' ↔ AnsR 0 (movI x c d) w e w' := by rw [hR]; exact fun _ _ => Iff.rfl
  rw [← hR]
  obtain ⟨wB, hwB⟩ : ∃ wB, wB = (w.alloc (.cells #[.int .i64 x.a.k, .int .i64 x.a.w, .int .i64 x.a.c, .int .i64 x.a.s, .slice p n cap] 24)).alloc (.cells #[.int .i64 0, .int .i64 0, .int .i64 0, .int .i64 0, .slice none 0 0] 24) := ⟨_, rfl⟩
  have hb0 : Below w.heap.size w wB := by rw [hwB]; exact ((Below.refl w.heap.size w).alloc (Nat.le_refl _) _).alloc (by simp) _
  have hq1 : Blk wB w.heap.size 24 #[.int .i64 x.a.k, .int .i64 x.a.w, .int .i64 x.a.c, .int .i64 x.a.s, .slice p n cap] := by rw [hwB]; exact (Blk.new w 24 _).alloc _
  have hq2 : Blk wB (w.heap.size + 1) 24 #[.int .i64 0, .int .i64 0, .int .i64 0, .int .i64 0, .slice none 0 0] := by
    rw [hwB]; have := Blk.new (w.alloc (.cells #[.int .i64 x.a.k, .int .i64 x.a.w, .int .i64 x.a.c, .int .i64 x.a.s, .slice p n cap] 24)) 24 #[.int .i64 0, .int .i64 0, .int .i64 0, .int .i64 0, .slice none 0 0]; rwa [World.size_alloc] at this
  have HF := Lib.hid (wfind_c x (.slice p n cap) c d wB (hK.next hb0).all hsm.wide hsm.ht)
  have HC := Lib.hid (fun (W : World) (h : Below w.heap.size w W) => copy_c (fun b => b < w.heap.size) x (.slice p n cap) W (hK.same (fun _ h => h) h.size fun b _ hl => h.block b hl) hsm.wd)
  have HB := Lib.hid hb0
  have HQ1 := Lib.hid hq1
  have HQ2 := Lib.hid hq2
  have HWB := Lib.hid hwB
  have HRE := Lib.hid hRe
  have HS := Lib.hid hsm
  have HCN := Lib.hid hcn
  have hs1 : w.heap.size + 1 < wB.heap.size := hq2.lt
  obtain ⟨⟨b0, b1, b2, b3, b4⟩, -⟩ := c5 hq1
  clear hb0 hq1 hq2 hwB hK hn hR hRe hsm hcn
  show Calls Try.prog 50 #[.agg #[.int .i64 x.a.k, .int .i64 x.a.w, .int .i64 x.a.c, .int .i64 x.a.s, .slice p n cap], .int .i64 c, .int .i64 d] w R
  go_enter Try.func50, Try.ntmps50
  go_upto_region 1 with fail
  rw [← HWB.out]
  go_wp2_with fail
  refine HF.out.mono ?_
  rintro e w1 ⟨hb, hh⟩
  have HB1 := Lib.hid (HB.out.trans (hb.mono HB.out.size))
  have HQ11 := Lib.hid (HQ1.out.next hb)
  have HQ21 := Lib.hid (HQ2.out.next hb)
  have HS1 : Hid (w.heap.size + 1 < w1.heap.size) := Nat.lt_of_lt_of_le hs1 hb.size
  clear hb HF HB HQ1 HQ2 HWB b0 b1 b2 b3 b4 hs1
  obtain ⟨⟨b0, b1, b2, b3, b4⟩, -⟩ := c5 HQ11.out
  rcases hh with ⟨h0, rfl⟩ | ⟨h0, u, vw, hu, hfi, rfl, hv⟩
  · have hRe := HRE.out
    rw [movI_no h0] at hRe
    have HR := Lib.hid hRe
    obtain ⟨a, ha⟩ : ∃ a, a = askW x c d := ⟨_, rfl⟩
    rw [← ha] at h0 HR ⊢
    have hne : (a == 0) = false := by simpa using h0
    have HNE := Lib.hid h0
    obtain ⟨⟨r0, r1, r2, r3, r4⟩, ⟨f0, f1, f2, f3, f4⟩⟩ := c5 HQ21.out
    clear ha h0 hRe HRE
    go_wp2_with fail
    obtain ⟨hb5, hq5, -⟩ := st5_next HB1.out (by omega) HQ21.out (.int .i64 0) (.int .i64 0) (.int .i64 0) (.int .i64 0) (.slice none 0 0)
    obtain ⟨wF, hwF⟩ : ∃ wF, wF = st5 w1 (w.heap.size + 1) (.int .i64 0) (.int .i64 0) (.int .i64 0) (.int .i64 0) (.slice none 0 0) := ⟨_, rfl⟩
    rw [← hwF] at hb5 hq5
    unfold st5 at hwF
    rewrite [← hwF]
    obtain ⟨⟨b0, b1, b2, b3, b4⟩, -⟩ := c5 hq5
    exact bodyPost_ret (v := .tuple #[zeroC, .int .i64 a]) (by simp [results, Try.results50, go_sem, b0, b1, b2, b3, b4]) rfl ((HR.out _ _).2 ⟨zeroT, none, 0, 0, rfl, KV.nil _ _ none 0, by rw [if_neg HNE.out], hb5⟩)
  obtain ⟨-, -, htr, hhb⟩ := askW_zero h0
  have hRe := HRE.out
  rw [movI_at h0 hfi] at hRe
  obtain ⟨y, hy, hyk, hyc, hyks, hun, hysh⟩ := hu.leaf htr
  obtain ⟨u0, i, rfl⟩ : ∃ u0 i, u = u0 ++ [i] := by
    rcases List.eq_nil_or_concat u with h | ⟨a, b, h⟩
    · exact absurd h hun
    · exact ⟨a, b, by rw [h, List.concat_eq_append]⟩
  obtain ⟨P9, hP9, hPs9⟩ := get_prefix hy
  have hPy : P9.ks[i]? = some y := by
    obtain ⟨a, ks⟩ := P9
    obtain ⟨z, hz, hz2⟩ := get_consP hPs9
    simp only [Co.get] at hz2
    rw [← Option.some.inj hz2]; exact hz
  have hlen8 : (u0 ++ [i]).length ≤ 100000 := by
    have := ht_get hy
    have := HS.out.ht
    have h9 : (u0 ++ [i]).length ≤ 8 := by
      have := leaf_shape hysh hyk
      exact this.1
    omega
  obtain ⟨q, cu, rfl⟩ := hv.slice
  obtain ⟨m, hm⟩ : ∃ m, m = (u0 ++ [i]).length := ⟨_, rfl⟩
  rw [← hm] at hlen8
  have HV := Lib.hid hv
  have HM := Lib.hid hm
  have HUW := Lib.hid hu
  have HY := Lib.hid hy
  have HYK := Lib.hid (And.intro hyk (And.intro hyc hyks))
  have HTR := Lib.hid htr
  have HHB := Lib.hid hhb
  have HP9 := Lib.hid hP9
  have HPY := Lib.hid hPy
  have HR0 := Lib.hid hRe
  rw [← hm]
  clear h0 hfi hu hv hm htr hhb hRe HRE hy hyk hyc hyks hun hysh hP9 hPs9 hPy
  go_wp2_with fail
  refine (HC.out w1 HB1.out).mono ?_
  rintro e w2 ⟨t, rfl, het, hot, hnt, hbt, hB2⟩
  obtain ⟨pt, ct, hst⟩ : ∃ pt ct, slA t = .slice pt t.ks.length ct := slV_slice _ _ _
  obtain ⟨nt, hntl⟩ : ∃ nt, nt = t.ks.length := ⟨_, rfl⟩
  rw [← hntl] at hst
  rw [hst]
  obtain ⟨w3, hw3⟩ : ∃ w3, w3 = w2.alloc (.cells #[.int .i64 x.a.k, .int .i64 x.a.w, .int .i64 x.a.c, .int .i64 x.a.s, .slice pt nt ct] 24) := ⟨_, rfl⟩
  have hB23 : Below w2.heap.size w2 w3 := by rw [hw3]; exact (Below.refl _ _).alloc (Nat.le_refl _) _
  have hB13 := hB2.trans (hB23.mono hB2.size)
  have hB3 := HB1.out.trans (hB13.mono HB1.out.size)
  have had : t.a.d = x.a := by rw [← het, era_a]
  have hroot : Root w1.heap.size w3 w2.heap.size t := by
    have h := Root.made (N := w1.heap.size) hot hnt hbt hB2.size
    rw [had, hst] at h
    rw [hw3]; exact h
  obtain ⟨rr, hrr⟩ : ∃ r, r = w2.heap.size := ⟨_, rfl⟩
  rw [← hrr] at hroot
  obtain ⟨P, hP, heP⟩ := era_find het HP9.out
  obtain ⟨s, hs, hes⟩ := era_find het HY.out
  have hPk : P.ks[i]? = some s := by
    obtain ⟨Q, hQ, hQs⟩ := get_prefix hs
    rw [hP] at hQ
    have hQ := Option.some.inj hQ
    subst hQ
    obtain ⟨a, ks⟩ := P
    obtain ⟨z, hz, hz2⟩ := get_consP hQs
    simp only [Co.get] at hz2
    rw [← Option.some.inj hz2]; exact hz
  have hPP := held_path hroot.held hP
  have hPh := hroot.held.get hP
  have e0 := hPh.cells 0 _ rfl
  have e4 := hPh.cells 4 _ rfl
  rw [slA_some hPk] at e4
  simp only [Nat.add_zero] at e0
  have hni := hroot.loc_not hP
  have hlP := hPh.lt
  obtain ⟨L1, hL1⟩ : ∃ L, L = loc rr 0 t u0 := ⟨_, rfl⟩
  have HL1 := Lib.hid hL1
  rw [← hL1] at hPP e0 e4 hni hlP
  obtain ⟨bP, oP⟩ := L1
  have hil := (List.getElem?_eq_some_iff.1 hPk).1
  have hPl : P9.ks.length = P.ks.length := by rw [← heP, era_ks, List.length_map]
  have hPa : P9.a = P.a.d := by rw [← heP, era_a]
  obtain ⟨n1, hn1⟩ : ∃ z, z = P.ks.length := ⟨_, rfl⟩
  obtain ⟨g1, hg1⟩ : ∃ z, z = P.a.g := ⟨_, rfl⟩
  obtain ⟨c1, hc1⟩ : ∃ z, z = P.a.cap := ⟨_, rfl⟩
  rw [← hn1, ← hg1, ← hc1] at e4
  rw [← hn1] at hil
  have hnf : n1 ≤ 100000 := by rw [hn1, ← hPl]; exact (HS.out.f _ _ HP9.out).2
  obtain ⟨br, hbr⟩ : ∃ b, b = besI P.a.d.k n1 i d := ⟨_, rfl⟩
  have hVv := HV.out.next hB13
  have HCUT := Lib.hid (cut_p _ _ _ bP oP u0 i (.slice q m cu) w3 hPP (by rw [HM.out]; exact hVv : WV w3 (fun _ => True) (u0 ++ [i]) (.slice q m cu)))
  have HBS := Lib.hid (fun (W : World) (h0 : W.cell? ⟨bP, oP, none⟩ = some (.int .i64 P.a.d.k)) (h4 : W.cell? ⟨bP, oP + 4, none⟩ = some (.slice (some ⟨g1, 0, none⟩) n1 c1)) => beside_c bP oP P.a.d.k n1 c1 (some ⟨g1, 0, none⟩) i d W h0 h4 hil (by omega))
  rw [← hbr] at HBS
  have HBR0 := Lib.hid hbr
  have HRT := Lib.hid hroot
  have HB3 := Lib.hid hB3
  have HQ23 := Lib.hid (HQ21.out.next hB13)
  have HVV := Lib.hid hVv
  have HET := Lib.hid het
  have HST := Lib.hid hst
  have HAD := Lib.hid had
  have HGP := Lib.hid (And.intro hn1 (And.intro hg1 hc1))
  have HPL := Lib.hid (And.intro hPl hPa)
  have HP := Lib.hid hP
  have HPK := Lib.hid hPk
  have HSS := Lib.hid (And.intro hs hes)
  have HEP := Lib.hid heP
  have HNI := Lib.hid hni
  have HIL := Lib.hid hil
  have HN1 : Hid (w1.heap.size ≤ w3.heap.size) := hB13.size
  have hbt2 : ∀ b ∈ blks t, w1.heap.size ≤ b := hbt
  have HBT := Lib.hid hbt2
  have HRR : Hid (w1.heap.size ≤ rr) := by show _ ≤ _; rw [hrr]; exact hB2.size
  have HNF := Lib.hid hnf
  have HW3 := Lib.hid hw3
  have HRR2 := Lib.hid hrr
  clear hw3 hrr het hot hnt hbt hB2 hntl hst hB23 hB13 hB3 had hroot hP heP hs hes hPk hPP hPh hni hL1 hil hPl hPa hn1 hg1 hc1 hnf hbr hVv hbt2 HQ21 HV HC HQ11 b0 b1 b2 b3 b4
  go_upto_region 5 with fail
  rw [← HW3.out, ← HRR2.out]
  clear HW3 HRR2
  go_wp2_with fail
  refine HCUT.out.mono ?_
  rintro e w4 ⟨rfl, m4, hw4⟩
  have hb4 : Below w3.heap.size w3 w4 := by rw [hw4]; exact below_drewN (Below.refl _ _) m4
  have hcc : ∀ p, w4.cell? p = w3.cell? p := fun p => by rw [hw4]; rfl
  rw [← hcc] at e0 e4
  have HBR := Lib.hid (HB3.out.trans (hb4.mono HB3.out.size))
  have HQR := Lib.hid (HQ23.out.next hb4)
  have HRTR := Lib.hid (HRT.out.next hb4)
  have HVR := Lib.hid (HVV.out.next hb4)
  have HN4 : Hid (w1.heap.size ≤ w4.heap.size) := Nat.le_trans HN1.out hb4.size
  have hlP4 : bP < w4.heap.size := Nat.lt_of_lt_of_le hlP hb4.size
  clear hw4 hb4 hcc HCUT HB3 HQ23 HRT HVV HN1 hlP
  obtain ⟨wr, hwr⟩ : ∃ w9, w9 = w4 := ⟨_, rfl⟩
  subst hwr
  go_wp2_with fail
  refine (HBS.out wr e0 e4).mono ?_
  rintro e w5 ⟨rfl, rfl⟩
  have hs1 := HS1.out
  cases br with
  | none =>
    have hm0 := movAt_none (c := c) (d := d) HP9.out HPY.out (by rw [HPL.out.2, HPL.out.1, ← HGP.out.1]; exact HBR0.out.symm)
    have hRe := HR0.out
    rw [hm0, ← HM.out] at hRe
    have hht : ht x ≤ 800000 := by have := (pre_bounds x []).2.1; have := HS.out.n5; omega
    have hwd : wd x ≤ 80000 := by have := (pre_bounds x []).2.2; have := HS.out.n5; omega
    have hnd := HRTR.out.nodup
    rw [blks_top, List.nodup_cons] at hnd
    have hcall := out_c w1.heap.size (fun _ => True) x t (u0 ++ [i]) (.slice q m cu) c d y wr HRTR.out.held.own hnd.2 HBT.out HN4.out HET.out (by rw [HM.out]; exact HVR.out) HUW.out HY.out HTR.out HS.out.f hht hwd (by rw [← HM.out]; exact hlen8)
    rw [HST.out, HAD.out, ← HM.out] at hcall
    have HOUT := Lib.hid hcall
    have hfo := out_fine (c := c) (se := y.a.s) (d := d) HS.out.f HTR.out HUW.out (by have := (HS.out.f _ _ HY.out).1.2.2.1; rw [HYK.out.2.1] at this; exact this) (HS.out.f _ _ HY.out).1.2.2.2 (m - 1) (by rw [HM.out]; simp)
    obtain ⟨rO, hrO⟩ : ∃ r, r = outN x (u0 ++ [i]) c y.a.s d (m - 1) := ⟨_, rfl⟩
    rw [← hrO] at hRe HOUT hfo
    have HR := Lib.hid hRe
    have HFO := Lib.hid hfo
    have hcr := root_cells HRTR.out
    rw [HST.out, HAD.out] at hcr
    obtain ⟨m0, m1, m2, m3, m4⟩ := hcr
    clear hm0 hRe hht hwd hnd hcall hfo hrO HR0 e0 e4 hlP4
    simp only [besV]
    go_upto_region 8 with fail
    go_wp2_with fail
    refine HOUT.out.mono ?_
    rintro e w6 ⟨hT, hb⟩
    have hq6 : Blk w6 (w.heap.size + 1) 24 #[.int .i64 0, .int .i64 0, .int .i64 0, .int .i64 0, .slice none 0 0] := (hb.block _ HS1.out).trans HQR.out
    have HB6 := Lib.hid (HBR.out.trans (hb.mono (Nat.le_of_lt (Nat.lt_of_succ_lt HS1.out))))
    have HQ6 := Lib.hid hq6
    obtain ⟨⟨r0, r1, r2, r3, r4⟩, ⟨f0, f1, f2, f3, f4⟩⟩ := c5 hq6
    clear hb hq6 HOUT m0 m1 m2 m3 m4
    rcases hT with ⟨h0, rfl⟩ | ⟨h0, t9, ho9, hn9, hg9, he9, rfl⟩
    · obtain ⟨er, her⟩ : ∃ z, z = rO.2 := ⟨_, rfl⟩
      rw [← her] at h0 ⊢
      have HER := Lib.hid her
      have HE0 := Lib.hid h0
      clear her h0
      go_wp2_with fail
      obtain ⟨hb5, hq5, -⟩ := st5_next HB6.out (by omega) HQ6.out (.int .i64 0) (.int .i64 0) (.int .i64 0) (.int .i64 0) (.slice none 0 0)
      obtain ⟨wF, hwF⟩ : ∃ wF, wF = st5 w6 (w.heap.size + 1) (.int .i64 0) (.int .i64 0) (.int .i64 0) (.int .i64 0) (.slice none 0 0) := ⟨_, rfl⟩
      rw [← hwF] at hb5 hq5
      unfold st5 at hwF
      rewrite [← hwF]
      obtain ⟨⟨b0, b1, b2, b3, b4⟩, -⟩ := c5 hq5
      exact bodyPost_ret (v := .tuple #[zeroC, .int .i64 er]) (by simp [results, Try.results50, go_sem, b0, b1, b2, b3, b4]) rfl ((HR.out _ _).2 ⟨zeroT, none, 0, 0, by rw [← HER.out]; rfl, KV.nil _ _ none 0, by rw [← HER.out, if_neg HE0.out], hb5⟩)
    · obtain ⟨pz, cz, hsz⟩ : ∃ pz cz, slA t9 = .slice pz t9.ks.length cz := slV_slice _ _ _
      obtain ⟨nz, hnz⟩ : ∃ nz, nz = t9.ks.length := ⟨_, rfl⟩
      rw [← hnz] at hsz
      rw [hsz]
      have hni9 : (w.heap.size + 1) ∉ blks t9 := fun hm => by have := hg9 _ hm; omega
      have hTL : TellR w.heap.size rO (.returned (.tuple #[conV t9.a.d (.slice pz nz cz), .int .i64 0])) (st5 w6 (w.heap.size + 1) (.int .i64 t9.a.d.k) (.int .i64 t9.a.d.w) (.int .i64 t9.a.d.c) (.int .i64 t9.a.d.s) (.slice pz nz cz)) :=
        .inr ⟨h0, t9, ho9.same fun b hb => far_st5 w6 (w.heap.size + 1) _ _ _ _ _ b (fun e => hni9 (e ▸ hb)), hn9, fun b hb => by have := hg9 b hb; omega, he9, by rw [hsz]⟩
      obtain ⟨hbF, hqF, -⟩ := st5_next HB6.out (by omega) HQ6.out (.int .i64 t9.a.d.k) (.int .i64 t9.a.d.w) (.int .i64 t9.a.d.c) (.int .i64 t9.a.d.s) (.slice pz nz cz)
      obtain ⟨tb, htb⟩ : ∃ ta, ta = t9.a.d := ⟨_, rfl⟩
      rw [← htb] at hTL hbF hqF ⊢
      obtain ⟨wF, hwF⟩ : ∃ wF, wF = st5 w6 (w.heap.size + 1) (.int .i64 tb.k) (.int .i64 tb.w) (.int .i64 tb.c) (.int .i64 tb.s) (.slice pz nz cz) := ⟨_, rfl⟩
      rw [← hwF] at hbF hqF hTL
      have HBF := Lib.hid hbF
      have HQF := Lib.hid hqF
      have HTL := Lib.hid hTL
      have HWF := Lib.hid hwF
      clear hsz hnz hni9 hTL hbF hqF htb hwF h0 ho9 hn9 hg9 he9
      go_wp2_with fail
      have hwF := HWF.out
      unfold st5 at hwF
      rewrite [← hwF]
      obtain ⟨⟨b0, b1, b2, b3, b4⟩, -⟩ := c5 HQF.out
      exact bodyPost_ret (v := .tuple #[.agg #[.int .i64 tb.k, .int .i64 tb.w, .int .i64 tb.c, .int .i64 tb.s, .slice pz nz cz], .int .i64 0]) (by simp [results, Try.results50, go_sem, b0, b1, b2, b3, b4]) rfl ((HR.out _ _).2 (HTL.out.ans HBF.out HFO.out))
  | some j =>
    obtain ⟨hjn, -⟩ := besI_lt HBR0.out.symm HIL.out
    obtain ⟨aP, ksP⟩ := P
    simp only [Tr.a_mk, Tr.ks_mk] at HPK HGP HPL e0
    obtain ⟨Q, hQ⟩ : ∃ Q, ksP[j]? = some Q := ⟨_, List.getElem?_eq_getElem (by rw [← HGP.out.1]; exact hjn)⟩
    have hPz : P9.ks[j]? = some (era Q) := by rw [← HEP.out, era_ks, List.getElem?_map]; show (ksP[j]?).map era = _; rw [hQ]; rfl
    have hbb : besI P9.a.k P9.ks.length i d = some j := by rw [HPL.out.2, HPL.out.1, ← HGP.out.1]; exact HBR0.out.symm
    have hPh := HRTR.out.held.get HP.out
    obtain ⟨hoQ, hgQ, hcQ⟩ := hPh.own.kid hQ
    obtain ⟨-, -, hcS⟩ := hPh.own.kid HPK.out
    rw [← HGP.out.2.1] at hcQ hcS hgQ
    have hsk : s.ks = [] := leaf_ks9 (by rw [HSS.out.2]; exact HYK.out.2.2)
    have hss : slA s = .slice none 0 0 := by unfold slA slV; rw [hsk]; rfl
    have p0 := hcS 0 _ rfl
    have p1 := hcS 1 _ rfl
    have p2 := hcS 2 _ rfl
    have p3 := hcS 3 _ rfl
    have p4 := hcS 4 _ rfl
    rw [hss] at p4
    have q0 := hcQ 0 _ rfl
    have q1 := hcQ 1 _ rfl
    have q2 := hcQ 2 _ rfl
    have q3 := hcQ 3 _ rfl
    have q4 := hcQ 4 _ rfl
    obtain ⟨pq, cq, hsq⟩ : ∃ pk ck, slA Q = .slice pk Q.ks.length ck := slV_slice _ _ _
    obtain ⟨nq, hnq⟩ : ∃ z, z = Q.ks.length := ⟨_, rfl⟩
    rw [← hnq] at hsq
    rw [hsq] at q4
    simp only [Nat.add_zero] at p0 q0
    obtain ⟨qa, hqa⟩ : ∃ z, z = Q.a.d := ⟨_, rfl⟩
    obtain ⟨pa, hpa⟩ : ∃ z, z = s.a.d := ⟨_, rfl⟩
    rw [← hqa] at q0 q1 q2 q3
    rw [← hpa] at p0 p1 p2 p3
    have hpy : pa = y.a := by rw [hpa, ← era_a, HSS.out.2]
    have hgt : get t (u0 ++ [j]) = some Q := by rw [get_append _ HP.out]; simp only [get]; rw [hQ]
    have hgx : get x (u0 ++ [j]) = some (era Q) := by rw [← HET.out, era_get, hgt]; rfl
    have hg1m : g1 ∈ blks (.mk aP ksP : ATr) := by rw [HGP.out.2.1]; exact own_in (s := .mk aP ksP) (by have := (List.getElem?_eq_some_iff.1 hQ).1; simp only [Tr.ks_mk]; omega)
    have hbn : bP ≠ g1 := fun e => HNI.out (e ▸ hg1m)
    have hij : (i : Int) < (n1 : Int) := by have := HIL.out; omega
    have hi0 : (0 : Int) ≤ (i : Int) := by omega
    have hj1 : (j : Int) < (n1 : Int) := by omega
    have hj0 : (0 : Int) ≤ (j : Int) := by omega
    simp only [besV]
    by_cases hk : qa.k = 0
    · have hm0 := movAt_swap (c := c) (d := d) HP9.out HPY.out hbb hPz (by rw [era_a, ← hqa]; exact hk)
      have hRe := HR0.out
      rw [hm0] at hRe
      have hQk : Q.ks = [] := leaf_ks9 (shape_leaf (shape_get (tree_parts HTR.out).1 hgx) (by rw [era_a, ← hqa]; exact hk))
      have hq4' : Value.slice pq nq cq = .slice none 0 0 := by rw [← hsq]; unfold slA slV; rw [hQk]; rfl
      rw [hq4'] at q4
      have hli : loc rr 0 t (u0 ++ [i]) = (g1, i * 5) := by rw [loc_append _ HP.out, loc_cons (show ksP[i]? = some s from HPK.out), HGP.out.2.1]; rfl
      have hlj : loc rr 0 t (u0 ++ [j]) = (g1, j * 5) := by rw [loc_append _ HP.out, loc_cons hQ, HGP.out.2.1]; rfl
      have hne : u0 ++ [i] ≠ u0 ++ [j] := fun e => by
        have e := List.append_cancel_left e
        have e : i = j := List.head_eq_of_cons_eq e
        have := (besI_lt HBR0.out.symm HIL.out).2.2
        omega
      have hsw := HRTR.out.swap2 HSS.out.1 hgt hsk hQk hne HN4.out
      rw [hli, hlj, ← hqa, ← hpa] at hsw
      obtain ⟨-, hsc, hsr⟩ := hsw
      have hera := swap2_era HET.out HSS.out.1 hgt hsk hQk hne HSS.out.2 rfl
      rw [← hqa, ← hpa] at hera
      have hsK := swapK_eq (y := y) (z := era Q) HP9.out (i := i) (j := j) (List.getElem?_eq_some_iff.1 HPY.out).1 (List.getElem?_eq_some_iff.1 hPz).1
      have hfs := swapK_fine HS.out.f HP9.out HPY.out hPz
      obtain ⟨SK, hSK⟩ : ∃ z, z = swapK x u0 P9 i j y (era Q) := ⟨_, rfl⟩
      rw [← hSK] at hRe hsK hfs
      rw [← hsK] at hera
      have hbl9 : ∀ b, b ∈ blks (put (put t (u0 ++ [i]) (.mk ⟨qa, s.a.g, s.a.cap⟩ [])) (u0 ++ [j]) (.mk ⟨pa, Q.a.g, Q.a.cap⟩ [] : ATr)) → w1.heap.size ≤ b := fun b hb => by
        have := hsr.ge b (by rw [blks_top, List.mem_cons]; exact .inr hb)
        exact this
      have hgw : w1.heap.size ≤ g1 := HBT.out g1 (blks_get HP.out g1 hg1m)
      have hfr : ∀ k, wr.frozen? ⟨g1, k, none⟩ = false := fun k => by
        have := (HRTR.out.held.get HSS.out.1).free k
        rw [hli] at this
        exact this
      have HE4S : Hid (∀ wS, wS = wL wr g1 (i * 5) (.int .i64 qa.k) (.int .i64 qa.w) (.int .i64 qa.c) (.int .i64 qa.s) (.slice none 0 0) → wS.cell? ⟨bP, oP + 4, none⟩ = some (.slice (some ⟨g1, 0, none⟩) n1 c1)) := fun wS h => by
        rw [h]; exact (cell_same (wL_far wr g1 (i * 5) _ _ _ _ _ bP hbn) _).trans e4
      have HCJS : Hid (∀ wS, wS = wL wr g1 (i * 5) (.int .i64 qa.k) (.int .i64 qa.w) (.int .i64 qa.c) (.int .i64 qa.s) (.slice none 0 0) → wS.cell? ⟨g1, j * 5, none⟩ = some (.int .i64 qa.k) ∧ wS.cell? ⟨g1, j * 5 + 1, none⟩ = some (.int .i64 qa.w) ∧ wS.cell? ⟨g1, j * 5 + 2, none⟩ = some (.int .i64 qa.c) ∧ wS.cell? ⟨g1, j * 5 + 3, none⟩ = some (.int .i64 qa.s) ∧ wS.cell? ⟨g1, j * 5 + 4, none⟩ = some (.slice none 0 0)) := fun wS h => by
        subst h; exact ⟨hsc 0 _ rfl, hsc 1 _ rfl, hsc 2 _ rfl, hsc 3 _ rfl, hsc 4 _ rfl⟩
      have HFJS : Hid (∀ wS, wS = wL wr g1 (i * 5) (.int .i64 qa.k) (.int .i64 qa.w) (.int .i64 qa.c) (.int .i64 qa.s) (.slice none 0 0) → ∀ k, wS.frozen? ⟨g1, k, none⟩ = false) := fun wS h k => by
        subst h; unfold wL; rw [frozen_set, frozen_set, frozen_set, frozen_set, frozen_set]; exact hfr k
      have HFINS : Hid (∀ wS, wS = wL wr g1 (i * 5) (.int .i64 qa.k) (.int .i64 qa.w) (.int .i64 qa.c) (.int .i64 qa.s) (.slice none 0 0) → ∀ wU, wU = wL wS g1 (j * 5) (.int .i64 pa.k) (.int .i64 pa.w) (.int .i64 pa.c) (.int .i64 pa.s) (.slice none 0 0) →
          (∃ t9, Root w1.heap.size wU.drew rr t9 ∧ era t9 = SK ∧ (w.heap.size + 1) ∉ blks t9 ∧ Below w.heap.size w wU.drew ∧ Blk wU.drew (w.heap.size + 1) 24 #[.int .i64 0, .int .i64 0, .int .i64 0, .int .i64 0, .slice none 0 0]) ∧ wU.cell? ⟨bP, oP + 4, none⟩ = some (.slice (some ⟨g1, 0, none⟩) n1 c1)) := fun wS h wU h2 => by
        have hfar : ∀ b, b ≠ g1 → wU.heap[b]? = wr.heap[b]? := fun b hb => by
          rw [h2, wL_far _ _ _ _ _ _ _ _ b hb, h, wL_far _ _ _ _ _ _ _ _ b hb]
        have hsz : wU.heap.size = wr.heap.size := by rw [h2, wL_size, h, wL_size]
        refine ⟨⟨_, by rw [h2, h]; exact hsr.drew, hera, fun hm => ?_, ?_, ?_⟩, (cell_same (hfar bP hbn) _).trans e4⟩
        · have := hbl9 _ hm; omega
        · have h0 := HBR.out
          refine Below.drew ⟨?_, ?_, ?_, by rw [hsz]; exact h0.size, fun b hb => ?_⟩
          · rw [h2, h, wL_os, wL_os]; exact h0.os
          · rw [h2, h, wL_tape, wL_tape]; exact h0.tape
          · rw [h2, h, wL_output, wL_output]; exact h0.output
          · rw [hfar b (by omega), h0.block b hb]
        · exact Blk.drew ((hfar _ (by omega)).trans HQR.out)
      have HR := Lib.hid hRe
      have HFS := Lib.hid hfs
      have hqk0 : (qa.k == 0) = true := by simpa using hk
      clear hm0 hRe hQk hq4' hli hlj hne hsc hsr hera hsK hfs hSK hbl9 hgw hcQ hcS hoQ hgQ hPh hsk hss hsq hnq hqa hpa hpy hgt hgx hg1m hPz hbb hQ hk HR0 hjn hbn
      go_upto_region 10 with fail
      go_cut [] (fun wx => ∃ t9, Root w1.heap.size wx rr t9 ∧ era t9 = SK ∧ (w.heap.size + 1) ∉ blks t9 ∧ Below w.heap.size w wx ∧ Blk wx (w.heap.size + 1) 24 #[.int .i64 0, .int .i64 0, .int .i64 0, .int .i64 0, .slice none 0 0])
      case first =>
              refine wp_region_noPanic ?_
              refine wp_region_held_drew (S := fun wx => wx.cell? ⟨bP, oP + 4, none⟩ = some (.slice (some ⟨g1, 0, none⟩) n1 c1)) (by kernel_rfl) (by exact e4) (fun hHeld => ?_)
              refine wpAnyH_take (i := 0) (v := ?vs0) rfl (by kernel_rfl) (by kernel_rfl) (by kernel_rfl) (fun _ _ _ h => h) (Or.inl ⟨by kernel_rfl, ?ys0⟩) (by assumption) ?rs0
              case ys0 => (intro wq hSw; (try dsimp only at hSw); go_simp; (try with_reducible rfl))
              (try simp only [Act.put, List.getElem_toArray, List.getElem_cons_zero, List.setIfInBounds_toArray, List.set_cons_zero, List.set_cons_succ])
              refine wpAnyH_take (i := 1) (v := ?vs1) rfl (by kernel_rfl) (by kernel_rfl) (by kernel_rfl) (fun _ _ _ h => h) (Or.inl ⟨by kernel_rfl, ?ys1⟩) (by assumption) ?rs1
              case ys1 => (intro wq hSw; (try dsimp only at hSw); go_simp; (try with_reducible rfl))
              (try simp only [Act.put, List.getElem_toArray, List.getElem_cons_succ, List.getElem_cons_zero, List.setIfInBounds_toArray, List.set_cons_zero, List.set_cons_succ])
              refine wpAnyH_take (i := 2) (v := ?vs2) rfl (by kernel_rfl) (by kernel_rfl) (by kernel_rfl) (fun _ _ _ h => h) (Or.inl ⟨by kernel_rfl, ?ys2⟩) (by assumption) ?rs2
              case ys2 => (intro wq hSw; (try dsimp only at hSw); go_simp; (try with_reducible rfl))
              (try simp only [Act.put, List.getElem_toArray, List.getElem_cons_succ, List.getElem_cons_zero, List.setIfInBounds_toArray, List.set_cons_zero, List.set_cons_succ])
              refine wpAnyH_take (i := 3) (v := ?vs3) rfl (by kernel_rfl) (by kernel_rfl) (by kernel_rfl) (fun _ _ _ h => h) (Or.inl ⟨by kernel_rfl, ?ys3⟩) (by assumption) ?rs3
              case ys3 => (intro wq hSw; (try dsimp only at hSw); go_simp; (try with_reducible rfl))
              (try simp only [Act.put, List.getElem_toArray, List.getElem_cons_succ, List.getElem_cons_zero, List.setIfInBounds_toArray, List.set_cons_zero, List.set_cons_succ])
              refine wpAnyH_take (i := 4) (v := ?vs4) rfl (by kernel_rfl) (by kernel_rfl) (by kernel_rfl) (fun _ _ _ h => h) (Or.inl ⟨by kernel_rfl, ?ys4⟩) (by assumption) ?rs4
              case ys4 => (intro wq hSw; (try dsimp only at hSw); go_simp; (try with_reducible rfl))
              (try simp only [Act.put, List.getElem_toArray, List.getElem_cons_succ, List.getElem_cons_zero, List.setIfInBounds_toArray, List.set_cons_zero, List.set_cons_succ])
              refine wpAnyH_take (i := 5) (v := ?vs5) rfl (by kernel_rfl) (by kernel_rfl) (by kernel_rfl) (fun _ _ _ h => h) (Or.inl ⟨by kernel_rfl, ?ys5⟩) (by assumption) ?rs5
              case ys5 => (intro wq hSw; (try dsimp only at hSw); go_simp; (try with_reducible rfl))
              (try simp only [Act.put, List.getElem_toArray, List.getElem_cons_succ, List.getElem_cons_zero, List.setIfInBounds_toArray, List.set_cons_zero, List.set_cons_succ])
              refine wpAnyH_take (i := 6) (v := ?vs6) rfl (by kernel_rfl) (by kernel_rfl) (by kernel_rfl) (fun _ _ _ h => h) (Or.inl ⟨by kernel_rfl, ?ys6⟩) (by assumption) ?rs6
              case ys6 => (intro wq hSw; (try dsimp only at hSw); go_simp; (try with_reducible rfl))
              (try simp only [Act.put, List.getElem_toArray, List.getElem_cons_succ, List.getElem_cons_zero, List.setIfInBounds_toArray, List.set_cons_zero, List.set_cons_succ])
              refine wpAnyH_take (i := 7) (v := ?vs7) rfl (by kernel_rfl) (by kernel_rfl) (by kernel_rfl) (fun _ _ _ h => h) (Or.inl ⟨by kernel_rfl, ?ys7⟩) (by assumption) ?rs7
              case ys7 => (intro wq hSw; (try dsimp only at hSw); go_simp; (try with_reducible rfl))
              (try simp only [Act.put, List.getElem_toArray, List.getElem_cons_succ, List.getElem_cons_zero, List.setIfInBounds_toArray, List.set_cons_zero, List.set_cons_succ])
              refine wpAnyH_take (i := 8) (v := ?vs8) rfl (by kernel_rfl) (by kernel_rfl) (by kernel_rfl) (fun _ _ _ h => h) (Or.inl ⟨by kernel_rfl, ?ys8⟩) (by assumption) ?rs8
              case ys8 => (intro wq hSw; (try dsimp only at hSw); go_simp; (try with_reducible rfl))
              (try simp only [Act.put, List.getElem_toArray, List.getElem_cons_succ, List.getElem_cons_zero, List.setIfInBounds_toArray, List.set_cons_zero, List.set_cons_succ])
              refine wpAnyH_take (i := 10) (v := ?vs10) rfl (by kernel_rfl) (by kernel_rfl) (by kernel_rfl) (fun _ _ _ h => h) (Or.inl ⟨by kernel_rfl, ?ys10⟩) (by assumption) ?rs10
              case ys10 => (intro wq hSw; (try dsimp only at hSw); go_simp; (try with_reducible rfl))
              (try simp only [Act.put, List.getElem_toArray, List.getElem_cons_succ, List.getElem_cons_zero, List.setIfInBounds_toArray, List.set_cons_zero, List.set_cons_succ])
              refine wpAnyH_take (i := 11) (v := ?vs11) rfl (by kernel_rfl) (by kernel_rfl) (by kernel_rfl) (fun _ _ _ h => h) (Or.inl ⟨by kernel_rfl, ?ys11⟩) (by assumption) ?rs11
              case ys11 => (intro wq hSw; (try dsimp only at hSw); go_simp; (try with_reducible rfl))
              (try simp only [Act.put, List.getElem_toArray, List.getElem_cons_succ, List.getElem_cons_zero, List.setIfInBounds_toArray, List.set_cons_zero, List.set_cons_succ])
              refine wpAnyH_take (i := 12) (v := ?vs12) rfl (by kernel_rfl) (by kernel_rfl) (by kernel_rfl) (fun _ _ _ h => h) (Or.inl ⟨by kernel_rfl, ?ys12⟩) (by assumption) ?rs12
              case ys12 => (intro wq hSw; (try dsimp only at hSw); go_simp; (try with_reducible rfl))
              (try simp only [Act.put, List.getElem_toArray, List.getElem_cons_succ, List.getElem_cons_zero, List.setIfInBounds_toArray, List.set_cons_zero, List.set_cons_succ])
              refine wpAnyH_take (i := 13) (v := ?vs13) rfl (by kernel_rfl) (by kernel_rfl) (by kernel_rfl) (fun _ _ _ h => h) (Or.inl ⟨by kernel_rfl, ?ys13⟩) (by assumption) ?rs13
              case ys13 => (intro wq hSw; (try dsimp only at hSw); go_simp; (try with_reducible rfl))
              (try simp only [Act.put, List.getElem_toArray, List.getElem_cons_succ, List.getElem_cons_zero, List.setIfInBounds_toArray, List.set_cons_zero, List.set_cons_succ])
              refine wpAnyH_take (i := 14) (v := ?vs14) rfl (by kernel_rfl) (by kernel_rfl) (by kernel_rfl) (fun _ _ _ h => h) (Or.inl ⟨by kernel_rfl, ?ys14⟩) (by assumption) ?rs14
              case ys14 => (intro wq hSw; (try dsimp only at hSw); go_simp; (try with_reducible rfl))
              (try simp only [Act.put, List.getElem_toArray, List.getElem_cons_succ, List.getElem_cons_zero, List.setIfInBounds_toArray, List.set_cons_zero, List.set_cons_succ])
              refine wpAnyH_take (i := 15) (v := ?vs15) rfl (by kernel_rfl) (by kernel_rfl) (by kernel_rfl) (fun _ _ _ h => h) (Or.inl ⟨by kernel_rfl, ?ys15⟩) (by assumption) ?rs15
              case ys15 => (intro wq hSw; (try dsimp only at hSw); go_simp; (try with_reducible rfl))
              (try simp only [Act.put, List.getElem_toArray, List.getElem_cons_succ, List.getElem_cons_zero, List.setIfInBounds_toArray, List.set_cons_zero, List.set_cons_succ])
              refine wpAnyH_take (i := 17) (v := ?vs17) rfl (by kernel_rfl) (by kernel_rfl) (by kernel_rfl) (fun _ _ _ h => h) (Or.inl ⟨by kernel_rfl, ?ys17⟩) (by assumption) ?rs17
              case ys17 => (intro wq hSw; (try dsimp only at hSw); go_simp; (try with_reducible rfl))
              (try simp only [Act.put, List.getElem_toArray, List.getElem_cons_succ, List.getElem_cons_zero, List.setIfInBounds_toArray, List.set_cons_zero, List.set_cons_succ])
              refine wpAnyH_take (i := 18) (v := ?vs18) rfl (by kernel_rfl) (by kernel_rfl) (by kernel_rfl) (fun _ _ _ h => h) (Or.inl ⟨by kernel_rfl, ?ys18⟩) (by assumption) ?rs18
              case ys18 => (intro wq hSw; (try dsimp only at hSw); go_simp; (try with_reducible rfl))
              (try simp only [Act.put, List.getElem_toArray, List.getElem_cons_succ, List.getElem_cons_zero, List.setIfInBounds_toArray, List.set_cons_zero, List.set_cons_succ])
              refine wpAnyH_take (i := 19) (v := ?vs19) rfl (by kernel_rfl) (by kernel_rfl) (by kernel_rfl) (fun _ _ _ h => h) (Or.inl ⟨by kernel_rfl, ?ys19⟩) (by assumption) ?rs19
              case ys19 => (intro wq hSw; (try dsimp only at hSw); go_simp; (try with_reducible rfl))
              (try simp only [Act.put, List.getElem_toArray, List.getElem_cons_succ, List.getElem_cons_zero, List.setIfInBounds_toArray, List.set_cons_zero, List.set_cons_succ])
              refine wpAnyH_take (i := 20) (v := ?vs20) rfl (by kernel_rfl) (by kernel_rfl) (by kernel_rfl) (fun _ _ _ h => h) (Or.inl ⟨by kernel_rfl, ?ys20⟩) (by assumption) ?rs20
              case ys20 => (intro wq hSw; (try dsimp only at hSw); go_simp; (try with_reducible rfl))
              (try simp only [Act.put, List.getElem_toArray, List.getElem_cons_succ, List.getElem_cons_zero, List.setIfInBounds_toArray, List.set_cons_zero, List.set_cons_succ])
              refine wpAnyH_take (i := 21) (v := ?vs21) rfl (by kernel_rfl) (by kernel_rfl) (by kernel_rfl) (fun _ _ _ h => h) (Or.inl ⟨by kernel_rfl, ?ys21⟩) (by assumption) ?rs21
              case ys21 => (intro wq hSw; (try dsimp only at hSw); go_simp; (try with_reducible rfl))
              (try simp only [Act.put, List.getElem_toArray, List.getElem_cons_succ, List.getElem_cons_zero, List.setIfInBounds_toArray, List.set_cons_zero, List.set_cons_succ])
              refine wpAnyH_take (i := 22) (v := ?vs22) rfl (by kernel_rfl) (by kernel_rfl) (by kernel_rfl) (fun _ _ _ h => h) (Or.inl ⟨by kernel_rfl, ?ys22⟩) (by assumption) ?rs22
              case ys22 => (intro wq hSw; (try dsimp only at hSw); go_simp; (try with_reducible rfl))
              (try simp only [Act.put, List.getElem_toArray, List.getElem_cons_succ, List.getElem_cons_zero, List.setIfInBounds_toArray, List.set_cons_zero, List.set_cons_succ])
              refine wpAnyH_take (i := 9) (v := ?vs9) rfl (by kernel_rfl) (by kernel_rfl) (by kernel_rfl) (fun _ _ _ h => h) (Or.inl ⟨by kernel_rfl, ?ys9⟩) (by assumption) ?rs9
              case ys9 => (intro wq hSw; (try dsimp only at hSw); go_simp; (try with_reducible rfl))
              (try simp only [Act.put, List.getElem_toArray, List.getElem_cons_succ, List.getElem_cons_zero, List.setIfInBounds_toArray, List.set_cons_zero, List.set_cons_succ])
              refine wpAnyH_ready (rs := [16, 23]) (by kernel_rfl) (by simp) ?_
              refine AllReadyH.cons rfl (fun K hK => ?_) (AllReadyH.cons rfl (fun K hK => ?_) AllReadyH.nil)
              · go_simp
                refine hK.out _ _ (by exact e4) (fun hHeld => ?_)
                clear hK K
                (try simp only [Act.put, List.getElem_toArray, List.getElem_cons_succ, List.getElem_cons_zero, List.setIfInBounds_toArray, List.set_cons_zero, List.set_cons_succ])
                refine wpAnyH_ready (rs := [23]) (by kernel_rfl) (by simp) ?_
                refine AllReadyH.cons rfl (fun K hK => ?_) AllReadyH.nil
                go_simp
                refine hK.out _ _ (by exact e4) (fun hHeld => ?_)
                clear hK K
                (try simp only [Act.put, List.getElem_toArray, List.getElem_cons_succ, List.getElem_cons_zero, List.setIfInBounds_toArray, List.set_cons_zero, List.set_cons_succ])
                refine wpAnyH_take (i := 24) (v := ?va24) rfl (by kernel_rfl) (by kernel_rfl) (by kernel_rfl) (fun _ _ _ h => h) (Or.inl ⟨by kernel_rfl, ?ya24⟩) (by assumption) ?ra24
                case ya24 => (intro wq hSw; (try dsimp only at hSw); go_simp; (try with_reducible rfl))
                (try simp only [Act.put, List.getElem_toArray, List.getElem_cons_succ, List.getElem_cons_zero, List.setIfInBounds_toArray, List.set_cons_zero, List.set_cons_succ])
                refine wpAnyH_ready (rs := [25]) (by kernel_rfl) (by simp) ?_
                refine AllReadyH.cons rfl (fun K hK => ?_) AllReadyH.nil
                go_simp
                obtain ⟨wS, hwS⟩ : ∃ wS, wS = wL wr g1 (i * 5) (.int .i64 qa.k) (.int .i64 qa.w) (.int .i64 qa.c) (.int .i64 qa.s) (.slice none 0 0) := ⟨_, rfl⟩
                have e4S := HE4S.out wS hwS
                have HCJ := Lib.hid (HCJS.out wS hwS)
                have HFJ := Lib.hid (HFJS.out wS hwS)
                have HFN := Lib.hid (HFINS.out wS hwS)
                unfold wL at hwS
                rewrite [← hwS]
                clear hwS
                refine hK.out _ _ (by exact e4S) (fun hHeld => ?_)
                clear hK K
                (try simp only [Act.put, List.getElem_toArray, List.getElem_cons_succ, List.getElem_cons_zero, List.setIfInBounds_toArray, List.set_cons_zero, List.set_cons_succ])
                refine wpAnyH_take (i := 26) (v := ?va26) rfl (by kernel_rfl) (by kernel_rfl) (by kernel_rfl) (fun _ _ _ h => h) (Or.inl ⟨by kernel_rfl, ?ya26⟩) (by assumption) ?ra26
                case ya26 => (intro wq hSw; (try dsimp only at hSw); go_simp; (try with_reducible rfl))
                (try simp only [Act.put, List.getElem_toArray, List.getElem_cons_succ, List.getElem_cons_zero, List.setIfInBounds_toArray, List.set_cons_zero, List.set_cons_succ])
                refine wpAnyH_ready (rs := [27]) (by kernel_rfl) (by simp) ?_
                refine AllReadyH.cons rfl (fun K hK => ?_) AllReadyH.nil
                obtain ⟨j0, j1, j2, j3, j4⟩ := HCJ.out
                have jf := HFJ.out
                go_simp
                obtain ⟨wU, hwU⟩ : ∃ wU, wU = wL wS g1 (j * 5) (.int .i64 pa.k) (.int .i64 pa.w) (.int .i64 pa.c) (.int .i64 pa.s) (.slice none 0 0) := ⟨_, rfl⟩
                have hfn := HFN.out wU hwU
                have hS9 := hfn.2
                have HFF := Lib.hid hfn.1
                unfold wL at hwU
                rewrite [← hwU]
                clear hwU hfn j0 j1 j2 j3 j4 jf e4S
                refine hK.out _ _ (by exact hS9) (fun hHeld => ?_)
                clear hK K
                (try simp only [Act.put, List.getElem_toArray, List.getElem_cons_succ, List.getElem_cons_zero, List.setIfInBounds_toArray, List.set_cons_zero, List.set_cons_succ])
                refine wpAnyH_done (by kernel_rfl) ?_ _
                refine NoPanic.normal ?_
                clear hS9 hHeld
                go_wp2_with fail
                go_meet
                exact HFF.out
              · go_simp
                refine hK.out _ _ (by exact e4) (fun hHeld => ?_)
                clear hK K
                (try simp only [Act.put, List.getElem_toArray, List.getElem_cons_succ, List.getElem_cons_zero, List.setIfInBounds_toArray, List.set_cons_zero, List.set_cons_succ])
                refine wpAnyH_ready (rs := [16]) (by kernel_rfl) (by simp) ?_
                refine AllReadyH.cons rfl (fun K hK => ?_) AllReadyH.nil
                go_simp
                refine hK.out _ _ (by exact e4) (fun hHeld => ?_)
                clear hK K
                (try simp only [Act.put, List.getElem_toArray, List.getElem_cons_succ, List.getElem_cons_zero, List.setIfInBounds_toArray, List.set_cons_zero, List.set_cons_succ])
                refine wpAnyH_take (i := 24) (v := ?vb24) rfl (by kernel_rfl) (by kernel_rfl) (by kernel_rfl) (fun _ _ _ h => h) (Or.inl ⟨by kernel_rfl, ?yb24⟩) (by assumption) ?rb24
                case yb24 => (intro wq hSw; (try dsimp only at hSw); go_simp; (try with_reducible rfl))
                (try simp only [Act.put, List.getElem_toArray, List.getElem_cons_succ, List.getElem_cons_zero, List.setIfInBounds_toArray, List.set_cons_zero, List.set_cons_succ])
                refine wpAnyH_ready (rs := [25]) (by kernel_rfl) (by simp) ?_
                refine AllReadyH.cons rfl (fun K hK => ?_) AllReadyH.nil
                go_simp
                obtain ⟨wS, hwS⟩ : ∃ wS, wS = wL wr g1 (i * 5) (.int .i64 qa.k) (.int .i64 qa.w) (.int .i64 qa.c) (.int .i64 qa.s) (.slice none 0 0) := ⟨_, rfl⟩
                have e4S := HE4S.out wS hwS
                have HCJ := Lib.hid (HCJS.out wS hwS)
                have HFJ := Lib.hid (HFJS.out wS hwS)
                have HFN := Lib.hid (HFINS.out wS hwS)
                unfold wL at hwS
                rewrite [← hwS]
                clear hwS
                refine hK.out _ _ (by exact e4S) (fun hHeld => ?_)
                clear hK K
                (try simp only [Act.put, List.getElem_toArray, List.getElem_cons_succ, List.getElem_cons_zero, List.setIfInBounds_toArray, List.set_cons_zero, List.set_cons_succ])
                refine wpAnyH_take (i := 26) (v := ?vb26) rfl (by kernel_rfl) (by kernel_rfl) (by kernel_rfl) (fun _ _ _ h => h) (Or.inl ⟨by kernel_rfl, ?yb26⟩) (by assumption) ?rb26
                case yb26 => (intro wq hSw; (try dsimp only at hSw); go_simp; (try with_reducible rfl))
                (try simp only [Act.put, List.getElem_toArray, List.getElem_cons_succ, List.getElem_cons_zero, List.setIfInBounds_toArray, List.set_cons_zero, List.set_cons_succ])
                refine wpAnyH_ready (rs := [27]) (by kernel_rfl) (by simp) ?_
                refine AllReadyH.cons rfl (fun K hK => ?_) AllReadyH.nil
                obtain ⟨j0, j1, j2, j3, j4⟩ := HCJ.out
                have jf := HFJ.out
                go_simp
                obtain ⟨wU, hwU⟩ : ∃ wU, wU = wL wS g1 (j * 5) (.int .i64 pa.k) (.int .i64 pa.w) (.int .i64 pa.c) (.int .i64 pa.s) (.slice none 0 0) := ⟨_, rfl⟩
                have hfn := HFN.out wU hwU
                have hS9 := hfn.2
                have HFF := Lib.hid hfn.1
                unfold wL at hwU
                rewrite [← hwU]
                clear hwU hfn j0 j1 j2 j3 j4 jf e4S
                refine hK.out _ _ (by exact hS9) (fun hHeld => ?_)
                clear hK K
                (try simp only [Act.put, List.getElem_toArray, List.getElem_cons_succ, List.getElem_cons_zero, List.setIfInBounds_toArray, List.set_cons_zero, List.set_cons_succ])
                refine wpAnyH_done (by kernel_rfl) ?_ _
                refine NoPanic.normal ?_
                clear hS9 hHeld
                go_wp2_with fail
                go_meet
                exact HFF.out
      case rest =>
        obtain ⟨t9, hroot, he9, hni9, hb9, hq9⟩ := hcut
        have HRT9 := Lib.hid hroot
        have HE9 := Lib.hid he9
        have HNI9 := Lib.hid hni9
        have HB9 := Lib.hid hb9
        have HQ9 := Lib.hid hq9
        clear hroot he9 hni9 hb9 hq9
        obtain ⟨w9, hw9⟩ : ∃ w9, w9 = wc := ⟨_, rfl⟩
        subst hw9
        obtain ⟨pz, cz, hsz⟩ : ∃ pz cz, slA t9 = .slice pz t9.ks.length cz := slV_slice _ _ _
        obtain ⟨nz, hnz⟩ : ∃ nz, nz = t9.ks.length := ⟨_, rfl⟩
        rw [← hnz] at hsz
        have hcr := root_cells HRT9.out
        rw [hsz] at hcr
        obtain ⟨m0, m1, m2, m3, m4⟩ := hcr
        obtain ⟨⟨r0, r1, r2, r3, r4⟩, f0, f1, f2, f3, f4⟩ := c5 HQ9.out
        have HTL := Lib.hid (told9 (B := w.heap.size) HRT9.out HE9.out (Nat.le_of_lt (Nat.lt_of_succ_lt HS1.out)) HNI9.out (.int .i64 t9.a.d.k) (.int .i64 t9.a.d.w) (.int .i64 t9.a.d.c) (.int .i64 t9.a.d.s) (.slice pz nz cz))
        rw [hsz] at HTL
        obtain ⟨hbF, hqF, -⟩ := st5_next HB9.out (by omega) HQ9.out (.int .i64 t9.a.d.k) (.int .i64 t9.a.d.w) (.int .i64 t9.a.d.c) (.int .i64 t9.a.d.s) (.slice pz nz cz)
        obtain ⟨tb, htb⟩ : ∃ ta, ta = t9.a.d := ⟨_, rfl⟩
        obtain ⟨wF, hwF⟩ : ∃ wF, wF = st5 w9 (w.heap.size + 1) (.int .i64 t9.a.d.k) (.int .i64 t9.a.d.w) (.int .i64 t9.a.d.c) (.int .i64 t9.a.d.s) (.slice pz nz cz) := ⟨_, rfl⟩
        rw [← hwF] at hbF hqF HTL
        rw [← htb] at m0 m1 m2 m3 hqF hwF HTL
        have HBF := Lib.hid hbF
        have HQF := Lib.hid hqF
        have HWF := Lib.hid hwF
        clear hsz hnz htb hbF hqF hwF
        go_wp2_with fail
        have hwF := HWF.out
        unfold st5 at hwF
        rewrite [← hwF]
        obtain ⟨⟨b0, b1, b2, b3, b4⟩, -⟩ := c5 HQF.out
        exact bodyPost_ret (v := .tuple #[.agg #[.int .i64 tb.k, .int .i64 tb.w, .int .i64 tb.c, .int .i64 tb.s, .slice pz nz cz], .int .i64 0]) (by simp [results, Try.results50, go_sem, b0, b1, b2, b3, b4]) rfl ((HR.out _ _).2 (HTL.out.ans HBF.out HFS.out))
    · have hm0 := movAt_into (c := c) (d := d) HP9.out HPY.out hbb hPz (by rw [era_a, ← hqa]; exact hk)
      have hRe := HR0.out
      rw [hm0] at hRe
      have hfQ : fine (era Q) := fine_get HS.out.f hgx
      have hht9 : ht (era Q) ≤ 1000000 := by have := ht_get hgx; have := HS.out.ht; omega
      have hyw := (HS.out.f _ _ HY.out).1
      have hpk0 : pa.k = 0 := by rw [hpy]; exact HYK.out.1
      have hpc0 : pa.c = c := by rw [hpy]; exact HYK.out.2.1
      have hic : I64 c := by rw [← hpc0, hpy]; exact hyw.2.2.1
      have hise : I64 y.a.s := hyw.2.2.2
      have hcv : (Value.agg #[.int .i64 pa.k, .int .i64 pa.w, .int .i64 pa.c, .int .i64 pa.s, .slice none 0 0]) = conV ⟨0, pa.w, c, y.a.s⟩ (.slice none 0 0) := by rw [← hpy, hpk0, hpc0]
      have hfx : ∀ (T : ATr) (X : Con), era T = X → fine X → ∀ u z, get T u = some z → z.a.d.wide ∧ z.ks.length ≤ 1152921504606846976 := fun T X hT hF v z hz => by
        have h9 : get X v = some (era z) := by rw [← hT, era_get, hz]; rfl
        have := hF v _ h9
        rw [era_a, era_ks, List.length_map] at this
        exact ⟨this.1, by omega⟩
      have hotr := HRTR.out.held.own
      have HIC : Hid (∀ W, Below wr.heap.size wr W → Calls Try.prog 94 #[.agg #[.int .i64 x.a.k, .int .i64 x.a.w, .int .i64 x.a.c, .int .i64 x.a.s, .slice pt nt ct], .agg #[.int .i64 pa.k, .int .i64 pa.w, .int .i64 pa.c, .int .i64 pa.s, .slice none 0 0], .agg #[.int .i64 qa.k, .int .i64 qa.w, .int .i64 qa.c, .int .i64 qa.s, .slice pq nq cq]] W (AnsR 0 (insertI (removeD x c).1 (lastI (era Q)) c y.a.s) W)) := fun W h => by
        have hotW := hotr.next h
        have hoQW := hoQ.next h
        have hkx : KV W (fun b => b < W.heap.size) (era t).ks (slA t) := hotW.reads hotW.lt (hfx t x HET.out HS.out.f)
        have hkq : KV W (fun b => b < W.heap.size) (era Q).ks (slA Q) := hoQW.reads hoQW.lt (hfx Q (era Q) rfl hfQ)
        rw [HET.out] at hkx
        have := into_c _ x (era Q) (slA t) (slA Q) pa.w c y.a.s W hkx HS.out HTR.out HHB.out HCN.out hkq (hfQ [] _ rfl).1 hht9 hic hise
        rw [HST.out, hsq, era_a, ← hqa, ← hcv] at this
        exact this
      have hcr := root_cells HRTR.out
      rw [HST.out, HAD.out] at hcr
      have hrl : rr < wr.heap.size := HRTR.out.held.lt
      have hbW : bP ≠ w.heap.size + 1 := fun e => by
        have h1 := HRTR.out.loc_mem HP.out
        rw [← HL1.out, blks_top, List.mem_cons] at h1
        have h3 := HRR.out
        rcases h1 with h1 | h1
        · have h1 : bP = rr := h1; omega
        · have := HBT.out bP h1; omega
      have hgw : w1.heap.size ≤ g1 := HBT.out g1 (blks_get HP.out g1 hg1m)
      have hSI0 : ∀ V : World, (∀ b, b = rr ∨ b = bP ∨ b = g1 → V.heap[b]? = wr.heap[b]?) → V.cell? ⟨rr, 0, none⟩ = some (.int .i64 x.a.k) ∧ V.cell? ⟨rr, 1, none⟩ = some (.int .i64 x.a.w) ∧ V.cell? ⟨rr, 2, none⟩ = some (.int .i64 x.a.c) ∧ V.cell? ⟨rr, 3, none⟩ = some (.int .i64 x.a.s) ∧ V.cell? ⟨rr, 4, none⟩ = some (.slice pt nt ct) ∧ V.cell? ⟨bP, oP + 4, none⟩ = some (.slice (some ⟨g1, 0, none⟩) n1 c1) ∧ V.cell? ⟨g1, i * 5, none⟩ = some (.int .i64 pa.k) ∧ V.cell? ⟨g1, i * 5 + 1, none⟩ = some (.int .i64 pa.w) ∧ V.cell? ⟨g1, i * 5 + 2, none⟩ = some (.int .i64 pa.c) ∧ V.cell? ⟨g1, i * 5 + 3, none⟩ = some (.int .i64 pa.s) ∧ V.cell? ⟨g1, i * 5 + 4, none⟩ = some (.slice none 0 0) ∧ V.cell? ⟨g1, j * 5, none⟩ = some (.int .i64 qa.k) ∧ V.cell? ⟨g1, j * 5 + 1, none⟩ = some (.int .i64 qa.w) ∧ V.cell? ⟨g1, j * 5 + 2, none⟩ = some (.int .i64 qa.c) ∧ V.cell? ⟨g1, j * 5 + 3, none⟩ = some (.int .i64 qa.s) ∧ V.cell? ⟨g1, j * 5 + 4, none⟩ = some (.slice pq nq cq) := fun V hV => by
        obtain ⟨m0, m1, m2, m3, m4⟩ := hcr
        have hr := hV rr (.inl rfl)
        have hb := hV bP (.inr (.inl rfl))
        have hg := hV g1 (.inr (.inr rfl))
        exact ⟨(cell_same hr _).trans m0, (cell_same hr _).trans m1, (cell_same hr _).trans m2, (cell_same hr _).trans m3, (cell_same hr _).trans m4, (cell_same hb _).trans e4, (cell_same hg _).trans p0, (cell_same hg _).trans p1, (cell_same hg _).trans p2, (cell_same hg _).trans p3, (cell_same hg _).trans p4, (cell_same hg _).trans q0, (cell_same hg _).trans q1, (cell_same hg _).trans q2, (cell_same hg _).trans q3, (cell_same hg _).trans q4⟩
      have HSI : Hid (∀ W, Below wr.heap.size wr W → W.cell? ⟨rr, 0, none⟩ = some (.int .i64 x.a.k) ∧ W.cell? ⟨rr, 1, none⟩ = some (.int .i64 x.a.w) ∧ W.cell? ⟨rr, 2, none⟩ = some (.int .i64 x.a.c) ∧ W.cell? ⟨rr, 3, none⟩ = some (.int .i64 x.a.s) ∧ W.cell? ⟨rr, 4, none⟩ = some (.slice pt nt ct) ∧ W.cell? ⟨bP, oP + 4, none⟩ = some (.slice (some ⟨g1, 0, none⟩) n1 c1) ∧ W.cell? ⟨g1, i * 5, none⟩ = some (.int .i64 pa.k) ∧ W.cell? ⟨g1, i * 5 + 1, none⟩ = some (.int .i64 pa.w) ∧ W.cell? ⟨g1, i * 5 + 2, none⟩ = some (.int .i64 pa.c) ∧ W.cell? ⟨g1, i * 5 + 3, none⟩ = some (.int .i64 pa.s) ∧ W.cell? ⟨g1, i * 5 + 4, none⟩ = some (.slice none 0 0) ∧ W.cell? ⟨g1, j * 5, none⟩ = some (.int .i64 qa.k) ∧ W.cell? ⟨g1, j * 5 + 1, none⟩ = some (.int .i64 qa.w) ∧ W.cell? ⟨g1, j * 5 + 2, none⟩ = some (.int .i64 qa.c) ∧ W.cell? ⟨g1, j * 5 + 3, none⟩ = some (.int .i64 qa.s) ∧ W.cell? ⟨g1, j * 5 + 4, none⟩ = some (.slice pq nq cq)) := fun W h => hSI0 W fun b hb => h.block b (by rcases hb with rfl | rfl | rfl; exact hrl; exact hlP4; exact hgQ)
      have HSI9 : Hid (∀ W, Below wr.heap.size wr W → ∀ V : World, (∀ b, b ≠ w.heap.size + 1 → V.heap[b]? = W.heap[b]?) → V.cell? ⟨rr, 0, none⟩ = some (.int .i64 x.a.k) ∧ V.cell? ⟨rr, 1, none⟩ = some (.int .i64 x.a.w) ∧ V.cell? ⟨rr, 2, none⟩ = some (.int .i64 x.a.c) ∧ V.cell? ⟨rr, 3, none⟩ = some (.int .i64 x.a.s) ∧ V.cell? ⟨rr, 4, none⟩ = some (.slice pt nt ct) ∧ V.cell? ⟨bP, oP + 4, none⟩ = some (.slice (some ⟨g1, 0, none⟩) n1 c1) ∧ V.cell? ⟨g1, i * 5, none⟩ = some (.int .i64 pa.k) ∧ V.cell? ⟨g1, i * 5 + 1, none⟩ = some (.int .i64 pa.w) ∧ V.cell? ⟨g1, i * 5 + 2, none⟩ = some (.int .i64 pa.c) ∧ V.cell? ⟨g1, i * 5 + 3, none⟩ = some (.int .i64 pa.s) ∧ V.cell? ⟨g1, i * 5 + 4, none⟩ = some (.slice none 0 0) ∧ V.cell? ⟨g1, j * 5, none⟩ = some (.int .i64 qa.k) ∧ V.cell? ⟨g1, j * 5 + 1, none⟩ = some (.int .i64 qa.w) ∧ V.cell? ⟨g1, j * 5 + 2, none⟩ = some (.int .i64 qa.c) ∧ V.cell? ⟨g1, j * 5 + 3, none⟩ = some (.int .i64 qa.s) ∧ V.cell? ⟨g1, j * 5 + 4, none⟩ = some (.slice pq nq cq)) := fun W h V hV => hSI0 V fun b hb => by
        have hrr := HRR.out
        rcases hb with rfl | rfl | rfl
        · rw [hV _ (by omega), h.block _ hrl]
        · rw [hV _ hbW, h.block _ hlP4]
        · rw [hV _ (by omega), h.block _ hgQ]
      have HNE : Hid (∀ b, (b < 0 ∨ wr.drew.heap.size ≤ b) → b ≠ w.heap.size + 1) := fun b hb => by
        have h1 := HQR.out.lt
        rcases hb with hb | hb
        · omega
        · have hb : wr.heap.size ≤ b := hb; omega
      have HZZ : Hid (∀ b, (b < 0 ∨ wr.drew.heap.size ≤ b) → (b < 0 ∨ w.heap.size ≤ b)) := fun b hb => by
        have h1 := HBR.out.size
        rcases hb with hb | hb
        · exact .inl hb
        · have hb : wr.heap.size ≤ b := hb; exact .inr (by omega)
      have HR := Lib.hid hRe
      have hqk0 : (qa.k == 0) = false := by simpa using hk
      obtain ⟨rI, hrI⟩ : ∃ r, r = insertI (removeD x c).1 (lastI (era Q)) c y.a.s := ⟨_, rfl⟩
      rw [← hrI] at HIC HR
      clear hm0 hRe hfQ hht9 hyw hpk0 hpc0 hic hise hcv hfx hotr hcr hrl hbW hgw hSI0 hcQ hcS hoQ hgQ hPh hsk hss hsq hnq hqa hpa hpy hgt hgx hg1m hPz hbb hQ hk HR0 hjn hbn hrI
      go_upto_region 12 with fail
      refine wp_region_noPanic ?_
      refine wp_region_held_drew (S := fun wx => wx.cell? ⟨rr, 0, none⟩ = some (.int .i64 x.a.k) ∧ wx.cell? ⟨rr, 1, none⟩ = some (.int .i64 x.a.w) ∧ wx.cell? ⟨rr, 2, none⟩ = some (.int .i64 x.a.c) ∧ wx.cell? ⟨rr, 3, none⟩ = some (.int .i64 x.a.s) ∧ wx.cell? ⟨rr, 4, none⟩ = some (.slice pt nt ct) ∧ wx.cell? ⟨bP, oP + 4, none⟩ = some (.slice (some ⟨g1, 0, none⟩) n1 c1) ∧ wx.cell? ⟨g1, i * 5, none⟩ = some (.int .i64 pa.k) ∧ wx.cell? ⟨g1, i * 5 + 1, none⟩ = some (.int .i64 pa.w) ∧ wx.cell? ⟨g1, i * 5 + 2, none⟩ = some (.int .i64 pa.c) ∧ wx.cell? ⟨g1, i * 5 + 3, none⟩ = some (.int .i64 pa.s) ∧ wx.cell? ⟨g1, i * 5 + 4, none⟩ = some (.slice none 0 0) ∧ wx.cell? ⟨g1, j * 5, none⟩ = some (.int .i64 qa.k) ∧ wx.cell? ⟨g1, j * 5 + 1, none⟩ = some (.int .i64 qa.w) ∧ wx.cell? ⟨g1, j * 5 + 2, none⟩ = some (.int .i64 qa.c) ∧ wx.cell? ⟨g1, j * 5 + 3, none⟩ = some (.int .i64 qa.s) ∧ wx.cell? ⟨g1, j * 5 + 4, none⟩ = some (.slice pq nq cq)) (by kernel_rfl) (by exact HSI.out wr.drew (Below.refl _ _).drew) (fun hHeld => ?_)
      refine wpAnyH_take (i := 0) (v := ?vi0) rfl (by kernel_rfl) (by kernel_rfl) (by kernel_rfl) (fun _ _ _ h => h) (Or.inl ⟨by kernel_rfl, ?yi0⟩) (by assumption) ?ri0
      case yi0 => (intro wq hSw; (try dsimp only at hSw); go_simp; (try with_reducible rfl))
      (try simp only [Act.put, List.getElem_toArray, List.getElem_cons_zero, List.setIfInBounds_toArray, List.set_cons_zero, List.set_cons_succ])
      refine wpAnyH_take (i := 1) (v := ?vi1) rfl (by kernel_rfl) (by kernel_rfl) (by kernel_rfl) (fun _ _ _ h => h) (Or.inl ⟨by kernel_rfl, ?yi1⟩) (by assumption) ?ri1
      case yi1 => (intro wq hSw; (try dsimp only at hSw); go_simp; (try with_reducible rfl))
      (try simp only [Act.put, List.getElem_toArray, List.getElem_cons_succ, List.getElem_cons_zero, List.setIfInBounds_toArray, List.set_cons_zero, List.set_cons_succ])
      refine wpAnyH_take (i := 2) (v := ?vi2) rfl (by kernel_rfl) (by kernel_rfl) (by kernel_rfl) (fun _ _ _ h => h) (Or.inl ⟨by kernel_rfl, ?yi2⟩) (by assumption) ?ri2
      case yi2 => (intro wq hSw; (try dsimp only at hSw); go_simp; (try with_reducible rfl))
      (try simp only [Act.put, List.getElem_toArray, List.getElem_cons_succ, List.getElem_cons_zero, List.setIfInBounds_toArray, List.set_cons_zero, List.set_cons_succ])
      refine wpAnyH_take (i := 3) (v := ?vi3) rfl (by kernel_rfl) (by kernel_rfl) (by kernel_rfl) (fun _ _ _ h => h) (Or.inl ⟨by kernel_rfl, ?yi3⟩) (by assumption) ?ri3
      case yi3 => (intro wq hSw; (try dsimp only at hSw); go_simp; (try with_reducible rfl))
      (try simp only [Act.put, List.getElem_toArray, List.getElem_cons_succ, List.getElem_cons_zero, List.setIfInBounds_toArray, List.set_cons_zero, List.set_cons_succ])
      refine wpAnyH_take (i := 4) (v := ?vi4) rfl (by kernel_rfl) (by kernel_rfl) (by kernel_rfl) (fun _ _ _ h => h) (Or.inl ⟨by kernel_rfl, ?yi4⟩) (by assumption) ?ri4
      case yi4 => (intro wq hSw; (try dsimp only at hSw); go_simp; (try with_reducible rfl))
      (try simp only [Act.put, List.getElem_toArray, List.getElem_cons_succ, List.getElem_cons_zero, List.setIfInBounds_toArray, List.set_cons_zero, List.set_cons_succ])
      refine wpAnyH_take (i := 5) (v := ?vi5) rfl (by kernel_rfl) (by kernel_rfl) (by kernel_rfl) (fun _ _ _ h => h) (Or.inl ⟨by kernel_rfl, ?yi5⟩) (by assumption) ?ri5
      case yi5 => (intro wq hSw; (try dsimp only at hSw); go_simp; (try with_reducible rfl))
      (try simp only [Act.put, List.getElem_toArray, List.getElem_cons_succ, List.getElem_cons_zero, List.setIfInBounds_toArray, List.set_cons_zero, List.set_cons_succ])
      refine wpAnyH_take (i := 6) (v := ?vi6) rfl (by kernel_rfl) (by kernel_rfl) (by kernel_rfl) (fun _ _ _ h => h) (Or.inl ⟨by kernel_rfl, ?yi6⟩) (by assumption) ?ri6
      case yi6 => (intro wq hSw; (try dsimp only at hSw); go_simp; (try with_reducible rfl))
      (try simp only [Act.put, List.getElem_toArray, List.getElem_cons_succ, List.getElem_cons_zero, List.setIfInBounds_toArray, List.set_cons_zero, List.set_cons_succ])
      refine wpAnyH_take (i := 7) (v := ?vi7) rfl (by kernel_rfl) (by kernel_rfl) (by kernel_rfl) (fun _ _ _ h => h) (Or.inl ⟨by kernel_rfl, ?yi7⟩) (by assumption) ?ri7
      case yi7 => (intro wq hSw; (try dsimp only at hSw); go_simp; (try with_reducible rfl))
      (try simp only [Act.put, List.getElem_toArray, List.getElem_cons_succ, List.getElem_cons_zero, List.setIfInBounds_toArray, List.set_cons_zero, List.set_cons_succ])
      refine wpAnyH_take (i := 8) (v := ?vi8) rfl (by kernel_rfl) (by kernel_rfl) (by kernel_rfl) (fun _ _ _ h => h) (Or.inl ⟨by kernel_rfl, ?yi8⟩) (by assumption) ?ri8
      case yi8 => (intro wq hSw; (try dsimp only at hSw); go_simp; (try with_reducible rfl))
      (try simp only [Act.put, List.getElem_toArray, List.getElem_cons_succ, List.getElem_cons_zero, List.setIfInBounds_toArray, List.set_cons_zero, List.set_cons_succ])
      refine wpAnyH_take (i := 9) (v := ?vi9) rfl (by kernel_rfl) (by kernel_rfl) (by kernel_rfl) (fun _ _ _ h => h) (Or.inl ⟨by kernel_rfl, ?yi9⟩) (by assumption) ?ri9
      case yi9 => (intro wq hSw; (try dsimp only at hSw); go_simp; (try with_reducible rfl))
      (try simp only [Act.put, List.getElem_toArray, List.getElem_cons_succ, List.getElem_cons_zero, List.setIfInBounds_toArray, List.set_cons_zero, List.set_cons_succ])
      refine wpAnyH_take (i := 10) (v := ?vi10) rfl (by kernel_rfl) (by kernel_rfl) (by kernel_rfl) (fun _ _ _ h => h) (Or.inl ⟨by kernel_rfl, ?yi10⟩) (by assumption) ?ri10
      case yi10 => (intro wq hSw; (try dsimp only at hSw); go_simp; (try with_reducible rfl))
      (try simp only [Act.put, List.getElem_toArray, List.getElem_cons_succ, List.getElem_cons_zero, List.setIfInBounds_toArray, List.set_cons_zero, List.set_cons_succ])
      refine wpAnyH_take (i := 11) (v := ?vi11) rfl (by kernel_rfl) (by kernel_rfl) (by kernel_rfl) (fun _ _ _ h => h) (Or.inl ⟨by kernel_rfl, ?yi11⟩) (by assumption) ?ri11
      case yi11 => (intro wq hSw; (try dsimp only at hSw); go_simp; (try with_reducible rfl))
      (try simp only [Act.put, List.getElem_toArray, List.getElem_cons_succ, List.getElem_cons_zero, List.setIfInBounds_toArray, List.set_cons_zero, List.set_cons_succ])
      refine wpAnyH_take (i := 12) (v := ?vi12) rfl (by kernel_rfl) (by kernel_rfl) (by kernel_rfl) (fun _ _ _ h => h) (Or.inl ⟨by kernel_rfl, ?yi12⟩) (by assumption) ?ri12
      case yi12 => (intro wq hSw; (try dsimp only at hSw); go_simp; (try with_reducible rfl))
      (try simp only [Act.put, List.getElem_toArray, List.getElem_cons_succ, List.getElem_cons_zero, List.setIfInBounds_toArray, List.set_cons_zero, List.set_cons_succ])
      refine wpAnyH_take (i := 13) (v := ?vi13) rfl (by kernel_rfl) (by kernel_rfl) (by kernel_rfl) (fun _ _ _ h => h) (Or.inl ⟨by kernel_rfl, ?yi13⟩) (by assumption) ?ri13
      case yi13 => (intro wq hSw; (try dsimp only at hSw); go_simp; (try with_reducible rfl))
      (try simp only [Act.put, List.getElem_toArray, List.getElem_cons_succ, List.getElem_cons_zero, List.setIfInBounds_toArray, List.set_cons_zero, List.set_cons_succ])
      refine wpAnyH_take (i := 14) (v := ?vi14) rfl (by kernel_rfl) (by kernel_rfl) (by kernel_rfl) (fun _ _ _ h => h) (Or.inl ⟨by kernel_rfl, ?yi14⟩) (by assumption) ?ri14
      case yi14 => (intro wq hSw; (try dsimp only at hSw); go_simp; (try with_reducible rfl))
      (try simp only [Act.put, List.getElem_toArray, List.getElem_cons_succ, List.getElem_cons_zero, List.setIfInBounds_toArray, List.set_cons_zero, List.set_cons_succ])
      refine wpAnyH_ready (rs := [15]) (by kernel_rfl) (by simp) ?_
      refine AllReadyH.cons rfl (fun K hK => ?_) AllReadyH.nil
      go_simp
      refine (HIC.out wr.drew (Below.refl _ _).drew).mono ?_
      rintro e w7 ⟨y3, p3, n3, k3, rfl, hk7, hy7, hb⟩; have HB7 := Lib.hid ((Below.refl wr.heap.size wr).drew.trans hb); have HK7 := Lib.hid hk7; have HY7 := Lib.hid hy7; have HQ7 := Lib.hid (HQR.out.next HB7.out); clear hb hk7 hy7; obtain ⟨⟨r0, r1, r2, r3, r4⟩, ⟨f0, f1, f2, f3, f4⟩⟩ := c5 HQ7.out
      (try dsimp only)
      refine hK.out _ _ (by exact HSI.out w7 HB7.out) (fun hHeld => ?_)
      clear hK K
      (try simp only [Act.put, List.getElem_toArray, List.getElem_cons_succ, List.getElem_cons_zero, List.setIfInBounds_toArray, List.set_cons_zero, List.set_cons_succ])
      refine wpAnyH_take (i := 16) (v := ?vi16) rfl (by kernel_rfl) (by kernel_rfl) (by kernel_rfl) (fun _ _ _ h => h) (Or.inl ⟨by kernel_rfl, ?yi16⟩) (by assumption) ?ri16
      case yi16 => (intro wq hSw; (try dsimp only at hSw); go_simp; (try with_reducible rfl))
      (try simp only [Act.put, List.getElem_toArray, List.getElem_cons_succ, List.getElem_cons_zero, List.setIfInBounds_toArray, List.set_cons_zero, List.set_cons_succ])
      refine wpAnyH_take (i := 17) (v := ?vi17) rfl (by kernel_rfl) (by kernel_rfl) (by kernel_rfl) (fun _ _ _ h => h) (Or.inl ⟨by kernel_rfl, ?yi17⟩) (by assumption) ?ri17
      case yi17 => (intro wq hSw; (try dsimp only at hSw); go_simp; (try with_reducible rfl))
      (try simp only [Act.put, List.getElem_toArray, List.getElem_cons_succ, List.getElem_cons_zero, List.setIfInBounds_toArray, List.set_cons_zero, List.set_cons_succ])
      refine wpAnyH_ready (rs := [18]) (by kernel_rfl) (by simp) ?_
      refine AllReadyH.cons rfl (fun K hK => ?_) AllReadyH.nil
      go_simp; obtain ⟨hb9, hq9, hfq⟩ := st5_next (HBR.out.trans (HB7.out.mono HBR.out.size)) (g := w.heap.size + 1) (by omega) HQ7.out (.int .i64 y3.a.k) (.int .i64 y3.a.w) (.int .i64 y3.a.c) (.int .i64 y3.a.s) (.slice p3 n3 k3); have HB9 := Lib.hid hb9; have HQ9 := Lib.hid hq9; have HK9 := Lib.hid (KV.st5 (g := w.heap.size + 1) (Z' := fun b => b < 0 ∨ w.heap.size ≤ b) HK7.out HNE.out HZZ.out (.int .i64 y3.a.k) (.int .i64 y3.a.w) (.int .i64 y3.a.c) (.int .i64 y3.a.s) (.slice p3 n3 k3)); have hS9 := HSI9.out w7 HB7.out _ (fun b hb => far_st5 w7 (w.heap.size + 1) (.int .i64 y3.a.k) (.int .i64 y3.a.w) (.int .i64 y3.a.c) (.int .i64 y3.a.s) (.slice p3 n3 k3) b hb); clear hb9 hq9 hfq r0 r1 r2 r3 r4 f0 f1 f2 f3 f4
      refine hK.out _ _ (by exact hS9) (fun hHeld => ?_)
      clear hK K
      (try simp only [Act.put, List.getElem_toArray, List.getElem_cons_succ, List.getElem_cons_zero, List.setIfInBounds_toArray, List.set_cons_zero, List.set_cons_succ])
      refine wpAnyH_take (i := 19) (v := ?vi19) rfl (by kernel_rfl) (by kernel_rfl) (by kernel_rfl) (fun _ _ _ h => h) (Or.inl ⟨by kernel_rfl, ?yi19⟩) (by assumption) ?ri19
      case yi19 => (intro wq hSw; (try dsimp only at hSw); go_simp; (try with_reducible rfl))
      (try simp only [Act.put, List.getElem_toArray, List.getElem_cons_succ, List.getElem_cons_zero, List.setIfInBounds_toArray, List.set_cons_zero, List.set_cons_succ])
      refine wpAnyH_done (by kernel_rfl) ?_ _
      refine NoPanic.normal ?_
      clear hS9 hHeld
      go_wp2_with fail
      obtain ⟨wF, hwF⟩ : ∃ wF, wF = st5 w7 (w.heap.size + 1) (.int .i64 y3.a.k) (.int .i64 y3.a.w) (.int .i64 y3.a.c) (.int .i64 y3.a.s) (.slice p3 n3 k3) := ⟨_, rfl⟩
      have hb9 := HB9.out
      have hq9 := HQ9.out
      have hk9 := HK9.out
      rw [← hwF] at hb9 hq9 hk9
      unfold st5 at hwF
      rewrite [← hwF]
      obtain ⟨⟨b0, b1, b2, b3, b4⟩, -⟩ := c5 hq9
      exact bodyPost_ret (v := .tuple #[.agg #[.int .i64 y3.a.k, .int .i64 y3.a.w, .int .i64 y3.a.c, .int .i64 y3.a.s, .slice p3 n3 k3], .int .i64 rI.2]) (by simp [results, Try.results50, go_sem, b0, b1, b2, b3, b4]) rfl ((HR.out _ _).2 ⟨y3, p3, n3, k3, rfl, hk9, HY7.out, hb9⟩)
end Go.Proofs.Ytjeabkcbaielhaa.Co
end
