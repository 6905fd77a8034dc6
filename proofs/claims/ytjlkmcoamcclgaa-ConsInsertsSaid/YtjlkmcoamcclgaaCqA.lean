/- slices.Insert of one container. -/
import Derived.Test.YtjlkmcoamcclgaaCpZ
import Derived.Lib.AppendZerosOnto
import Derived.Lib.Overlaps
import Derived.Shelf.Spec.SlicesInsert
import Derived.Maps.AppendAt
import Derived.Laws.CopyRow
namespace Go.Proofs.Ytjlkmcoamcclgaa.Co
open Go.RowKit Go.Shelf Go.Lib Go.Maps
theorem run_copy5 {e : TypeId} {i : TypeInfo} (w : World) (T ty : TypeId) (hT : Try.prog.underlying T = some (.slice e)) (hi : Try.prog.info? e = some i) (h5 : i.size = 5) (g o dLen dCap : Nat) (a : Addr) (sLen sCap n : Nat) (cur : Array Value) (t : TypeId) (cs : List Value)
    (hg : w.heap[g]? = some (.cells cur t (0, 0))) (hm : n = Nat.min sLen dLen) (hn : cs.length = n * 5)
    (hsrc : ∀ j v, cs[j]? = some v → w.cell? (a.add j) = some v) (hfit : o + cs.length ≤ cur.size) (h1 : ∀ v ∈ cs, v.oneCell' = true) :
    (Builtin.copy_ #[T, T] ty #[.slice (some ⟨g, o, none⟩) dLen dCap, .slice (some a) sLen sCap]).run Try.prog w =
      .ok (goInt n) (w.setRow g (cur.toList.take o ++ cs ++ cur.toList.drop (o + cs.length)).toArray) := by
  have hl := run_loadCells_list (P := Try.prog) w a cs hsrc
  have hst := run_storeCells_at Try.prog g o t cs 0 cur w hg (by simpa using hfit) h1
  rw [hn] at hl
  simp [Builtin.copy_, run_underlying hT, Builtin.lenOf, Builtin.firstCells, sizeOf, typeInfo, hi, h5, ← hm, hl, hst]
theorem splice_in {cur ls : List Value} {N i : Nat} (hi : i ≤ N) (hl : ls.length = 5) (hN : N + 5 ≤ cur.length) :
    (((cur.take (i + 5) ++ (cur.take N).drop i ++ cur.drop (i + 5 + ((cur.take N).drop i).length)).take i ++ ls ++ (cur.take (i + 5) ++ (cur.take N).drop i ++ cur.drop (i + 5 + ((cur.take N).drop i).length)).drop (i + 5))).take (N + 5) = (cur.take N).take i ++ ls ++ (cur.take N).drop i := by
  have e1 : (cur.take (i + 5) ++ (cur.take N).drop i ++ cur.drop (i + 5 + ((cur.take N).drop i).length)).take i = (cur.take N).take i := by
    rw [List.append_assoc, List.take_append_of_le_length (by simp; omega), List.take_take, List.take_take]
    congr 1; omega
  have e2 : (cur.take (i + 5) ++ (cur.take N).drop i ++ cur.drop (i + 5 + ((cur.take N).drop i).length)).drop (i + 5) = (cur.take N).drop i ++ cur.drop (i + 5 + ((cur.take N).drop i).length) := by
    rw [List.append_assoc, List.drop_append_of_le_length (by simp; omega)]
    simp
  rw [e1, e2, ← List.append_assoc]
  exact List.take_left' (by simp [hl]; omega)
theorem splice_new {xs ls Z : List Value} {N i : Nat} (hi : i ≤ N) (hx : xs.length = N) (hl : ls.length = 5) :
    ((((xs.take i ++ Z).take i ++ ls ++ (xs.take i ++ Z).drop (i + 5)).take (i + 5) ++ xs.drop i ++ ((xs.take i ++ Z).take i ++ ls ++ (xs.take i ++ Z).drop (i + 5)).drop (i + 5 + (xs.drop i).length))).take (N + 5) = xs.take i ++ ls ++ xs.drop i := by
  have e0 : (xs.take i).length = i := by simp; omega
  have e1 : (xs.take i ++ Z).take i = xs.take i := List.take_left' e0
  have e2 : (xs.take i ++ ls ++ (xs.take i ++ Z).drop (i + 5)).take (i + 5) = xs.take i ++ ls := List.take_left' (by simp [hl]; omega)
  rw [e1, e2]
  exact List.take_left' (by simp [hl]; omega)
theorem row_ins {w' : World} {g n cap : Nat} {cur : Array Value} {B : Nat} {xs : List Value} (hg : w'.heap[g]? = some (.cells cur 24 (0, 0))) (hB : B ≤ g) (hs : cur.size = cap * 5) (hn : n ≤ cap) (hm : cap ≤ maxLen) (hl : xs.length = n * 5) (hx : cur.toList.take (n * 5) = xs) :
    w'.ownsRow B 24 5 (.slice (some ⟨g, 0, none⟩) n cap) n xs :=
  ⟨hl, .inr ⟨g, cap, cur, rfl, hB, hg, hn, hm, hs, hx⟩⟩
/-- What an insertion leaves. -/
def InsR (B : Nat) (v : Value) (n i : Nat) (xs ls : List Value) (w : World) (e : Ending) (w' : World) : Prop :=
  ∃ v', e = .returned v' ∧ w'.ownsRow B 24 5 v' (n + 1) (xs.take (i * 5) ++ ls ++ xs.drop (i * 5)) ∧ w.grownBy w' v.ownBlock ∧ (v'.ownBlock = v.ownBlock ∨ ∃ r, v'.ownBlock = some r ∧ w.heap.size ≤ r)
set_option maxHeartbeats 2000000 in
set_option maxRecDepth 100000 in
theorem insert_end (B : Nat) (v : Value) (n vb : Nat) (xs ls : List Value) (w : World) (ho : w.ownsRow B 24 5 v n xs) (hv : Blk w vb 24 ls.toArray) (hl : ls.length = 5) (h1 : ∀ u ∈ ls, u.oneCell' = true) (hn : n ≤ 100000) (hB : B ≤ w.heap.size) :
    Calls Try.prog 66 #[v, .int .i64 (n : Int), .slice (some ⟨vb, 0, none⟩) 1 1] w (InsR B v n n xs ls w) := by
  obtain ⟨R, hR⟩ : ∃ R, R = InsR B v n n xs ls w := ⟨_, rfl⟩
  rw [← hR]
  have HR := Lib.hid hR
  obtain ⟨p, cap, rfl⟩ := row_slice ho
  obtain ⟨i0, hi0, hz0, hz1, hz2⟩ := con_info
  have hcap : n ≤ cap := by
    rcases ho.2 with ⟨h3, h4⟩ | ⟨g', c', cur, h3, _, h5, h4, _⟩
    · omega
    · obtain ⟨-, -, rfl⟩ := Value.slice.inj h3; exact h4
  have hcells : ∀ j u, ls[j]? = some u → w.cell? ((⟨vb, 0, none⟩ : Addr).add j) = some u := fun j u hu => by
    rw [show (⟨vb, 0, none⟩ : Addr).add j = ⟨vb, j, none⟩ by unfold Addr.add; split <;> simp_all]
    exact hv.at_ (by simpa using hu)
  have HO := Lib.hid ho
  have HC := Lib.hid hcells
  have H1 := Lib.hid h1
  have HL := Lib.hid hl
  have HBB := Lib.hid hB
  clear hR ho hv hl h1 hcells hB
  go_enter Try.func66, Try.ntmps66
  go_wp2_with (at_builtin; (refine wpList_append_own_at _ rfl (.tmp 23) (.tmp 24) 22 rfl B 24 i0 (.agg #[.int .i64 0, .int .i64 0, .int .i64 0, .int .i64 0, .slice none 0 0]) 5 56 Try.underlying22 hi0 hz0 hz1 hz2 rfl (by decide) _ n xs rfl HO.out ⟨vb, 0, none⟩ 1 1 ls rfl HL.out HC.out H1.out (by unfold maxLen; omega) (by omega) HBB.out ?_; intro v7 w7 ho7 hg7 hn7 hb7; have HO7 := Lib.hid ho7; have HG7 := Lib.hid hg7; have HB7 := Lib.hid hb7; clear ho7 hg7 hn7 hb7))
  all_goals
    show R (.returned v7) w7
    rw [HR.out]
    have hxl := HO.out.1
    refine ⟨v7, rfl, ?_, HG7.out, HB7.out.imp id fun h => ⟨_, h, Nat.le_refl _⟩⟩
    rw [List.take_of_length_le (by omega), List.drop_of_length_le (by omega), List.append_nil]
    exact HO7.out
set_option maxHeartbeats 4000000 in
set_option maxRecDepth 100000 in
theorem insert_in (B g n cap i vb : Nat) (xs ls : List Value) (w : World) (ho : w.ownsRow B 24 5 (.slice (some ⟨g, 0, none⟩) n cap) n xs) (hv : Blk w vb 24 ls.toArray) (hl : ls.length = 5) (h1 : ∀ u ∈ ls, u.oneCell' = true) (hx1 : ∀ u ∈ xs, u.oneCell' = true) (hn : n ≤ 100000) (hi : i < n) (hroom : n + 1 ≤ cap) (hne : vb ≠ g) :
    Calls Try.prog 66 #[.slice (some ⟨g, 0, none⟩) n cap, .int .i64 (i : Int), .slice (some ⟨vb, 0, none⟩) 1 1] w (InsR B (.slice (some ⟨g, 0, none⟩) n cap) n i xs ls w) := by
  obtain ⟨R, hR⟩ : ∃ R, R = InsR B (.slice (some ⟨g, 0, none⟩) n cap) n i xs ls w := ⟨_, rfl⟩
  rw [← hR]
  have HR := Lib.hid hR
  obtain ⟨i0, hi0, hz0, hz1, hz2⟩ := con_info
  obtain ⟨hxl, hcase⟩ := ho
  rcases hcase with ⟨h3, _⟩ | ⟨g', cap', cur, h3, hBg, hg, hnc, hcm, hcs, hcx⟩
  · cases h3
  obtain ⟨e1, -, rfl⟩ := Value.slice.inj h3
  have e1 := Option.some.inj e1
  injection e1 with e1
  subst e1
  clear h3
  have hsz : ∀ w, (Go.sizeOf 24).run Try.prog w = .ok 5 w := fun w => by simp [Go.sizeOf, typeInfo, hi0, hz1]
  have hov : ∀ lb cb off, (callFunc 99 #[.slice (some ⟨vb, 0, none⟩) 1 1, .slice (some ⟨g, off, none⟩) lb cb]).run Try.prog w = .ok (.value (.bool false)) w := fun lb cb off => by
    rw [run_callFunc_extern Try.func99 (by kernel_rfl) (by kernel_rfl) (by kernel_rfl) (e := Extern.SlicesOverlaps.overlaps #[22, 22] #[4]) (by kernel_rfl),
      Lib.run_overlaps_apart w 22 4 24 Try.underlying22 5 hsz ⟨vb, 0, none⟩ ⟨g, off, none⟩ 1 1 lb cb hne 24 24 5 cur.size (by have := hv.raw; simp [World.shape?, this, hl]) (by simp [World.shape?, hg]) (by omega) (hv.frozen 0) (hv.frozen 5)]
    rfl
  have hcells : ∀ j u, ls[j]? = some u → w.cell? ⟨vb, j, none⟩ = some u := fun j u hu => hv.at_ (by simpa using hu)
  have hxc : ∀ j u, xs[j]? = some u → w.cell? ⟨g, j, none⟩ = some u := fun j u hu => by
    rw [cell_of_row w g j cur 24 (0, 0) hg, ← hu, ← hcx, List.getElem?_take_of_lt (by have := (List.getElem?_eq_some_iff.1 hu).1; omega)]; simp
  obtain ⟨ds, hds⟩ : ∃ ds, ds = xs.drop (i * 5) := ⟨_, rfl⟩
  have hdl : ds.length = (n - i) * 5 := by rw [hds, List.length_drop, hxl]; omega
  obtain ⟨c1, hc1⟩ : ∃ c1, c1 = (cur.toList.take (i * 5 + 5) ++ ds ++ cur.toList.drop (i * 5 + 5 + ds.length)).toArray := ⟨_, rfl⟩
  obtain ⟨c2, hc2⟩ : ∃ c2, c2 = (c1.toList.take (i * 5) ++ ls ++ c1.toList.drop (i * 5 + ls.length)).toArray := ⟨_, rfl⟩
  have hc1s : c1.size = cur.size := by rw [hc1]; simp; omega
  have hc2s : c2.size = cur.size := by rw [hc2]; simp [hc1s]; omega
  have hcp1 : ∀ ty dc sc, (Builtin.copy_ #[22, 22] ty #[.slice (some ⟨g, (i + 1) * 5, none⟩) (n - i) dc, .slice (some ⟨g, i * 5, none⟩) (n + 1 - i) sc]).run Try.prog w.drew = .ok (goInt ((n - i : Nat) : Int)) (w.drew.setRow g c1) := fun ty dc sc => by
    have := run_copy5 (w := w.drew) 22 ty Try.underlying22 hi0 hz1 g ((i + 1) * 5) (n - i) dc ⟨g, i * 5, none⟩ (n + 1 - i) sc (n - i) cur 24 ds hg (by simp only [Nat.min_def]; split <;> omega) hdl (fun j v hj => by
      rw [Addr.add_lit]; exact hxc _ _ (by rw [hds, List.getElem?_drop] at hj; exact hj)) (by rw [hdl]; omega) (fun u hu => hx1 u (by rw [hds] at hu; exact List.mem_of_mem_drop hu))
    rw [show (i + 1) * 5 = i * 5 + 5 by omega] at this ⊢
    rw [hc1]; exact this
  have hg1 : (w.drew.setRow g c1).heap[g]? = some (.cells c1 24 (0, 0)) := setRow_heap w.drew g cur c1 24 _ hg
  have hcp2 : ∀ (W : World), W.heap = (w.drew.setRow g c1).heap → ∀ ty dc, (Builtin.copy_ #[22, 22] ty #[.slice (some ⟨g, i * 5, none⟩) (n + 1 - i) dc, .slice (some ⟨vb, 0, none⟩) 1 1]).run Try.prog W = .ok (goInt ((1 : Nat) : Int)) (W.setRow g c2) := fun W hW ty dc => by
    have := run_copy5 (w := W) 22 ty Try.underlying22 hi0 hz1 g (i * 5) (n + 1 - i) dc ⟨vb, 0, none⟩ 1 1 1 c1 24 ls (by rw [hW]; exact hg1) (by simp only [Nat.min_def]; split <;> omega) (by omega) (fun j v hj => by
      rw [Addr.add_lit, Nat.zero_add]
      have h9 : W.heap[vb]? = w.heap[vb]? := by rw [hW]; exact setRow_other w.drew g vb c1 hne
      exact (cell_same h9 j).trans (hcells j v hj)) (by omega) h1
    rw [hc2]; exact this
  obtain ⟨W1, hW1⟩ : ∃ W1, W1 = w.drew.setRow g c1 := ⟨_, rfl⟩
  rw [← hW1] at hcp1 hcp2 hg1
  have hW1h : ∀ b, b ≠ g → W1.heap[b]? = w.heap[b]? := fun b hb => by rw [hW1]; exact setRow_other w.drew g b c1 hb
  have hW1s : W1.heap.size = w.heap.size := by rw [hW1]; simp [World.setRow]
  have hfin : ∀ W : World, W.heap = W1.heap → W.os = w.os → W.tape = w.tape → W.output = w.output → InsR B (.slice (some ⟨g, 0, none⟩) n cap) n i xs ls w (.returned (.slice (some ⟨g, 0, none⟩) (n + 1) cap)) (W.setRow g c2) := fun W hW ho1 ho2 ho3 => by
    refine ⟨_, rfl, row_ins (cur := c2) (setRow_heap W g c1 c2 24 _ (by rw [hW]; exact hg1)) hBg (by rw [hc2s]; exact hcs) hroom hcm (by simp [hl, hxl]; omega) ?_, ⟨ho1, ho2, ho3, by simp [World.setRow, hW, hW1s], fun b hb hbg => ?_⟩, .inl rfl⟩
    · have := splice_in (cur := cur.toList) (ls := ls) (N := n * 5) (i := i * 5) (by omega) hl (by rw [Array.length_toList]; omega)
      rw [hcx, ← hds] at this
      rw [← hds, ← this, hc2, hc1, hl, show (n + 1) * 5 = n * 5 + 5 by omega]
    · rw [setRow_other W g b c2 (fun e => hbg (by rw [e]; rfl)), hW]
      exact hW1h b (fun e => hbg (by rw [e]; rfl))
  have HOS : Hid (W1.os = w.os ∧ W1.tape = w.tape ∧ W1.output = w.output) := by rw [hW1]; exact ⟨rfl, rfl, rfl⟩
  have HFIN := Lib.hid hfin
  have HCP1 := Lib.hid hcp1
  have HCP2 := Lib.hid hcp2
  have HOV := Lib.hid hov
  have hw1 : IntKind.i64.wrap ((i : Int) + 1) = (i : Int) + 1 := by rw [IntKind.wrap_i64]; omega
  have hb1 : (0 : Int) ≤ (i : Int) + 1 := by omega
  have htn : ((i : Int) + 1).toNat = i + 1 := by omega
  have hb2 : ¬ (cap = i + 1) := by omega
  have hb4 : ¬ (cap = i) := by omega
  have hin : i ≤ n := by omega
  have hin2 : i ≤ n + 1 := by omega
  have hb3 : (i : Int) ≤ (n : Int) + 1 := by omega
  have hb5 : ((i : Int) == (n : Int)) = false := by simp; omega
  clear hR hv hl h1 hx1 hxl hBg hg hcm hcs hcx hsz hov hcells hxc hds hdl hc1 hc2 hc1s hc2s hcp1 hcp2 hg1 hW1h hW1s hfin hi0 hz0 hz1 hz2 hW1
  go_enter Try.func66, Try.ntmps66
  go_wp2_with (simp only [HOV.out])
  go_region_law (refine step_copy_runI rfl (.tmp 73) (.tmp 76) 22 22 rfl (.slice (some ⟨g, (i + 1) * 5, none⟩) (n - i) (cap - (i + 1))) (.slice (some ⟨g, i * 5, none⟩) (n + 1 - i) (cap - i)) (by simp [Act.eval, Act.put]) (by simp [Act.eval, Act.put]) (HCP1.out _ _ _) ?_)
  go_wp2_with ((with_reducible refine wpList_copy_runI _ rfl (.tmp 80) (.tmp 81) 22 22 rfl (.slice (some ⟨g, i * 5, none⟩) (n + 1 - i) (cap - i)) (.slice (some ⟨vb, 0, none⟩) 1 1) rfl rfl (HCP2.out _ rfl _ _) ?_))
  refine ret_getD (v := .slice (some ⟨g, 0, none⟩) (n + 1) cap) (u := .slice (some ⟨g, 0, none⟩) (n + 1) cap) ?_ rfl
  rw [HR.out]
  exact HFIN.out W1 rfl HOS.out.1 HOS.out.2.1 HOS.out.2.2
set_option maxHeartbeats 4000000 in
set_option maxRecDepth 100000 in
theorem insert_out (B g n cap i vb : Nat) (xs ls : List Value) (w : World) (ho : w.ownsRow B 24 5 (.slice (some ⟨g, 0, none⟩) n cap) n xs) (hv : Blk w vb 24 ls.toArray) (hl : ls.length = 5) (h1 : ∀ u ∈ ls, u.oneCell' = true) (hx1 : ∀ u ∈ xs, u.oneCell' = true) (hn : n ≤ 100000) (hi : i < n) (hroom : cap < n + 1) (hB : B ≤ w.heap.size) :
    Calls Try.prog 66 #[.slice (some ⟨g, 0, none⟩) n cap, .int .i64 (i : Int), .slice (some ⟨vb, 0, none⟩) 1 1] w (InsR B (.slice (some ⟨g, 0, none⟩) n cap) n i xs ls w) := by
  obtain ⟨R, hR⟩ : ∃ R, R = InsR B (.slice (some ⟨g, 0, none⟩) n cap) n i xs ls w := ⟨_, rfl⟩
  rw [← hR]
  have HR := Lib.hid hR
  obtain ⟨i0, hi0, hz0, hz1, hz2⟩ := con_info
  obtain ⟨hxl, hcase⟩ := ho
  rcases hcase with ⟨h3, _⟩ | ⟨g', cap', cur, h3, hBg, hg, hnc, hcm, hcs, hcx⟩
  · cases h3
  obtain ⟨e1, -, rfl⟩ := Value.slice.inj h3
  have e1 := Option.some.inj e1
  injection e1 with e1
  subst e1
  clear h3
  obtain rfl : cap = n := by omega
  have hcells : ∀ j u, ls[j]? = some u → w.cell? ⟨vb, j, none⟩ = some u := fun j u hu => hv.at_ (by simpa using hu)
  have hxc : ∀ j u, xs[j]? = some u → w.cell? ⟨g, j, none⟩ = some u := fun j u hu => by
    rw [cell_of_row w g j cur 24 (0, 0) hg, ← hu, ← hcx, List.getElem?_take_of_lt (by have := (List.getElem?_eq_some_iff.1 hu).1; omega)]; simp
  have hgl : g < w.heap.size := by have := (Array.getElem?_eq_some_iff.1 hg).1; exact this
  have hvl := hv.lt
  obtain ⟨G, hG⟩ : ∃ G, G = grownCap w (cap + 1) cap 24 := ⟨_, rfl⟩
  have hGn : cap + 1 ≤ G := by rw [hG]; exact grownCap_ge w _ _ _
  have hGm : G ≤ maxLen := by rw [hG]; exact grownCap_le_maxLen w (cap + 1) cap 24 (by unfold maxLen; omega)
  have hold : (Builtin.firstCells i0.size i (.slice (some ⟨g, 0, none⟩) i cap)).run Try.prog w.drew = .ok (xs.take (i * 5)).toArray w.drew := by
    rw [hz1]
    exact run_firstCells_some w.drew 5 i ⟨g, 0, none⟩ i cap (xs.take (i * 5)) (by rw [List.length_take]; omega) (fun j v hj => by
      rw [Addr.add_lit, Nat.zero_add]
      rw [List.getElem?_take] at hj
      split at hj
      · exact hxc j v hj
      · cases hj)
  obtain ⟨ROW, hROW⟩ : ∃ ROW : Array Value, ROW = (xs.take (i * 5)).toArray ++ Builtin.zeroCells (Value.agg #[.int .i64 0, .int .i64 0, .int .i64 0, .int .i64 0, .slice none 0 0]).cells (cap + 1 - i) ++ Builtin.zeroCells (Value.agg #[.int .i64 0, .int .i64 0, .int .i64 0, .int .i64 0, .slice none 0 0]).cells (G - (cap + 1)) := ⟨_, rfl⟩
  have hkk : (cap : Int) + 1 - (i : Int) = ((cap + 1 - i : Nat) : Int) := by omega
  have hik : i + (cap + 1 - i) = cap + 1 := by omega
  have hrz : ∀ ty, (Builtin.append_ #[22, 3] ty #[.slice (some ⟨g, 0, none⟩) i cap, .int .i64 ((cap : Int) + 1 - (i : Int))]).run Try.prog w =
      .ok (.slice (some ⟨w.heap.size, 0, none⟩) (cap + 1) G) (w.drew.alloc (.cells ROW 24)) := fun ty => by
    have h := Lib.run_append_grow_zeros w 22 3 ty 24 i0 _ .i64 .i64 Try.underlying22 Try.underlying3 hi0 hz0 (some ⟨g, 0, none⟩) i cap (xs.take (i * 5)) hold (cap + 1 - i) (by omega) (by omega) (by omega) (by omega) (by rw [hz2]; omega) (by rw [hz2, hik]; exact growslice_fits hroom (by omega))
    rw [hik] at h
    rw [hkk, hROW, hG]
    exact h
  obtain ⟨Zr, hZr⟩ : ∃ Zr : List Value, ROW.toList = xs.take (i * 5) ++ Zr := ⟨_, by rw [hROW, Array.toList_append, Array.toList_append, List.append_assoc]⟩
  have hRs : ROW.size = G * 5 := by
    rw [hROW]
    simp only [Array.size_append, size_zeroCells, List.size_toArray, List.length_take, hxl]
    simp [Value.cells]; omega
  obtain ⟨W0, hW0⟩ : ∃ W0, W0 = w.drew.alloc (.cells ROW 24) := ⟨_, rfl⟩
  rw [← hW0] at hrz
  have hN0 : W0.heap[w.heap.size]? = some (.cells ROW 24 (0, 0)) := by rw [hW0]; exact heap_alloc_new w.drew _
  have hO0 : ∀ b, b < w.heap.size → W0.heap[b]? = w.heap[b]? := fun b hb => by rw [hW0]; exact Below.heap_alloc w.drew _ b hb
  have hS0 : W0.heap.size = w.heap.size + 1 := by rw [hW0]; simp [World.alloc]
  obtain ⟨ds, hds⟩ : ∃ ds, ds = xs.drop (i * 5) := ⟨_, rfl⟩
  have hdl : ds.length = (cap - i) * 5 := by rw [hds, List.length_drop, hxl]; omega
  obtain ⟨c1, hc1⟩ : ∃ c1, c1 = (ROW.toList.take (i * 5) ++ ls ++ ROW.toList.drop (i * 5 + ls.length)).toArray := ⟨_, rfl⟩
  obtain ⟨c2, hc2⟩ : ∃ c2, c2 = (c1.toList.take (i * 5 + 5) ++ ds ++ c1.toList.drop (i * 5 + 5 + ds.length)).toArray := ⟨_, rfl⟩
  have hc1s : c1.size = ROW.size := by rw [hc1]; simp; omega
  have hc2s : c2.size = ROW.size := by rw [hc2]; simp [hc1s]; omega
  have hcpA : ∀ ty dc, (Builtin.copy_ #[22, 22] ty #[.slice (some ⟨w.heap.size, i * 5, none⟩) (cap + 1 - i) dc, .slice (some ⟨vb, 0, none⟩) 1 1]).run Try.prog W0 = .ok (goInt ((1 : Nat) : Int)) (W0.setRow w.heap.size c1) := fun ty dc => by
    have := run_copy5 (w := W0) 22 ty Try.underlying22 hi0 hz1 w.heap.size (i * 5) (cap + 1 - i) dc ⟨vb, 0, none⟩ 1 1 1 ROW 24 ls hN0 (by simp only [Nat.min_def]; split <;> omega) (by omega) (fun j v hj => by
      rw [Addr.add_lit, Nat.zero_add]; exact (cell_same (hO0 vb hvl) j).trans (hcells j v hj)) (by omega) h1
    rw [hc1]; exact this
  obtain ⟨W1, hW1⟩ : ∃ W1, W1 = W0.setRow w.heap.size c1 := ⟨_, rfl⟩
  rw [← hW1] at hcpA
  have hN1 : W1.heap[w.heap.size]? = some (.cells c1 24 (0, 0)) := by rw [hW1]; exact setRow_heap W0 w.heap.size ROW c1 24 _ hN0
  have hO1 : ∀ b, b < w.heap.size → W1.heap[b]? = w.heap[b]? := fun b hb => by rw [hW1, setRow_other W0 w.heap.size b c1 (by omega)]; exact hO0 b hb
  have hcpB : ∀ ty dc sc, (Builtin.copy_ #[22, 22] ty #[.slice (some ⟨w.heap.size, (i + 1) * 5, none⟩) (cap - i) dc, .slice (some ⟨g, i * 5, none⟩) (cap - i) sc]).run Try.prog W1.drew = .ok (goInt ((cap - i : Nat) : Int)) (W1.drew.setRow w.heap.size c2) := fun ty dc sc => by
    have := run_copy5 (w := W1.drew) 22 ty Try.underlying22 hi0 hz1 w.heap.size ((i + 1) * 5) (cap - i) dc ⟨g, i * 5, none⟩ (cap - i) sc (cap - i) c1 24 ds hN1 (by simp only [Nat.min_def]; split <;> omega) hdl (fun j v hj => by
      rw [Addr.add_lit]; exact (cell_same (w := w) (w' := W1.drew) (hO1 g hgl) _).trans (hxc _ _ (by rw [hds, List.getElem?_drop] at hj; exact hj))) (by rw [hdl]; omega) (fun u hu => hx1 u (by rw [hds] at hu; exact List.mem_of_mem_drop hu))
    rw [show (i + 1) * 5 = i * 5 + 5 by omega] at this ⊢
    rw [hc2]; exact this
  obtain ⟨W2, hW2⟩ : ∃ W2, W2 = W1.drew.setRow w.heap.size c2 := ⟨_, rfl⟩
  rw [← hW2] at hcpB
  have hfin : InsR B (.slice (some ⟨g, 0, none⟩) cap cap) cap i xs ls w (.returned (.slice (some ⟨w.heap.size, 0, none⟩) (cap + 1) G)) W2 := by
    refine ⟨_, rfl, row_ins (cur := c2) ?_ hB (by rw [hc2s]; exact hRs) hGn hGm (by simp [hl, hxl]; omega) ?_, ⟨?_, ?_, ?_, ?_, fun b hb hbg => ?_⟩, .inr ⟨_, rfl, Nat.le_refl _⟩⟩
    · rw [hW2]; exact setRow_heap W1.drew w.heap.size c1 c2 24 _ hN1
    · have := splice_new (xs := xs) (ls := ls) (Z := Zr) (N := cap * 5) (i := i * 5) (by omega) hxl hl
      rw [← hZr, ← hds] at this
      rw [← hds, ← this, hc2, hc1, hl, show (cap + 1) * 5 = cap * 5 + 5 by omega]
    · rw [hW2, hW1, hW0]; rfl
    · rw [hW2, hW1, hW0]; rfl
    · rw [hW2, hW1, hW0]; rfl
    · rw [hW2, hW1]; simp only [World.setRow, Array.size_modify]; show _ ≤ (W0.setRow w.heap.size c1).heap.size; simp only [World.setRow, Array.size_modify]; omega
    · rw [hW2, setRow_other W1.drew w.heap.size b c2 (by omega)]; exact hO1 b hb
  have HFIN := Lib.hid hfin
  have HRZ := Lib.hid hrz
  have HCPA := Lib.hid hcpA
  have HCPB := Lib.hid hcpB
  have hw1 : IntKind.i64.wrap ((i : Int) + 1) = (i : Int) + 1 := by rw [IntKind.wrap_i64]; omega
  have hb1 : (0 : Int) ≤ (i : Int) + 1 := by omega
  have htn : ((i : Int) + 1).toNat = i + 1 := by omega
  have hG1 : ¬ (G = i) := by omega
  have hG2 : ¬ (G = i + 1) := by omega
  have hb4 : ¬ (cap = i) := by omega
  have hin : i ≤ cap := by omega
  have hin2 : i ≤ cap + 1 := by omega
  have hb3 : (i : Int) ≤ (cap : Int) := by omega
  have hb6 : (i : Int) ≤ (cap : Int) + 1 := by omega
  have hb5 : ((i : Int) == (cap : Int)) = false := by simp; omega
  have hgm : G ≤ 9223372036854775807 := by unfold maxLen at hGm; omega
  clear hR hv hl h1 hx1 hxl hBg hg hcm hcs hcx hcells hxc hds hdl hc1 hc2 hc1s hc2s hcpA hcpB hrz hfin hi0 hz0 hz1 hz2 hW1 hW0 hW2 hN0 hN1 hO0 hO1 hS0 hkk hik hold hROW hZr hRs hG hGm hB hvl hgl
  go_enter Try.func66, Try.ntmps66
  go_wp2_with (first
    | (at_builtin; refine Lib.wpList_append_run _ rfl (.tmp 34) (.tmp 39) 22 3 rfl _ _ rfl rfl _ _ (HRZ.out _) ?_)
    | (with_reducible refine wpList_copy_runI _ rfl (.tmp 43) (.tmp 44) 22 22 rfl (.slice (some ⟨w.heap.size, i * 5, none⟩) (cap + 1 - i) (G - i)) (.slice (some ⟨vb, 0, none⟩) 1 1) rfl rfl (HCPA.out _ _) ?_))
  go_region_law (refine step_copy_runI rfl (.tmp 50) (.tmp 53) 22 22 rfl (.slice (some ⟨w.heap.size, (i + 1) * 5, none⟩) (cap - i) (G - (i + 1))) (.slice (some ⟨g, i * 5, none⟩) (cap - i) (cap - i)) (by simp [Act.eval, Act.put]) (by simp [Act.eval, Act.put]) (HCPB.out _ _ _) ?_)
  go_wp2_with fail
  refine ret_getD (v := .slice (some ⟨w.heap.size, 0, none⟩) (cap + 1) G) (u := .slice (some ⟨w.heap.size, 0, none⟩) (cap + 1) G) ?_ rfl
  rw [HR.out]
  exact HFIN.out
theorem insert_c (B : Nat) (v : Value) (n i vb : Nat) (xs ls : List Value) (w : World) (ho : w.ownsRow B 24 5 v n xs) (hv : Blk w vb 24 ls.toArray) (hl : ls.length = 5) (h1 : ∀ u ∈ ls, u.oneCell' = true) (hx1 : ∀ u ∈ xs, u.oneCell' = true) (hn : n ≤ 100000) (hi : i ≤ n) (hne : ∀ r, v.ownBlock = some r → vb ≠ r) (hB : B ≤ w.heap.size) :
    Calls Try.prog 66 #[v, .int .i64 (i : Int), .slice (some ⟨vb, 0, none⟩) 1 1] w (InsR B v n i xs ls w) := by
  rcases Nat.lt_or_ge i n with h | h
  · obtain ⟨g, cap, hgv, _, _⟩ := ho.form (by omega)
    subst hgv
    rcases Nat.lt_or_ge cap (n + 1) with h2 | h2
    · exact insert_out B g n cap i vb xs ls w ho hv hl h1 hx1 hn h h2 hB
    · exact insert_in B g n cap i vb xs ls w ho hv hl h1 hx1 hn h h2 (hne g rfl)
  · obtain rfl : i = n := by omega
    exact insert_end B v i vb xs ls w ho hv hl h1 hn hB
end Go.Proofs.Ytjlkmcoamcclgaa.Co
