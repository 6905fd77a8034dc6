/- Two leaves in memory change places: their clients, and when they were seen. slices.Insert of one container. A split's kids become others in memory, in place or elsewhere: an insertion. cons.Insert. cons.Swap. -/
import Derived.Test.YtjeabkcbaielhaaBA
import Derived.Test.YtjeabkcbaielhaaCpZ
import Derived.Lib.AppendZerosOnto
import Derived.Lib.Overlaps
import Derived.Shelf.Spec.SlicesInsert
import Derived.Maps.AppendAt
import Derived.Laws.CopyRow
import Derived.Test.YtjeabkcbaielhaaCpS
section
namespace Go.Proofs.Ytjeabkcbaielhaa.Co
open Go.RowKit Go.Shelf
section
variable {w : World} {N r : Nat} {t s p q : ATr} {u v : List Nat}
end
/-- A leaf that becomes another leaf changes no place. -/
theorem loc_put : ∀ {v u : List Nat} {b o : Nat} {t s s' : ATr}, get t v = some s → s.ks = [] → s'.ks = [] → loc b o (put t v s') u = loc b o t u := by
  intro v
  induction v with
  | nil =>
    intro u b o t s s' h hk hk'
    simp only [get] at h; have h := Option.some.inj h; subst h
    simp only [put]
    obtain ⟨a, ks⟩ := t
    obtain ⟨a', ks'⟩ := s'
    simp only [Tr.ks_mk] at hk hk'
    subst hk hk'
    cases u <;> rfl
  | cons i r ih =>
    intro u b o t s s' h hk hk'
    obtain ⟨a, ks⟩ := t
    obtain ⟨z, hz, hr⟩ := get_consP h
    rw [put_consI hz]
    cases u with
    | nil => rfl
    | cons j q =>
      simp only [loc]
      by_cases e : i = j
      · subst e
        rw [List.getElem?_set_self (List.getElem?_eq_some_iff.1 hz).1, hz]
        exact ih hr hk hk'
      · rw [List.getElem?_set_ne e]
theorem frozen_set (w : World) (p q : Addr) (v : Value) : (w.setCell p v).frozen? q = w.frozen? q := by simp [go_sem]
end Go.Proofs.Ytjeabkcbaielhaa.Co
end
section
namespace Go.Proofs.Ytjeabkcbaielhaa.Co
open Go.RowKit Go.Shelf Go.Lib Go.Maps
theorem run_copy5 {e : TypeId} {i : TypeInfo} (w : World) (T ty : TypeId) (hT : Try.prog.underlying T = some (.slice e)) (hi : Try.prog.info? e = some i) (h5 : i.size = 5) (g o dLen dCap : Nat) (a : Addr) (sLen sCap n : Nat) (cur : Array Value) (t : TypeId) (cs : List Value)
    (hg : w.heap[g]? = some (.cells cur t (0, 0))) (hm : n = Nat.min sLen dLen) (hn : cs.length = n * 5)
    (hsrc : ∀ j v, cs[j]? = some v → w.cell? (a.add j) = some v) (hfit : o + cs.length ≤ cur.size) (h1 : ∀ v ∈ cs, v.oneCell' = true) :
    (Builtin.copy_ #[T, T] ty #[.slice (some ⟨g, o, none⟩) dLen dCap, .slice (some a) sLen sCap]).run Try.prog w =
      .ok (goInt n) (w.setRow g (cur.toList.take o ++ cs ++ cur.toList.drop (o + cs.length)).toArray) := by
  have hl := run_loadCells_list (P := Try.prog) w a cs hsrc
  have hst := run_storeCells_at Try.prog g o t cs 0 cur w hg (by simpa using hfit) h1
  rw [hn] at hl
  simp [Builtin.copy_, run_underlying hT, Builtin.lenOf, Builtin.firstCells, sizeOf, typeInfo, hi, h5, ← hm, hl, hst]
theorem splice_in {cur ls : List Value} {N i : Nat} (hi : i ≤ N) (hl : ls.length = 5) (hN : N + 5 ≤ cur.length) :
    (((cur.take (i + 5) ++ (cur.take N).drop i ++ cur.drop (i + 5 + ((cur.take N).drop i).length)).take i ++ ls ++ (cur.take (i + 5) ++ (cur.take N).drop i ++ cur.drop (i + 5 + ((cur.take N).drop i).length)).drop (i + 5))).take (N + 5) = (cur.take N).take i ++ ls ++ (cur.take N).drop i := by
  have e1 : (cur.take (i + 5) ++ (cur.take N).drop i ++ cur.drop (i + 5 + ((cur.take N).drop i).length)).take i = (cur.take N).take i := by
    rw [List.append_assoc, List.take_append_of_le_length (by simp; omega), List.take_take, List.take_take]
    congr 1; omega
  have e2 : (cur.take (i + 5) ++ (cur.take N).drop i ++ cur.drop (i + 5 + ((cur.take N).drop i).length)).drop (i + 5) = (cur.take N).drop i ++ cur.drop (i + 5 + ((cur.take N).drop i).length) := by
    rw [List.append_assoc, List.drop_append_of_le_length (by simp; omega)]
    simp
  rw [e1, e2, ← List.append_assoc]
  exact List.take_left' (by simp [hl]; omega)
theorem splice_new {xs ls Z : List Value} {N i : Nat} (hi : i ≤ N) (hx : xs.length = N) (hl : ls.length = 5) :
    ((((xs.take i ++ Z).take i ++ ls ++ (xs.take i ++ Z).drop (i + 5)).take (i + 5) ++ xs.drop i ++ ((xs.take i ++ Z).take i ++ ls ++ (xs.take i ++ Z).drop (i + 5)).drop (i + 5 + (xs.drop i).length))).take (N + 5) = xs.take i ++ ls ++ xs.drop i := by
  have e0 : (xs.take i).length = i := by simp; omega
  have e1 : (xs.take i ++ Z).take i = xs.take i := List.take_left' e0
  have e2 : (xs.take i ++ ls ++ (xs.take i ++ Z).drop (i + 5)).take (i + 5) = xs.take i ++ ls := List.take_left' (by simp [hl]; omega)
  rw [e1, e2]
  exact List.take_left' (by simp [hl]; omega)
theorem row_ins {w' : World} {g n cap : Nat} {cur : Array Value} {B : Nat} {xs : List Value} (hg : w'.heap[g]? = some (.cells cur 24 (0, 0))) (hB : B ≤ g) (hs : cur.size = cap * 5) (hn : n ≤ cap) (hm : cap ≤ maxLen) (hl : xs.length = n * 5) (hx : cur.toList.take (n * 5) = xs) :
    w'.ownsRow B 24 5 (.slice (some ⟨g, 0, none⟩) n cap) n xs :=
  ⟨hl, .inr ⟨g, cap, cur, rfl, hB, hg, hn, hm, hs, hx⟩⟩
/-- What an insertion leaves. -/
def InsR (B : Nat) (v : Value) (n i : Nat) (xs ls : List Value) (w : World) (e : Ending) (w' : World) : Prop :=
  ∃ v', e = .returned v' ∧ w'.ownsRow B 24 5 v' (n + 1) (xs.take (i * 5) ++ ls ++ xs.drop (i * 5)) ∧ w.grownBy w' v.ownBlock ∧ (v'.ownBlock = v.ownBlock ∨ ∃ r, v'.ownBlock = some r ∧ w.heap.size ≤ r)
set_option maxHeartbeats 2000000 in
set_option maxRecDepth 100000 in
theorem insert_end (B : Nat) (v : Value) (n vb : Nat) (xs ls : List Value) (w : World) (ho : w.ownsRow B 24 5 v n xs) (hv : Blk w vb 24 ls.toArray) (hl : ls.length = 5) (h1 : ∀ u ∈ ls, u.oneCell' = true) (hn : n ≤ 100000) (hB : B ≤ w.heap.size) :
    Calls Try.prog 66 #[v, .int .i64 (n : Int), .slice (some ⟨vb, 0, none⟩) 1 1] w (InsR B v n n xs ls w) := by
  obtain ⟨R, hR⟩ : ∃ R, R = InsR B v n n xs ls w := ⟨_, rfl⟩
  rw [← hR]
  have HR := Lib.hid hR
  obtain ⟨p, cap, rfl⟩ := row_slice ho
  obtain ⟨i0, hi0, hz0, hz1, hz2⟩ := con_info
  have hcap : n ≤ cap := by
    rcases ho.2 with ⟨h3, h4⟩ | ⟨g', c', cur, h3, _, h5, h4, _⟩
    · omega
    · obtain ⟨-, -, rfl⟩ := Value.slice.inj h3; exact h4
  have hcells : ∀ j u, ls[j]? = some u → w.cell? ((⟨vb, 0, none⟩ : Addr).add j) = some u := fun j u hu => by
    rw [show (⟨vb, 0, none⟩ : Addr).add j = ⟨vb, j, none⟩ by unfold Addr.add; split <;> simp_all]
    exact hv.at_ (by simpa using hu)
  have HO := Lib.hid ho
  have HC := Lib.hid hcells
  have H1 := Lib.hid h1
  have HL := Lib.hid hl
  have HBB := Lib.hid hB
  clear hR ho hv hl h1 hcells hB
  go_enter Try.func66, Try.ntmps66
  go_wp2_with (at_builtin; (refine wpList_append_own_at _ rfl (.tmp 23) (.tmp 24) 22 rfl B 24 i0 (.agg #[.int .i64 0, .int .i64 0, .int .i64 0, .int .i64 0, .slice none 0 0]) 5 56 Try.underlying22 hi0 hz0 hz1 hz2 rfl (by decide) _ n xs rfl HO.out ⟨vb, 0, none⟩ 1 1 ls rfl HL.out HC.out H1.out (by unfold maxLen; omega) (by omega) HBB.out ?_; intro v7 w7 ho7 hg7 hn7 hb7; have HO7 := Lib.hid ho7; have HG7 := Lib.hid hg7; have HB7 := Lib.hid hb7; clear ho7 hg7 hn7 hb7))
  all_goals
    show R (.returned v7) w7
    rw [HR.out]
    have hxl := HO.out.1
    refine ⟨v7, rfl, ?_, HG7.out, HB7.out.imp id fun h => ⟨_, h, Nat.le_refl _⟩⟩
    rw [List.take_of_length_le (by omega), List.drop_of_length_le (by omega), List.append_nil]
    exact HO7.out
set_option maxHeartbeats 4000000 in
set_option maxRecDepth 100000 in
theorem insert_in (B g n cap i vb : Nat) (xs ls : List Value) (w : World) (ho : w.ownsRow B 24 5 (.slice (some ⟨g, 0, none⟩) n cap) n xs) (hv : Blk w vb 24 ls.toArray) (hl : ls.length = 5) (h1 : ∀ u ∈ ls, u.oneCell' = true) (hx1 : ∀ u ∈ xs, u.oneCell' = true) (hn : n ≤ 100000) (hi : i < n) (hroom : n + 1 ≤ cap) (hne : vb ≠ g) :
    Calls Try.prog 66 #[.slice (some ⟨g, 0, none⟩) n cap, .int .i64 (i : Int), .slice (some ⟨vb, 0, none⟩) 1 1] w (InsR B (.slice (some ⟨g, 0, none⟩) n cap) n i xs ls w) := by
  obtain ⟨R, hR⟩ : ∃ R, R = InsR B (.slice (some ⟨g, 0, none⟩) n cap) n i xs ls w := ⟨_, rfl⟩
  rw [← hR]
  have HR := Lib.hid hR
  obtain ⟨i0, hi0, hz0, hz1, hz2⟩ := con_info
  obtain ⟨hxl, hcase⟩ := ho
  rcases hcase with ⟨h3, _⟩ | ⟨g', cap', cur, h3, hBg, hg, hnc, hcm, hcs, hcx⟩
  · cases h3
  obtain ⟨e1, -, rfl⟩ := Value.slice.inj h3
  have e1 := Option.some.inj e1
  injection e1 with e1
  subst e1
  clear h3
  have hsz : ∀ w, (Go.sizeOf 24).run Try.prog w = .ok 5 w := fun w => by simp [Go.sizeOf, typeInfo, hi0, hz1]
  have hov : ∀ lb cb off, (callFunc 99 #[.slice (some ⟨vb, 0, none⟩) 1 1, .slice (some ⟨g, off, none⟩) lb cb]).run Try.prog w = .ok (.value (.bool false)) w := fun lb cb off => by
    rw [run_callFunc_extern Try.func99 (by kernel_rfl) (by kernel_rfl) (by kernel_rfl) (e := Extern.SlicesOverlaps.overlaps #[22, 22] #[4]) (by kernel_rfl),
      Lib.run_overlaps_apart w 22 4 24 Try.underlying22 5 hsz ⟨vb, 0, none⟩ ⟨g, off, none⟩ 1 1 lb cb hne 24 24 5 cur.size (by have := hv.raw; simp [World.shape?, this, hl]) (by simp [World.shape?, hg]) (by omega) (hv.frozen 0) (hv.frozen 5)]
    rfl
  have hcells : ∀ j u, ls[j]? = some u → w.cell? ⟨vb, j, none⟩ = some u := fun j u hu => hv.at_ (by simpa using hu)
  have hxc : ∀ j u, xs[j]? = some u → w.cell? ⟨g, j, none⟩ = some u := fun j u hu => by
    rw [cell_of_row w g j cur 24 (0, 0) hg, ← hu, ← hcx, List.getElem?_take_of_lt (by have := (List.getElem?_eq_some_iff.1 hu).1; omega)]; simp
  obtain ⟨ds, hds⟩ : ∃ ds, ds = xs.drop (i * 5) := ⟨_, rfl⟩
  have hdl : ds.length = (n - i) * 5 := by rw [hds, List.length_drop, hxl]; omega
  obtain ⟨c1, hc1⟩ : ∃ c1, c1 = (cur.toList.take (i * 5 + 5) ++ ds ++ cur.toList.drop (i * 5 + 5 + ds.length)).toArray := ⟨_, rfl⟩
  obtain ⟨c2, hc2⟩ : ∃ c2, c2 = (c1.toList.take (i * 5) ++ ls ++ c1.toList.drop (i * 5 + ls.length)).toArray := ⟨_, rfl⟩
  have hc1s : c1.size = cur.size := by rw [hc1]; simp; omega
  have hc2s : c2.size = cur.size := by rw [hc2]; simp [hc1s]; omega
  have hcp1 : ∀ ty dc sc, (Builtin.copy_ #[22, 22] ty #[.slice (some ⟨g, (i + 1) * 5, none⟩) (n - i) dc, .slice (some ⟨g, i * 5, none⟩) (n + 1 - i) sc]).run Try.prog w.drew = .ok (goInt ((n - i : Nat) : Int)) (w.drew.setRow g c1) := fun ty dc sc => by
    have := run_copy5 (w := w.drew) 22 ty Try.underlying22 hi0 hz1 g ((i + 1) * 5) (n - i) dc ⟨g, i * 5, none⟩ (n + 1 - i) sc (n - i) cur 24 ds hg (by simp only [Nat.min_def]; split <;> omega) hdl (fun j v hj => by
      rw [Addr.add_lit]; exact hxc _ _ (by rw [hds, List.getElem?_drop] at hj; exact hj)) (by rw [hdl]; omega) (fun u hu => hx1 u (by rw [hds] at hu; exact List.mem_of_mem_drop hu))
    rw [show (i + 1) * 5 = i * 5 + 5 by omega] at this ⊢
    rw [hc1]; exact this
  have hg1 : (w.drew.setRow g c1).heap[g]? = some (.cells c1 24 (0, 0)) := setRow_heap w.drew g cur c1 24 _ hg
  have hcp2 : ∀ (W : World), W.heap = (w.drew.setRow g c1).heap → ∀ ty dc, (Builtin.copy_ #[22, 22] ty #[.slice (some ⟨g, i * 5, none⟩) (n + 1 - i) dc, .slice (some ⟨vb, 0, none⟩) 1 1]).run Try.prog W = .ok (goInt ((1 : Nat) : Int)) (W.setRow g c2) := fun W hW ty dc => by
    have := run_copy5 (w := W) 22 ty Try.underlying22 hi0 hz1 g (i * 5) (n + 1 - i) dc ⟨vb, 0, none⟩ 1 1 1 c1 24 ls (by rw [hW]; exact hg1) (by simp only [Nat.min_def]; split <;> omega) (by omega) (fun j v hj => by
      rw [Addr.add_lit, Nat.zero_add]
      have h9 : W.heap[vb]? = w.heap[vb]? := by rw [hW]; exact setRow_other w.drew g vb c1 hne
      exact (cell_same h9 j).trans (hcells j v hj)) (by omega) h1
    rw [hc2]; exact this
  obtain ⟨W1, hW1⟩ : ∃ W1, W1 = w.drew.setRow g c1 := ⟨_, rfl⟩
  rw [← hW1] at hcp1 hcp2 hg1
  have hW1h : ∀ b, b ≠ g → W1.heap[b]? = w.heap[b]? := fun b hb => by rw [hW1]; exact setRow_other w.drew g b c1 hb
  have hW1s : W1.heap.size = w.heap.size := by rw [hW1]; simp [World.setRow]
  have hfin : ∀ W : World, W.heap = W1.heap → W.os = w.os → W.tape = w.tape → W.output = w.output → InsR B (.slice (some ⟨g, 0, none⟩) n cap) n i xs ls w (.returned (.slice (some ⟨g, 0, none⟩) (n + 1) cap)) (W.setRow g c2) := fun W hW ho1 ho2 ho3 => by
    refine ⟨_, rfl, row_ins (cur := c2) (setRow_heap W g c1 c2 24 _ (by rw [hW]; exact hg1)) hBg (by rw [hc2s]; exact hcs) hroom hcm (by simp [hl, hxl]; omega) ?_, ⟨ho1, ho2, ho3, by simp [World.setRow, hW, hW1s], fun b hb hbg => ?_⟩, .inl rfl⟩
    · have := splice_in (cur := cur.toList) (ls := ls) (N := n * 5) (i := i * 5) (by omega) hl (by rw [Array.length_toList]; omega)
      rw [hcx, ← hds] at this
      rw [← hds, ← this, hc2, hc1, hl, show (n + 1) * 5 = n * 5 + 5 by omega]
    · rw [setRow_other W g b c2 (fun e => hbg (by rw [e]; rfl)), hW]
      exact hW1h b (fun e => hbg (by rw [e]; rfl))
  have HOS : Hid (W1.os = w.os ∧ W1.tape = w.tape ∧ W1.output = w.output) := by rw [hW1]; exact ⟨rfl, rfl, rfl⟩
  have HFIN := Lib.hid hfin
  have HCP1 := Lib.hid hcp1
  have HCP2 := Lib.hid hcp2
  have HOV := Lib.hid hov
  have hw1 : IntKind.i64.wrap ((i : Int) + 1) = (i : Int) + 1 := by rw [IntKind.wrap_i64]; omega
  have hb1 : (0 : Int) ≤ (i : Int) + 1 := by omega
  have htn : ((i : Int) + 1).toNat = i + 1 := by omega
  have hb2 : ¬ (cap = i + 1) := by omega
  have hb4 : ¬ (cap = i) := by omega
  have hin : i ≤ n := by omega
  have hin2 : i ≤ n + 1 := by omega
  have hb3 : (i : Int) ≤ (n : Int) + 1 := by omega
  have hb5 : ((i : Int) == (n : Int)) = false := by simp; omega
  clear hR hv hl h1 hx1 hxl hBg hg hcm hcs hcx hsz hov hcells hxc hds hdl hc1 hc2 hc1s hc2s hcp1 hcp2 hg1 hW1h hW1s hfin hi0 hz0 hz1 hz2 hW1
  go_enter Try.func66, Try.ntmps66
  go_wp2_with (simp only [HOV.out])
  go_region_law (refine step_copy_runI rfl (.tmp 73) (.tmp 76) 22 22 rfl (.slice (some ⟨g, (i + 1) * 5, none⟩) (n - i) (cap - (i + 1))) (.slice (some ⟨g, i * 5, none⟩) (n + 1 - i) (cap - i)) (by simp [Act.eval, Act.put]) (by simp [Act.eval, Act.put]) (HCP1.out _ _ _) ?_)
  go_wp2_with ((with_reducible refine wpList_copy_runI _ rfl (.tmp 80) (.tmp 81) 22 22 rfl (.slice (some ⟨g, i * 5, none⟩) (n + 1 - i) (cap - i)) (.slice (some ⟨vb, 0, none⟩) 1 1) rfl rfl (HCP2.out _ rfl _ _) ?_))
  refine ret_getD (v := .slice (some ⟨g, 0, none⟩) (n + 1) cap) (u := .slice (some ⟨g, 0, none⟩) (n + 1) cap) ?_ rfl
  rw [HR.out]
  exact HFIN.out W1 rfl HOS.out.1 HOS.out.2.1 HOS.out.2.2
set_option maxHeartbeats 4000000 in
set_option maxRecDepth 100000 in
theorem insert_out (B g n cap i vb : Nat) (xs ls : List Value) (w : World) (ho : w.ownsRow B 24 5 (.slice (some ⟨g, 0, none⟩) n cap) n xs) (hv : Blk w vb 24 ls.toArray) (hl : ls.length = 5) (h1 : ∀ u ∈ ls, u.oneCell' = true) (hx1 : ∀ u ∈ xs, u.oneCell' = true) (hn : n ≤ 100000) (hi : i < n) (hroom : cap < n + 1) (hB : B ≤ w.heap.size) :
    Calls Try.prog 66 #[.slice (some ⟨g, 0, none⟩) n cap, .int .i64 (i : Int), .slice (some ⟨vb, 0, none⟩) 1 1] w (InsR B (.slice (some ⟨g, 0, none⟩) n cap) n i xs ls w) := by
  obtain ⟨R, hR⟩ : ∃ R, R = InsR B (.slice (some ⟨g, 0, none⟩) n cap) n i xs ls w := ⟨_, rfl⟩
  rw [← hR]
  have HR := Lib.hid hR
  obtain ⟨i0, hi0, hz0, hz1, hz2⟩ := con_info
  obtain ⟨hxl, hcase⟩ := ho
  rcases hcase with ⟨h3, _⟩ | ⟨g', cap', cur, h3, hBg, hg, hnc, hcm, hcs, hcx⟩
  · cases h3
  obtain ⟨e1, -, rfl⟩ := Value.slice.inj h3
  have e1 := Option.some.inj e1
  injection e1 with e1
  subst e1
  clear h3
  obtain rfl : cap = n := by omega
  have hcells : ∀ j u, ls[j]? = some u → w.cell? ⟨vb, j, none⟩ = some u := fun j u hu => hv.at_ (by simpa using hu)
  have hxc : ∀ j u, xs[j]? = some u → w.cell? ⟨g, j, none⟩ = some u := fun j u hu => by
    rw [cell_of_row w g j cur 24 (0, 0) hg, ← hu, ← hcx, List.getElem?_take_of_lt (by have := (List.getElem?_eq_some_iff.1 hu).1; omega)]; simp
  have hgl : g < w.heap.size := by have := (Array.getElem?_eq_some_iff.1 hg).1; exact this
  have hvl := hv.lt
  obtain ⟨G, hG⟩ : ∃ G, G = grownCap w (cap + 1) cap 24 := ⟨_, rfl⟩
  have hGn : cap + 1 ≤ G := by rw [hG]; exact grownCap_ge w _ _ _
  have hGm : G ≤ maxLen := by rw [hG]; exact grownCap_le_maxLen w (cap + 1) cap 24 (by unfold maxLen; omega)
  have hold : (Builtin.firstCells i0.size i (.slice (some ⟨g, 0, none⟩) i cap)).run Try.prog w.drew = .ok (xs.take (i * 5)).toArray w.drew := by
    rw [hz1]
    exact run_firstCells_some w.drew 5 i ⟨g, 0, none⟩ i cap (xs.take (i * 5)) (by rw [List.length_take]; omega) (fun j v hj => by
      rw [Addr.add_lit, Nat.zero_add]
      rw [List.getElem?_take] at hj
      split at hj
      · exact hxc j v hj
      · cases hj)
  obtain ⟨ROW, hROW⟩ : ∃ ROW : Array Value, ROW = (xs.take (i * 5)).toArray ++ Builtin.zeroCells (Value.agg #[.int .i64 0, .int .i64 0, .int .i64 0, .int .i64 0, .slice none 0 0]).cells (cap + 1 - i) ++ Builtin.zeroCells (Value.agg #[.int .i64 0, .int .i64 0, .int .i64 0, .int .i64 0, .slice none 0 0]).cells (G - (cap + 1)) := ⟨_, rfl⟩
  have hkk : (cap : Int) + 1 - (i : Int) = ((cap + 1 - i : Nat) : Int) := by omega
  have hik : i + (cap + 1 - i) = cap + 1 := by omega
  have hrz : ∀ ty, (Builtin.append_ #[22, 3] ty #[.slice (some ⟨g, 0, none⟩) i cap, .int .i64 ((cap : Int) + 1 - (i : Int))]).run Try.prog w =
      .ok (.slice (some ⟨w.heap.size, 0, none⟩) (cap + 1) G) (w.drew.alloc (.cells ROW 24)) := fun ty => by
    have h := Lib.run_append_grow_zeros w 22 3 ty 24 i0 _ .i64 .i64 Try.underlying22 Try.underlying3 hi0 hz0 (some ⟨g, 0, none⟩) i cap (xs.take (i * 5)) hold (cap + 1 - i) (by omega) (by omega) (by omega) (by omega) (by rw [hz2]; omega) (by rw [hz2, hik]; exact growslice_fits hroom (by omega))
    rw [hik] at h
    rw [hkk, hROW, hG]
    exact h
  obtain ⟨Zr, hZr⟩ : ∃ Zr : List Value, ROW.toList = xs.take (i * 5) ++ Zr := ⟨_, by rw [hROW, Array.toList_append, Array.toList_append, List.append_assoc]⟩
  have hRs : ROW.size = G * 5 := by
    rw [hROW]
    simp only [Array.size_append, size_zeroCells, List.size_toArray, List.length_take, hxl]
    simp [Value.cells]; omega
  obtain ⟨W0, hW0⟩ : ∃ W0, W0 = w.drew.alloc (.cells ROW 24) := ⟨_, rfl⟩
  rw [← hW0] at hrz
  have hN0 : W0.heap[w.heap.size]? = some (.cells ROW 24 (0, 0)) := by rw [hW0]; exact heap_alloc_new w.drew _
  have hO0 : ∀ b, b < w.heap.size → W0.heap[b]? = w.heap[b]? := fun b hb => by rw [hW0]; exact Below.heap_alloc w.drew _ b hb
  have hS0 : W0.heap.size = w.heap.size + 1 := by rw [hW0]; simp [World.alloc]
  obtain ⟨ds, hds⟩ : ∃ ds, ds = xs.drop (i * 5) := ⟨_, rfl⟩
  have hdl : ds.length = (cap - i) * 5 := by rw [hds, List.length_drop, hxl]; omega
  obtain ⟨c1, hc1⟩ : ∃ c1, c1 = (ROW.toList.take (i * 5) ++ ls ++ ROW.toList.drop (i * 5 + ls.length)).toArray := ⟨_, rfl⟩
  obtain ⟨c2, hc2⟩ : ∃ c2, c2 = (c1.toList.take (i * 5 + 5) ++ ds ++ c1.toList.drop (i * 5 + 5 + ds.length)).toArray := ⟨_, rfl⟩
  have hc1s : c1.size = ROW.size := by rw [hc1]; simp; omega
  have hc2s : c2.size = ROW.size := by rw [hc2]; simp [hc1s]; omega
  have hcpA : ∀ ty dc, (Builtin.copy_ #[22, 22] ty #[.slice (some ⟨w.heap.size, i * 5, none⟩) (cap + 1 - i) dc, .slice (some ⟨vb, 0, none⟩) 1 1]).run Try.prog W0 = .ok (goInt ((1 : Nat) : Int)) (W0.setRow w.heap.size c1) := fun ty dc => by
    have := run_copy5 (w := W0) 22 ty Try.underlying22 hi0 hz1 w.heap.size (i * 5) (cap + 1 - i) dc ⟨vb, 0, none⟩ 1 1 1 ROW 24 ls hN0 (by simp only [Nat.min_def]; split <;> omega) (by omega) (fun j v hj => by
      rw [Addr.add_lit, Nat.zero_add]; exact (cell_same (hO0 vb hvl) j).trans (hcells j v hj)) (by omega) h1
    rw [hc1]; exact this
  obtain ⟨W1, hW1⟩ : ∃ W1, W1 = W0.setRow w.heap.size c1 := ⟨_, rfl⟩
  rw [← hW1] at hcpA
  have hN1 : W1.heap[w.heap.size]? = some (.cells c1 24 (0, 0)) := by rw [hW1]; exact setRow_heap W0 w.heap.size ROW c1 24 _ hN0
  have hO1 : ∀ b, b < w.heap.size → W1.heap[b]? = w.heap[b]? := fun b hb => by rw [hW1, setRow_other W0 w.heap.size b c1 (by omega)]; exact hO0 b hb
  have hcpB : ∀ ty dc sc, (Builtin.copy_ #[22, 22] ty #[.slice (some ⟨w.heap.size, (i + 1) * 5, none⟩) (cap - i) dc, .slice (some ⟨g, i * 5, none⟩) (cap - i) sc]).run Try.prog W1.drew = .ok (goInt ((cap - i : Nat) : Int)) (W1.drew.setRow w.heap.size c2) := fun ty dc sc => by
    have := run_copy5 (w := W1.drew) 22 ty Try.underlying22 hi0 hz1 w.heap.size ((i + 1) * 5) (cap - i) dc ⟨g, i * 5, none⟩ (cap - i) sc (cap - i) c1 24 ds hN1 (by simp only [Nat.min_def]; split <;> omega) hdl (fun j v hj => by
      rw [Addr.add_lit]; exact (cell_same (w := w) (w' := W1.drew) (hO1 g hgl) _).trans (hxc _ _ (by rw [hds, List.getElem?_drop] at hj; exact hj))) (by rw [hdl]; omega) (fun u hu => hx1 u (by rw [hds] at hu; exact List.mem_of_mem_drop hu))
    rw [show (i + 1) * 5 = i * 5 + 5 by omega] at this ⊢
    rw [hc2]; exact this
  obtain ⟨W2, hW2⟩ : ∃ W2, W2 = W1.drew.setRow w.heap.size c2 := ⟨_, rfl⟩
  rw [← hW2] at hcpB
  have hfin : InsR B (.slice (some ⟨g, 0, none⟩) cap cap) cap i xs ls w (.returned (.slice (some ⟨w.heap.size, 0, none⟩) (cap + 1) G)) W2 := by
    refine ⟨_, rfl, row_ins (cur := c2) ?_ hB (by rw [hc2s]; exact hRs) hGn hGm (by simp [hl, hxl]; omega) ?_, ⟨?_, ?_, ?_, ?_, fun b hb hbg => ?_⟩, .inr ⟨_, rfl, Nat.le_refl _⟩⟩
    · rw [hW2]; exact setRow_heap W1.drew w.heap.size c1 c2 24 _ hN1
    · have := splice_new (xs := xs) (ls := ls) (Z := Zr) (N := cap * 5) (i := i * 5) (by omega) hxl hl
      rw [← hZr, ← hds] at this
      rw [← hds, ← this, hc2, hc1, hl, show (cap + 1) * 5 = cap * 5 + 5 by omega]
    · rw [hW2, hW1, hW0]; rfl
    · rw [hW2, hW1, hW0]; rfl
    · rw [hW2, hW1, hW0]; rfl
    · rw [hW2, hW1]; simp only [World.setRow, Array.size_modify]; show _ ≤ (W0.setRow w.heap.size c1).heap.size; simp only [World.setRow, Array.size_modify]; omega
    · rw [hW2, setRow_other W1.drew w.heap.size b c2 (by omega)]; exact hO1 b hb
  have HFIN := Lib.hid hfin
  have HRZ := Lib.hid hrz
  have HCPA := Lib.hid hcpA
  have HCPB := Lib.hid hcpB
  have hw1 : IntKind.i64.wrap ((i : Int) + 1) = (i : Int) + 1 := by rw [IntKind.wrap_i64]; omega
  have hb1 : (0 : Int) ≤ (i : Int) + 1 := by omega
  have htn : ((i : Int) + 1).toNat = i + 1 := by omega
  have hG1 : ¬ (G = i) := by omega
  have hG2 : ¬ (G = i + 1) := by omega
  have hb4 : ¬ (cap = i) := by omega
  have hin : i ≤ cap := by omega
  have hin2 : i ≤ cap + 1 := by omega
  have hb3 : (i : Int) ≤ (cap : Int) := by omega
  have hb6 : (i : Int) ≤ (cap : Int) + 1 := by omega
  have hb5 : ((i : Int) == (cap : Int)) = false := by simp; omega
  have hgm : G ≤ 9223372036854775807 := by unfold maxLen at hGm; omega
  clear hR hv hl h1 hx1 hxl hBg hg hcm hcs hcx hcells hxc hds hdl hc1 hc2 hc1s hc2s hcpA hcpB hrz hfin hi0 hz0 hz1 hz2 hW1 hW0 hW2 hN0 hN1 hO0 hO1 hS0 hkk hik hold hROW hZr hRs hG hGm hB hvl hgl
  go_enter Try.func66, Try.ntmps66
  go_wp2_with (first
    | (at_builtin; refine Lib.wpList_append_run _ rfl (.tmp 34) (.tmp 39) 22 3 rfl _ _ rfl rfl _ _ (HRZ.out _) ?_)
    | (with_reducible refine wpList_copy_runI _ rfl (.tmp 43) (.tmp 44) 22 22 rfl (.slice (some ⟨w.heap.size, i * 5, none⟩) (cap + 1 - i) (G - i)) (.slice (some ⟨vb, 0, none⟩) 1 1) rfl rfl (HCPA.out _ _) ?_))
  go_region_law (refine step_copy_runI rfl (.tmp 50) (.tmp 53) 22 22 rfl (.slice (some ⟨w.heap.size, (i + 1) * 5, none⟩) (cap - i) (G - (i + 1))) (.slice (some ⟨g, i * 5, none⟩) (cap - i) (cap - i)) (by simp [Act.eval, Act.put]) (by simp [Act.eval, Act.put]) (HCPB.out _ _ _) ?_)
  go_wp2_with fail
  refine ret_getD (v := .slice (some ⟨w.heap.size, 0, none⟩) (cap + 1) G) (u := .slice (some ⟨w.heap.size, 0, none⟩) (cap + 1) G) ?_ rfl
  rw [HR.out]
  exact HFIN.out
theorem insert_c (B : Nat) (v : Value) (n i vb : Nat) (xs ls : List Value) (w : World) (ho : w.ownsRow B 24 5 v n xs) (hv : Blk w vb 24 ls.toArray) (hl : ls.length = 5) (h1 : ∀ u ∈ ls, u.oneCell' = true) (hx1 : ∀ u ∈ xs, u.oneCell' = true) (hn : n ≤ 100000) (hi : i ≤ n) (hne : ∀ r, v.ownBlock = some r → vb ≠ r) (hB : B ≤ w.heap.size) :
    Calls Try.prog 66 #[v, .int .i64 (i : Int), .slice (some ⟨vb, 0, none⟩) 1 1] w (InsR B v n i xs ls w) := by
  rcases Nat.lt_or_ge i n with h | h
  · obtain ⟨g, cap, hgv, _, _⟩ := ho.form (by omega)
    subst hgv
    rcases Nat.lt_or_ge cap (n + 1) with h2 | h2
    · exact insert_out B g n cap i vb xs ls w ho hv hl h1 hx1 hn h h2 hB
    · exact insert_in B g n cap i vb xs ls w ho hv hl h1 hx1 hn h h2 (hne g rfl)
  · obtain rfl : i = n := by omega
    exact insert_end B v i vb xs ls w ho hv hl h1 hn hB
end Go.Proofs.Ytjeabkcbaielhaa.Co
end
section
namespace Go.Proofs.Ytjeabkcbaielhaa.Co
open Go.RowKit Go.Shelf
theorem slV_own {g cap n : Nat} {b : Nat} (h : (slV g cap n).ownBlock = some b) : n ≠ 0 ∧ b = g := by
  unfold slV at h
  split at h
  · cases h
  · rename_i h0; exact ⟨h0, (Option.some.inj h).symm⟩
theorem slA_own {s : ATr} {b : Nat} (h : (slA s).ownBlock = some b) : s.ks.length ≠ 0 ∧ b = s.a.g := slV_own h
theorem own_in {s : ATr} (h : s.ks.length ≠ 0) : s.a.g ∈ blks s := by
  obtain ⟨a, ks⟩ := s
  simp only [blks, Tr.a_mk, Tr.ks_mk] at h ⊢
  rw [if_neg h]; simp
theorem own_out {s : ATr} (hn : (blks s).Nodup) (h : s.ks.length ≠ 0) : s.a.g ∉ blksL s.ks := by
  obtain ⟨a, ks⟩ := s
  simp only [blks, Tr.a_mk, Tr.ks_mk] at hn h ⊢
  rw [if_neg h, List.singleton_append, List.nodup_cons] at hn
  exact hn.1
theorem blksL_in {s : ATr} : ∀ b ∈ blksL s.ks, b ∈ blks s := by obtain ⟨a, ks⟩ := s; exact blksL_sub
section
variable {w w1 : World} {N r : Nat} {t s : ATr} {u : List Nat}
theorem Root.row {v : Value} {g cap : Nat} {ks : List ATr} (h : Root N w r t) (hs : get t u = some s) (hb : w.grownBy w1 (slA s).ownBlock) (hv : v = slV g cap ks.length) (ho : w1.ownsRow 0 24 5 v ks.length (rowOf ks))
    (hg : v.ownBlock = (slA s).ownBlock ∨ ∃ b, v.ownBlock = some b ∧ w.heap.size ≤ b) (hO : OwnL w1 ks) (hn : (blksL ks).Nodup) (hsub : ∀ b ∈ blksL ks, b ∈ blksL s.ks) (hN : N ≤ w.heap.size) :
    Root N (w1.setCell ⟨(loc r 0 t u).1, (loc r 0 t u).2 + 4, none⟩ v) r (Co.put t u (.mk ⟨s.a.d, g, cap⟩ ks)) ∧ Turn (fun b => b ∈ blks (topT r t)) (fun _ => False) w (w1.setCell ⟨(loc r 0 t u).1, (loc r 0 t u).2 + 4, none⟩ v) := by
  have hni := h.loc_not hs
  have hns := h.nodup_at hs
  have hll := (h.held.get hs).lt
  have hslt := (h.held.get hs).own.lt
  have hkeep : ∀ b, b < w.heap.size → b ∉ blks s → w1.heap[b]? = w.heap[b]? := fun b hl hx => hb.block b hl fun e => by
    obtain ⟨h0, e⟩ := slA_own e.symm
    exact hx (e ▸ own_in h0)
  have hll1 : w1.heap[(loc r 0 t u).1]? = w.heap[(loc r 0 t u).1]? := hkeep _ hll hni
  obtain ⟨cur, hc1, _, hc3⟩ := h.block hs
  have hR := ((Repl.refl (w := w1) (hll1.trans hc1) hc3).set (f := 4) (by omega) (enc_len _ _) v).before (w0 := w) hll1
  have hfar : ∀ x, x ≠ (loc r 0 t u).1 → (w1.setCell ⟨(loc r 0 t u).1, (loc r 0 t u).2 + 4, none⟩ v).heap[x]? = w1.heap[x]? := fun x hx => Below.heap_setCell w1 ⟨(loc r 0 t u).1, (loc r 0 t u).2 + 4, none⟩ v x hx
  have hgb : ∀ b, v.ownBlock = some b → b ∈ blks s ∨ w.heap.size ≤ b := fun b hb' => by
    rcases hg with hg | ⟨b', hg, hl⟩
    · rw [hg] at hb'
      obtain ⟨h0, e⟩ := slA_own hb'
      exact .inl (e ▸ own_in h0)
    · rw [hg] at hb'; have := Option.some.inj hb'; omega
  have hgl : ∀ b, v.ownBlock = some b → b ≠ (loc r 0 t u).1 := fun b hb' e => by
    rcases hgb b hb' with h2 | h2
    · exact hni (e ▸ h2)
    · omega
  have hown : Own (w1.setCell ⟨(loc r 0 t u).1, (loc r 0 t u).2 + 4, none⟩ v) (.mk ⟨s.a.d, g, cap⟩ ks) := by
    refine ⟨?_, hO.same fun b hb' => hfar b fun e => hni (e ▸ blksL_in b (hsub b hb'))⟩
    have h2 := row_same' (w' := w1.setCell ⟨(loc r 0 t u).1, (loc r 0 t u).2 + 4, none⟩ v) ho fun b hb' => hfar b (hgl b hb')
    show World.ownsRow _ 0 _ 5 (slV g cap ks.length) ks.length (rowOf ks)
    rw [← hv]
    exact h2
  have hgo : ks.length ≠ 0 → v.ownBlock = some g := fun h0 => by rw [hv]; unfold slV; rw [if_neg h0]; rfl
  refine ⟨h.put hs (by rw [show encC (Tr.mk ⟨s.a.d, g, cap⟩ ks : ATr).a.d (slA (.mk ⟨s.a.d, g, cap⟩ ks)) = (encC s.a.d (slA s)).set 4 v by rw [hv]; rfl]; exact hR) (fun x hx hxs hxl => (hfar x hxl).trans (hkeep x (h.lt x (by rw [blks_top]; exact hx)) hxs)) hown ?_ ?_ hN,
    ⟨hb.os, hb.tape, hb.output, by have := hb.size; simpa [World.setCell] using this, fun i hi hni' => (hfar i fun e => hni' (e ▸ h.loc_mem hs)).trans (hkeep i hi fun hm => hni' (by rw [blks_top, List.mem_cons]; exact .inr (blks_get hs i hm))), fun _ h => h.elim⟩⟩
  · show ((if ks.length = 0 then [] else [g]) ++ blksL ks).Nodup
    split
    · exact hn
    · rename_i h0
      rw [List.singleton_append, List.nodup_cons]
      refine ⟨fun hm => ?_, hn⟩
      have hm := hsub g hm
      rcases hg with hg | ⟨b', hg, hl⟩
      · rw [hgo h0] at hg
        obtain ⟨h1, e⟩ := slA_own hg.symm
        exact own_out hns h1 (e ▸ hm)
      · rw [hgo h0] at hg
        have := Option.some.inj hg
        have := hslt g (blksL_in g hm)
        omega
  · intro x hx
    have hx : x ∈ (if ks.length = 0 then [] else [g]) ++ blksL ks := hx
    rw [List.mem_append] at hx
    rcases hx with hx | hx
    · split at hx
      · cases hx
      · rename_i h0
        simp at hx; subst hx
        exact hgb x (hgo h0)
    · exact .inl (blksL_in x (hsub x hx))
/-- A leaf, with no row of kids. -/
abbrev leafA (c se : Int) : ATr := .mk ⟨⟨0, 65536, c, se⟩, 0, 0⟩ []
theorem rowOf_ins (ks : List ATr) (i : Nat) (hi : i ≤ ks.length) (x : ATr) : rowOf (ks.take i ++ x :: ks.drop i) = (rowOf ks).take (i * 5) ++ encC x.a.d (slA x) ++ (rowOf ks).drop (i * 5) := by
  rw [rowOf_append, rowOf_cons, rowOf_take ks i hi, rowOf_drop ks i hi, List.append_assoc]
theorem row_slV {w : World} {B n : Nat} {v : Value} {xs : List Value} (h : w.ownsRow B 24 5 v n xs) (hn : n ≠ 0) : ∃ g cap, v = slV g cap n := by
  obtain ⟨g, cap, hv, _, _⟩ := h.form (by omega)
  exact ⟨g, cap, by unfold slV; rw [if_neg hn]; exact hv⟩
/-- A leaf is put among a split's kids. -/
theorem Root.insert {v : Value} {i : Nat} {a : AD} {ks : List ATr} {c se : Int} (h : Root N w r t) (hs : get t u = some (.mk a ks)) (hi : i ≤ ks.length) (hc : InsR 0 (slA (.mk a ks)) ks.length i (rowOf ks) (encC ⟨0, 65536, c, se⟩ (.slice none 0 0)) w (.returned v) w1) (hN : N ≤ w.heap.size) :
    ∃ g cap, v = slV g cap (ks.length + 1) ∧ Root N (w1.setCell ⟨(loc r 0 t u).1, (loc r 0 t u).2 + 4, none⟩ v) r (Co.put t u (.mk ⟨a.d, g, cap⟩ (ks.take i ++ leafA c se :: ks.drop i))) ∧ Turn (fun b => b ∈ blks (topT r t)) (fun _ => False) w (w1.setCell ⟨(loc r 0 t u).1, (loc r 0 t u).2 + 4, none⟩ v) := by
  obtain ⟨v', e, ho, hb, hg⟩ := hc
  have e := Ending.returned.inj e
  subst e
  obtain ⟨g, cap, hv⟩ := row_slV ho (by omega)
  have hl : (ks.take i ++ leafA c se :: ks.drop i).length = ks.length + 1 := by simp; omega
  have hsl : (encC ⟨0, 65536, c, se⟩ (.slice none 0 0)) = encC (leafA c se).a.d (slA (leafA c se)) := rfl
  have hns := h.nodup_at hs
  have hheld := (h.held.get hs).own
  have hbl : blksL (ks.take i ++ leafA c se :: ks.drop i) = blksL ks := by
    rw [blksL_append]
    have e1 : blksL (leafA c se :: ks.drop i) = blksL (ks.drop i) := by simp [blksL, blks]
    rw [e1, ← blksL_append, List.take_append_drop]
  have hnk : (blksL ks).Nodup := by
    have := hns
    simp only [blks, List.nodup_append] at this
    exact this.2.1
  have hOk : OwnL w1 ks := hheld.2.same fun b hb' => hb.block b (hheld.lt b (blksL_sub b hb')) fun e => by
    obtain ⟨h0, e⟩ := slA_own e.symm
    exact own_out (s := .mk a ks) hns h0 (e ▸ hb')
  have hOn : OwnL w1 (ks.take i ++ leafA c se :: ks.drop i) := OwnL_mem.2 fun y hy => by
    rw [List.mem_append, List.mem_cons] at hy
    rcases hy with hy | rfl | hy
    · exact OwnL_mem.1 hOk y (List.mem_of_mem_take hy)
    · exact ⟨World.ownsRow_nil _ _ _ _, trivial⟩
    · exact OwnL_mem.1 hOk y (List.mem_of_mem_drop hy)
  refine ⟨g, cap, hv, h.row hs hb (by rw [hl]; exact hv) (by rw [hl, rowOf_ins ks i hi, ← hsl]; exact ho) hg hOn (by rw [hbl]; exact hnk) (by rw [hbl]; exact fun b hb => hb) hN⟩
end
end Go.Proofs.Ytjeabkcbaielhaa.Co
end
section
namespace Go.Proofs.Ytjeabkcbaielhaa.Co
open Go.RowKit Go.Shelf
/-- Where a client is put in. -/
def insSpot (x : Con) (near : Int) : List Nat × Nat := if near = 0 then ([], x.ks.length) else match findI x near with
  | some u => (u.dropLast, (u.getLast?).getD 0 + 1)
  | none => ([], 0)
def leafC (c se : Int) : Con := .mk ⟨0, 65536, c, se⟩ []
def insertI (x : Con) (near c se : Int) : Con × Int :=
  if treeB x = false then (zeroT, 110) else if hasB x c = true then (zeroT, 7) else if c < 1 ∨ se < 0 then (zeroT, 1) else if near ≠ 0 ∧ hasB x near = false then (zeroT, 6) else
  match get x (insSpot x near).1 with
  | some p => if p.ks.length = 64 ∨ (all x).length = 128 then (zeroT, 2) else (put x (insSpot x near).1 (.mk p.a (p.ks.take (insSpot x near).2 ++ leafC c se :: p.ks.drop (insSpot x near).2)), 0)
  | none => (zeroT, 0)
theorem neq_nil_slice (w : World) : (binOp BinOp.neq 34 (.slice none 0 0) (.slice none 0 0)).run Try.prog w = .ok (.bool false) w := by kernel_rfl
theorem neq_slice_nil (b : Nat) (n c : Nat) (w : World) : (binOp BinOp.neq 34 (.slice (some ⟨b, 0, none⟩) n c) (.slice none 0 0)).run Try.prog w = .ok (.bool true) w := by kernel_rfl
theorem way_slice {w : World} {Y : Nat → Prop} {u : List Nat} {v : Value} (h : WV w Y u v) (hu : u ≠ []) : ∃ b c, v = .slice (some ⟨b, 0, none⟩) u.length c := by
  obtain ⟨q, cc, rfl, _, _, _, _, hcell⟩ := h
  obtain ⟨bb, rfl, -⟩ := hcell 0 (u[0]'(List.length_pos_iff.2 hu)) (List.getElem?_eq_getElem (List.length_pos_iff.2 hu))
  exact ⟨bb, cc, rfl⟩
/-- The root's variable holds this tree; the answer's is untouched. -/
def ConDone (N r g : Nat) (z : Con) (w wx : World) : Prop := ∃ t', Root N wx r t' ∧ era t' = z ∧ Below w.heap.size w wx ∧ Blk wx g 24 #[.int .i64 0, .int .i64 0, .int .i64 0, .int .i64 0, .slice none 0 0]
theorem told {N B r g : Nat} {w4 : World} {t : ATr} {z : Con} (hr : Root N w4 r t) (he : era t = z) (hN : B ≤ N) (hg : g < N) (v0 v1 v2 v3 v4 : Value) : TellR B (z, 0) (.returned (.tuple #[conV t.a.d (slA t), .int .i64 0])) (st5 w4 g v0 v1 v2 v3 v4) := by
  refine .inr ⟨rfl, t, hr.own.2.1.same fun b hb => far_st5 w4 g v0 v1 v2 v3 v4 b ?_, ?_, fun b hb => ?_, he, rfl⟩
  · have := hr.ge b (by rw [blks_top]; simp [hb]); omega
  · have h := hr.nodup; rw [blks_top, List.nodup_cons] at h; exact h.2
  · exact Nat.le_trans hN (hr.ge b (by rw [blks_top]; simp [hb]))
theorem root_cells {N r : Nat} {w : World} {t : ATr} (h : Root N w r t) : w.cell? ⟨r, 0, none⟩ = some (.int .i64 t.a.d.k) ∧ w.cell? ⟨r, 1, none⟩ = some (.int .i64 t.a.d.w) ∧ w.cell? ⟨r, 2, none⟩ = some (.int .i64 t.a.d.c) ∧ w.cell? ⟨r, 3, none⟩ = some (.int .i64 t.a.d.s) ∧ w.cell? ⟨r, 4, none⟩ = some (slA t) := by
  have hh := h.held
  exact ⟨by have := hh.cells 0 _ rfl; simpa using this, by have := hh.cells 1 _ rfl; simpa using this, by have := hh.cells 2 _ rfl; simpa using this, by have := hh.cells 3 _ rfl; simpa using this, by have := hh.cells 4 _ rfl; simpa using this⟩
set_option maxHeartbeats 4000000 in
set_option maxRecDepth 100000 in
theorem Insert_c (x : Con) (sv : Value) (near c se : Int) (w : World) (hK : KV w (fun b => b < w.heap.size) x.ks sv) (hw : x.a.wide) (hd : ht x ≤ 1000000) (hwd : wd x ≤ 100000) (hn5 : (pre x []).length ≤ 900) :
    Calls Try.prog 31 #[conV x.a sv, .int .i64 near, .int .i64 c, .int .i64 se] w fun e w' => TellR w.heap.size (insertI x near c se) e w' ∧ Below w.heap.size w w' := by
  obtain ⟨p, cap, rfl, -⟩ := hK.slice
  obtain ⟨n, hn⟩ : ∃ n, n = x.ks.length := ⟨_, rfl⟩
  rw [← hn] at hK ⊢
  obtain ⟨R, hR⟩ : ∃ R, R = fun (e : Ending) (w' : World) => TellR w.heap.size (insertI x near c se) e w' ∧ Below w.heap.size w w' := ⟨_, rfl⟩
  have hRe : ∀ e w', R e w' ↔ (TellR w.heap.size (insertI x near c se) e w' ∧ Below w.heap.size w w') := by rw [hR]; exact fun _ _ => Iff.rfl
  rw [← hR]
  obtain ⟨wB, hwB⟩ : ∃ wB, wB = ((w.alloc (.cells #[.int .i64 x.a.k, .int .i64 x.a.w, .int .i64 x.a.c, .int .i64 x.a.s, .slice p n cap] 24)).alloc (.cells #[.int .i64 0, .int .i64 0, .int .i64 0, .int .i64 0, .slice none 0 0] 24)).alloc (.cells #[.int .i64 c, .int .i64 near] 3) := ⟨_, rfl⟩
  have hb0 : Below w.heap.size w wB := by rw [hwB]; exact (((Below.refl w.heap.size w).alloc (Nat.le_refl _) _).alloc (by simp) _).alloc (by simp; omega) _
  have hq1 : Blk wB w.heap.size 24 #[.int .i64 x.a.k, .int .i64 x.a.w, .int .i64 x.a.c, .int .i64 x.a.s, .slice p n cap] := by rw [hwB]; exact ((Blk.new w 24 _).alloc _).alloc _
  have hq2 : Blk wB (w.heap.size + 1) 24 #[.int .i64 0, .int .i64 0, .int .i64 0, .int .i64 0, .slice none 0 0] := by
    rw [hwB]; have := (Blk.new (w.alloc (.cells #[.int .i64 x.a.k, .int .i64 x.a.w, .int .i64 x.a.c, .int .i64 x.a.s, .slice p n cap] 24)) 24 #[.int .i64 0, .int .i64 0, .int .i64 0, .int .i64 0, .slice none 0 0]).alloc (.cells #[.int .i64 c, .int .i64 near] 3); rwa [World.size_alloc] at this
  have hq3 : Blk wB (w.heap.size + 1 + 1) 3 #[.int .i64 c, .int .i64 near] := by
    rw [hwB]; have := Blk.new ((w.alloc (.cells #[.int .i64 x.a.k, .int .i64 x.a.w, .int .i64 x.a.c, .int .i64 x.a.s, .slice p n cap] 24)).alloc (.cells #[.int .i64 0, .int .i64 0, .int .i64 0, .int .i64 0, .slice none 0 0] 24)) 3 #[.int .i64 c, .int .i64 near]; rwa [World.size_alloc, World.size_alloc] at this
  have HF := Lib.hid (find_c (fun b => b < w.heap.size) x (.slice p n cap) [c, near] (w.heap.size + 1 + 1) wB (hK.next hb0) hw hd (fun b h => by have := hb0.size; omega) (by simp) hq3)
  have HB := Lib.hid hb0
  have HQ1 := Lib.hid hq1
  have HQ2 := Lib.hid hq2
  have HWB := Lib.hid hwB
  have HS1 : Hid (w.heap.size + 1 < wB.heap.size) := hq2.lt
  cases htr : treeB x
  · rw [show insertI x near c se = (zeroT, 110) by unfold insertI; rw [if_pos htr]] at hRe
    have HR := Lib.hid hRe
    have HTR := Lib.hid htr
    clear hb0 hq1 hq2 hq3 hwB hK hw hd hwd hn hR hRe htr
    show Calls Try.prog 31 #[.agg #[.int .i64 x.a.k, .int .i64 x.a.w, .int .i64 x.a.c, .int .i64 x.a.s, .slice p n cap], .int .i64 near, .int .i64 c, .int .i64 se] w R
    go_enter Try.func31, Try.ntmps31
    go_wp2_with fail
    rw [← HWB.out]
    refine HF.out.mono ?_
    rintro e w1 ⟨hb1, ⟨htr1, rfl⟩ | ⟨htr1, rb, vs, rfl, hrb, hblk, hvl, hvs⟩⟩
    · have HB1 := Lib.hid (HB.out.trans (hb1.mono HB.out.size))
      have hq2 := HQ2.out.next hb1
      have HQ21 := Lib.hid hq2
      obtain ⟨⟨r0, r1, r2, r3, r4⟩, f0, f1, f2, f3, f4⟩ := c5 hq2
      clear hb1 htr1 hq2
      go_wp2_with fail
      obtain ⟨hb5, hq5, -⟩ := st5_next HB1.out (by omega) HQ21.out (.int .i64 0) (.int .i64 0) (.int .i64 0) (.int .i64 0) (.slice none 0 0)
      obtain ⟨wF, hwF⟩ : ∃ wF, wF = st5 w1 (w.heap.size + 1) (.int .i64 0) (.int .i64 0) (.int .i64 0) (.int .i64 0) (.slice none 0 0) := ⟨_, rfl⟩
      rw [← hwF] at hb5 hq5
      unfold st5 at hwF
      rewrite [← hwF]
      obtain ⟨⟨b0, b1, b2, b3, b4⟩, -⟩ := c5 hq5
      exact bodyPost_ret (v := .tuple #[zeroC, .int .i64 110]) (by simp [results, Try.results31, go_sem, b0, b1, b2, b3, b4]) rfl ((HR.out _ _).2 ⟨.inl ⟨by simp, rfl⟩, hb5⟩)
    · rw [HTR.out] at htr1; cases htr1
  · cases hc0 : hasB x c
    rotate_left
    · rw [show insertI x near c se = (zeroT, 7) by unfold insertI; rw [if_neg (by rw [htr]; simp), if_pos hc0]] at hRe
      have HR := Lib.hid hRe
      have HTR := Lib.hid htr
      have HC0 := Lib.hid hc0
      clear hb0 hq1 hq2 hq3 hwB hK hw hd hwd hn hR hRe htr hc0
      show Calls Try.prog 31 #[.agg #[.int .i64 x.a.k, .int .i64 x.a.w, .int .i64 x.a.c, .int .i64 x.a.s, .slice p n cap], .int .i64 near, .int .i64 c, .int .i64 se] w R
      go_enter Try.func31, Try.ntmps31
      go_wp2_with fail
      rw [← HWB.out]
      refine HF.out.mono ?_
      rintro e w1 ⟨hb1, ⟨htr1, rfl⟩ | ⟨htr1, rb, vs, rfl, hrb, hblk, hvl, hvs⟩⟩
      · rw [HTR.out] at htr1; cases htr1
      · have hlen : (waysOf x [c, near]).length = 2 := waysOf_len x [c, near]
        obtain ⟨o0, ho0⟩ : ∃ o, (waysOf x [c, near])[0]? = some o := ⟨_, List.getElem?_eq_getElem (by omega)⟩
        obtain ⟨o1, ho1⟩ : ∃ o, (waysOf x [c, near])[1]? = some o := ⟨_, List.getElem?_eq_getElem (by omega)⟩
        obtain ⟨v0, hv0, hwo0⟩ := hvs 0 o0 ho0
        obtain ⟨v1, hv1, hwo1⟩ := hvs 1 o1 ho1
        have HB1 := Lib.hid (HB.out.trans (hb1.mono HB.out.size))
        have hq11 := HQ1.out.next hb1
        have hq21 := HQ2.out.next hb1
        have hr0 := hblk.at_ (i := 0) (v := v0) (by simpa using hv0)
        have hr1 := hblk.at_ (i := 1) (v := v1) (by simpa using hv1)
        have HQ11 := Lib.hid hq11
        have HQ21 := Lib.hid hq21
        have h7 := ways_spec HTR.out (cs := [c, near]) (i := 0) (by simp) rfl
        rw [HC0.out] at h7
        rcases h7 with ⟨h7, _⟩ | ⟨_, u0, hu0, h7⟩
        · cases h7
        rw [ho0] at h7
        have h7 := Option.some.inj h7
        subst h7
        have hwo0 : WV w1 (fun _ => True) u0 v0 := hwo0
        obtain ⟨b0', c0', rfl⟩ := way_slice hwo0 (by obtain ⟨v, j, _, _, rfl, _⟩ := hu0; simp)
        have en := neq_slice_nil b0' u0.length c0'
        obtain ⟨⟨r0, r1, r2, r3, r4⟩, f0, f1, f2, f3, f4⟩ := c5 hq21
        clear hb1 htr1 hq11 hq21 hvs hv0 hv1 ho0 ho1 hlen hblk hwo0 hwo1 hu0
        go_wp2_with fail
        obtain ⟨hb5, hq5, -⟩ := st5_next HB1.out (by omega) HQ21.out (.int .i64 0) (.int .i64 0) (.int .i64 0) (.int .i64 0) (.slice none 0 0)
        obtain ⟨wF, hwF⟩ : ∃ wF, wF = st5 w1 (w.heap.size + 1) (.int .i64 0) (.int .i64 0) (.int .i64 0) (.int .i64 0) (.slice none 0 0) := ⟨_, rfl⟩
        rw [← hwF] at hb5 hq5
        unfold st5 at hwF
        rewrite [← hwF]
        obtain ⟨⟨b0, b1, b2, b3, b4⟩, -⟩ := c5 hq5
        exact bodyPost_ret (v := .tuple #[zeroC, .int .i64 7]) (by simp [results, Try.results31, go_sem, b0, b1, b2, b3, b4]) rfl ((HR.out _ _).2 ⟨.inl ⟨by simp, rfl⟩, hb5⟩)
    · by_cases hg : c < 1 ∨ se < 0
      · rw [show insertI x near c se = (zeroT, 1) by unfold insertI; rw [if_neg (by rw [htr]; simp), if_neg (by rw [hc0]; simp), if_pos hg]] at hRe
        have HR := Lib.hid hRe
        have HTR := Lib.hid htr
        have HC0 := Lib.hid hc0
        clear hb0 hq1 hq2 hq3 hwB hK hw hd hwd hn hR hRe htr hc0
        rcases (show c < 1 ∨ (¬ c < 1 ∧ se < 0) by omega) with hg1 | ⟨hg1, hg2⟩
        all_goals
          show Calls Try.prog 31 #[.agg #[.int .i64 x.a.k, .int .i64 x.a.w, .int .i64 x.a.c, .int .i64 x.a.s, .slice p n cap], .int .i64 near, .int .i64 c, .int .i64 se] w R
          go_enter Try.func31, Try.ntmps31
          go_wp2_with fail
          rw [← HWB.out]
          refine HF.out.mono ?_
          rintro e w1 ⟨hb1, ⟨htr1, rfl⟩ | ⟨htr1, rb, vs, rfl, hrb, hblk, hvl, hvs⟩⟩
          · rw [HTR.out] at htr1; cases htr1
          · have hlen : (waysOf x [c, near]).length = 2 := waysOf_len x [c, near]
            obtain ⟨o0, ho0⟩ : ∃ o, (waysOf x [c, near])[0]? = some o := ⟨_, List.getElem?_eq_getElem (by omega)⟩
            obtain ⟨o1, ho1⟩ : ∃ o, (waysOf x [c, near])[1]? = some o := ⟨_, List.getElem?_eq_getElem (by omega)⟩
            obtain ⟨v0, hv0, hwo0⟩ := hvs 0 o0 ho0
            obtain ⟨v1, hv1, hwo1⟩ := hvs 1 o1 ho1
            have HB1 := Lib.hid (HB.out.trans (hb1.mono HB.out.size))
            have hq11 := HQ1.out.next hb1
            have hq21 := HQ2.out.next hb1
            have hr0 := hblk.at_ (i := 0) (v := v0) (by simpa using hv0)
            have hr1 := hblk.at_ (i := 1) (v := v1) (by simpa using hv1)
            have HQ11 := Lib.hid hq11
            have HQ21 := Lib.hid hq21
            have h7 := ways_spec HTR.out (cs := [c, near]) (i := 0) (by simp) rfl
            rw [HC0.out] at h7
            rcases h7 with ⟨_, h7⟩ | ⟨h7, _⟩
            rotate_left
            · cases h7
            rw [ho0] at h7
            have h7 := Option.some.inj h7
            subst h7
            obtain rfl : v0 = .slice none 0 0 := hwo0
            have en := neq_nil_slice
            obtain ⟨⟨r0, r1, r2, r3, r4⟩, f0, f1, f2, f3, f4⟩ := c5 hq21
            clear hb1 htr1 hq11 hq21 hvs hv0 hv1 ho0 ho1 hlen hblk hwo1
            go_wp2_with fail
            obtain ⟨hb5, hq5, -⟩ := st5_next HB1.out (by omega) HQ21.out (.int .i64 0) (.int .i64 0) (.int .i64 0) (.int .i64 0) (.slice none 0 0)
            obtain ⟨wF, hwF⟩ : ∃ wF, wF = st5 w1 (w.heap.size + 1) (.int .i64 0) (.int .i64 0) (.int .i64 0) (.int .i64 0) (.slice none 0 0) := ⟨_, rfl⟩
            rw [← hwF] at hb5 hq5
            unfold st5 at hwF
            rewrite [← hwF]
            obtain ⟨⟨b0, b1, b2, b3, b4⟩, -⟩ := c5 hq5
            exact bodyPost_ret (v := .tuple #[zeroC, .int .i64 1]) (by simp [results, Try.results31, go_sem, b0, b1, b2, b3, b4]) rfl ((HR.out _ _).2 ⟨.inl ⟨by simp, rfl⟩, hb5⟩)
      · have hg1 : ¬ c < 1 := by omega
        have hg2 : ¬ se < 0 := by omega
        by_cases hnr : near ≠ 0 ∧ hasB x near = false
        · rw [show insertI x near c se = (zeroT, 6) by unfold insertI; rw [if_neg (by rw [htr]; simp), if_neg (by rw [hc0]; simp), if_neg hg, if_pos hnr]] at hRe
          have HR := Lib.hid hRe
          have HTR := Lib.hid htr
          have HC0 := Lib.hid hc0
          have HN0 := Lib.hid hnr.2
          have hne : (near == 0) = false := by simpa using hnr.1
          have hne2 : (near != 0) = true := by simpa using hnr.1
          have hne3 : ¬ near = 0 := hnr.1
          clear hb0 hq1 hq2 hq3 hwB hK hw hd hwd hn hR hRe htr hc0 hnr hg
          show Calls Try.prog 31 #[.agg #[.int .i64 x.a.k, .int .i64 x.a.w, .int .i64 x.a.c, .int .i64 x.a.s, .slice p n cap], .int .i64 near, .int .i64 c, .int .i64 se] w R
          go_enter Try.func31, Try.ntmps31
          go_wp2_with fail
          rw [← HWB.out]
          refine HF.out.mono ?_
          rintro e w1 ⟨hb1, ⟨htr1, rfl⟩ | ⟨htr1, rb, vs, rfl, hrb, hblk, hvl, hvs⟩⟩
          · rw [HTR.out] at htr1; cases htr1
          · have hlen : (waysOf x [c, near]).length = 2 := waysOf_len x [c, near]
            obtain ⟨o0, ho0⟩ : ∃ o, (waysOf x [c, near])[0]? = some o := ⟨_, List.getElem?_eq_getElem (by omega)⟩
            obtain ⟨o1, ho1⟩ : ∃ o, (waysOf x [c, near])[1]? = some o := ⟨_, List.getElem?_eq_getElem (by omega)⟩
            obtain ⟨v0, hv0, hwo0⟩ := hvs 0 o0 ho0
            obtain ⟨v1, hv1, hwo1⟩ := hvs 1 o1 ho1
            have HB1 := Lib.hid (HB.out.trans (hb1.mono HB.out.size))
            have hq11 := HQ1.out.next hb1
            have hq21 := HQ2.out.next hb1
            have hr0 := hblk.at_ (i := 0) (v := v0) (by simpa using hv0)
            have hr1 := hblk.at_ (i := 1) (v := v1) (by simpa using hv1)
            have HQ11 := Lib.hid hq11
            have HQ21 := Lib.hid hq21
            have h7 := ways_spec HTR.out (cs := [c, near]) (i := 0) (by simp) rfl
            rw [HC0.out] at h7
            rcases h7 with ⟨_, h7⟩ | ⟨h7, _⟩
            rotate_left
            · cases h7
            rw [ho0] at h7
            have h7 := Option.some.inj h7
            subst h7
            obtain rfl : v0 = .slice none 0 0 := hwo0
            have h7 := ways_spec HTR.out (cs := [c, near]) (i := 1) (by simp) rfl
            rw [HN0.out] at h7
            rcases h7 with ⟨_, h7⟩ | ⟨h7, _⟩
            rotate_left
            · cases h7
            rw [ho1] at h7
            have h7 := Option.some.inj h7
            subst h7
            obtain rfl : v1 = .slice none 0 0 := hwo1
            have en := neq_nil_slice
            have en2 := eql_nil_slice
            obtain ⟨⟨r0, r1, r2, r3, r4⟩, f0, f1, f2, f3, f4⟩ := c5 hq21
            clear hb1 htr1 hq11 hq21 hvs hv0 hv1 ho0 ho1 hlen hblk
            go_wp2_with fail
            obtain ⟨hb5, hq5, -⟩ := st5_next HB1.out (by omega) HQ21.out (.int .i64 0) (.int .i64 0) (.int .i64 0) (.int .i64 0) (.slice none 0 0)
            obtain ⟨wF, hwF⟩ : ∃ wF, wF = st5 w1 (w.heap.size + 1) (.int .i64 0) (.int .i64 0) (.int .i64 0) (.int .i64 0) (.slice none 0 0) := ⟨_, rfl⟩
            rw [← hwF] at hb5 hq5
            unfold st5 at hwF
            rewrite [← hwF]
            obtain ⟨⟨b0, b1, b2, b3, b4⟩, -⟩ := c5 hq5
            exact bodyPost_ret (v := .tuple #[zeroC, .int .i64 6]) (by simp [results, Try.results31, go_sem, b0, b1, b2, b3, b4]) rfl ((HR.out _ _).2 ⟨.inl ⟨by simp, rfl⟩, hb5⟩)
        · have hnn : near = 0 ∨ hasB x near = true := by
            by_cases h : near = 0
            · exact .inl h
            · right; simpa [h] using hnr
          have HC := Lib.hid (fun (W : World) (h : Below w.heap.size w W) => copy_c (fun b => b < w.heap.size) x (.slice p n cap) W (hK.same (fun _ h => h) h.size fun b _ hl => h.block b hl) hwd)
          have HLV := Lib.hid (fun (W : World) (h : Below w.heap.size w W) => Leaves_c x (.slice p n cap) W (hK.next h).all hw hd hn5)
          have hI : insertI x near c se = match get x (insSpot x near).1 with
              | some p => if p.ks.length = 64 ∨ (all x).length = 128 then (zeroT, 2) else (put x (insSpot x near).1 (.mk p.a (p.ks.take (insSpot x near).2 ++ leafC c se :: p.ks.drop (insSpot x near).2)), 0)
              | none => (zeroT, 0) := by
            unfold insertI; rw [if_neg (by rw [htr]; simp), if_neg (by rw [hc0]; simp), if_neg hg, if_neg hnr]
          have HTR := Lib.hid htr
          have HC0 := Lib.hid hc0
          have HAL : Hid ((leavesI x).length = (all x).length) := by show _ = _; unfold leavesI; rw [if_pos htr, List.length_map]
          by_cases hne3 : near = 0
          · subst hne3
            have hgp : get x [] = some x := rfl
            have hsp : insSpot x 0 = ([], x.ks.length) := by unfold insSpot; rw [if_pos rfl]
            rw [hI, hsp] at hRe
            simp only at hRe
            rw [hgp] at hRe
            simp only at hRe
            rw [← hn] at hRe
            obtain ⟨pp, hpp9⟩ : ∃ pp, pp = x := ⟨_, rfl⟩
            have hRe : ∀ e w', R e w' ↔ (TellR w.heap.size (if pp.ks.length = 64 ∨ (all x).length = 128 then (zeroT, 2) else (put x [] (.mk pp.a (pp.ks.take n ++ leafC c se :: pp.ks.drop n)), 0)) e w' ∧ Below w.heap.size w w') := by rw [hpp9, ← hn]; exact hRe
            have HRE := Lib.hid hRe
            have HNX : Hid (n = pp.ks.length) := by rw [hpp9]; exact hn
            have HGP : Hid (get x [] = some pp) := by rw [hpp9]; exact rfl
            have HPB : Hid (pp.ks.length ≤ 100000) := by rw [hpp9]; exact ((hK.fine (x := x) hw hwd) [] x rfl).2
            clear hb0 hq1 hq2 hq3 hwB hK hw hd hwd hn hR hRe htr hc0 hnr hg hnn hI hgp hsp hpp9
            show Calls Try.prog 31 #[.agg #[.int .i64 x.a.k, .int .i64 x.a.w, .int .i64 x.a.c, .int .i64 x.a.s, .slice p n cap], .int .i64 0, .int .i64 c, .int .i64 se] w R
            go_enter Try.func31, Try.ntmps31
            go_wp2_with fail
            rw [← HWB.out]
            refine HF.out.mono ?_
            rintro e w1 ⟨hb1, ⟨htr1, rfl⟩ | ⟨htr1, rb, vs, rfl, hrb, hblk, hvl, hvs⟩⟩
            · rw [HTR.out] at htr1; cases htr1
            · have hlen : (waysOf x [c, 0]).length = 2 := waysOf_len x [c, 0]
              obtain ⟨o0, ho0⟩ : ∃ o, (waysOf x [c, 0])[0]? = some o := ⟨_, List.getElem?_eq_getElem (by omega)⟩
              obtain ⟨o1, ho1⟩ : ∃ o, (waysOf x [c, 0])[1]? = some o := ⟨_, List.getElem?_eq_getElem (by omega)⟩
              obtain ⟨v0, hv0, hwo0⟩ := hvs 0 o0 ho0
              obtain ⟨v1, hv1, hwo1⟩ := hvs 1 o1 ho1
              have HB1 := Lib.hid (HB.out.trans (hb1.mono HB.out.size))
              have hq11 := HQ1.out.next hb1
              have hq21 := HQ2.out.next hb1
              have hr0 := hblk.at_ (i := 0) (v := v0) (by simpa using hv0)
              have hr1 := hblk.at_ (i := 1) (v := v1) (by simpa using hv1)
              have HQ11 := Lib.hid hq11
              have HQ21 := Lib.hid hq21
              have h7 := ways_spec HTR.out (cs := [c, 0]) (i := 0) (by simp) rfl
              rw [HC0.out] at h7
              rcases h7 with ⟨_, h7⟩ | ⟨h7, _⟩
              rotate_left
              · cases h7
              rw [ho0] at h7
              have h7 := Option.some.inj h7
              subst h7
              obtain rfl : v0 = .slice none 0 0 := hwo0
              have en := neq_nil_slice
              obtain ⟨⟨x0, x1, x2, x3, x4⟩, -⟩ := c5 hq11
              have hls1 := hq11.lt
              go_wp2_with fail
              refine (HC.out w1 HB1.out).mono ?_
              rintro e w2 ⟨t, rfl, het, hot, hnt, hbt, hB2⟩
              obtain ⟨pt, ct, hst⟩ : ∃ pt ct, slA t = .slice pt t.ks.length ct := slV_slice _ _ _
              obtain ⟨nt, hntl⟩ : ∃ nt, nt = t.ks.length := ⟨_, rfl⟩
              rw [← hntl] at hst
              rw [hst]
              obtain ⟨w3, hw3⟩ : ∃ w3, w3 = w2.alloc (.cells #[.int .i64 x.a.k, .int .i64 x.a.w, .int .i64 x.a.c, .int .i64 x.a.s, .slice pt nt ct] 24) := ⟨_, rfl⟩
              have hB23 : Below w2.heap.size w2 w3 := by rw [hw3]; exact (Below.refl _ _).alloc (Nat.le_refl _) _
              have hB13 := hB2.trans (hB23.mono hB2.size)
              have hBw3 := HB1.out.trans (hB13.mono HB1.out.size)
              have had : t.a.d = x.a := by rw [← het, era_a]
              have hroot : Root w1.heap.size w3 w2.heap.size t := by
                have h := Root.made (N := w1.heap.size) hot hnt hbt hB2.size
                rw [had, hst] at h
                rw [hw3]; exact h
              obtain ⟨s, hs, hes⟩ : ∃ s, get t [] = some s ∧ era s = pp := by
                have h := HGP.out
                rw [← het, era_get] at h
                cases hg : get t [] with
                | none => rw [hg] at h; cases h
                | some s => rw [hg] at h; exact ⟨s, rfl, Option.some.inj h⟩
              obtain ⟨a, ks⟩ := s
              obtain ⟨ns, hns⟩ : ∃ ns, ns = ks.length := ⟨_, rfl⟩
              have hnsp : ns = pp.ks.length := by rw [hns, ← hes, era_ks, List.length_map]; rfl
              have enn : ns = n := hnsp.trans HNX.out.symm
              subst enn
              obtain ⟨ps, cs, hss⟩ : ∃ ps cs, slA (.mk a ks : ATr) = .slice ps ns cs := by rw [hns]; exact slV_slice _ _ _
              have hsh := hroot.held.get hs
              have hsl4 := hsh.cells 4 _ rfl
              rw [show (slA (Tr.mk a ks : ATr)) = .slice ps ns cs from hss] at hsl4
              have hsf4 := hsh.free ((loc w2.heap.size 0 t []).2 + 4)
              have hll := hsh.lt
              obtain ⟨r, hr⟩ : ∃ r, r = w2.heap.size := ⟨_, rfl⟩
              rw [← hr] at hroot hsl4 hsf4 hll
              have HLL : Hid ((r, 0) = loc r 0 t []) := rfl
              have hsl4 : w3.cell? ⟨r, 4, none⟩ = some (.slice ps ns cs) := hsl4
              have hsf4 : w3.frozen? ⟨r, 4, none⟩ = false := hsf4
              have hll : r < w3.heap.size := hll
              have HRT := Lib.hid hroot
              have HGS := Lib.hid hs
              have HES := Lib.hid hes
              have HET := Lib.hid het
              have HNS := Lib.hid hns
              have HNP := Lib.hid hnsp
              have HNB : Hid (ns ≤ 100000) := by show _ ≤ _; rw [hnsp]; exact HPB.out
              have HSS := Lib.hid hss
              have HB3 := Lib.hid hBw3
              have HQ13 := Lib.hid (hq11.next hB13)
              have HQ23 := Lib.hid (hq21.next hB13)
              have HW3 := Lib.hid hw3
              have HRR := Lib.hid hr
              have hls2 : rb < w2.heap.size := (hblk.next hB2).lt
              have HN1 : Hid (w.heap.size + 1 + 1 ≤ w1.heap.size) := hq21.lt
              have HN2 : Hid (w1.heap.size ≤ w2.heap.size) := hB2.size
              have HN3 : Hid (w1.heap.size ≤ w3.heap.size) := hB13.size
              have hcr := root_cells hroot
              rw [had, hst] at hcr
              obtain ⟨m0, m1, m2, m3, m4⟩ := hcr
              clear x0 x1 x2 x3 x4
              obtain ⟨⟨x0, x1, x2, x3, x4⟩, -⟩ := c5 HQ13.out
              have HV1 := Lib.hid hv1
              clear hb1 htr1 hq11 hq21 hvs hv0 hv1 ho0 ho1 hlen hwo1 het hot hnt hbt hB2 hst hntl hw3 hB23 hB13 hBw3 had hroot hs hes hns hnsp hss hsh hr hblk
              go_wp2_with fail
              rw [← HW3.out, ← HRR.out]
              clear m4
              go_quiet (fail)
              obtain ⟨w4, hw4⟩ : ∃ w4, w4 = w3.drewN nq := ⟨_, rfl⟩
              obtain ⟨hB4, hsm⟩ : Below w3.heap.size w3 w4 ∧ ((∀ a, w4.cell? a = w3.cell? a) ∧ ∀ a, w4.frozen? a = w3.frozen? a) := by
                rw [hw4]
                exact ⟨below_drewN (Below.refl _ _) nq, fun _ => rfl, fun _ => rfl⟩
              rw [← hw4]
              clear hw4
              have HB4 := Lib.hid (HB3.out.trans (hB4.mono HB3.out.size))
              have HB34 := Lib.hid hB4
              have e0 : ∀ a, w4.cell? a = w3.cell? a := fun a => hsm.1 a
              rw [← e0] at hsl4 x0 x1 x2 x3 x4
              have HQ24 := Lib.hid (HQ23.out.next hB4)
              have HQ14 := Lib.hid (HQ13.out.next hB4)
              have hsf : w4.frozen? ⟨r, 4, none⟩ = false := (hsm.2 _).trans hsf4
              have hll4 : r < w4.heap.size := Nat.lt_of_lt_of_le hll hB4.size
              obtain ⟨⟨r0, r1, r2, r3, r4⟩, f0, f1, f2, f3, f4⟩ := c5 HQ24.out
              clear e0 hsm hB4 hsf4 hll m0 m1 m2 m3
              by_cases h64 : ns = 64
              · have hR2 : ∀ e w', R e w' ↔ (TellR w.heap.size (zeroT, 2) e w' ∧ Below w.heap.size w w') := by
                  have h := HRE.out
                  rw [if_pos (.inl (HNP.out.symm.trans h64))] at h
                  exact h
                have HR := Lib.hid hR2
                subst h64
                clear hR2
                go_wp2_with fail
                obtain ⟨hb5, hq5, -⟩ := st5_next HB4.out (by omega) HQ24.out (.int .i64 0) (.int .i64 0) (.int .i64 0) (.int .i64 0) (.slice none 0 0)
                obtain ⟨wF, hwF⟩ : ∃ wF, wF = st5 w4 (w.heap.size + 1) (.int .i64 0) (.int .i64 0) (.int .i64 0) (.int .i64 0) (.slice none 0 0) := ⟨_, rfl⟩
                rw [← hwF] at hb5 hq5
                unfold st5 at hwF
                rewrite [← hwF]
                obtain ⟨⟨b0, b1, b2, b3, b4⟩, -⟩ := c5 hq5
                exact bodyPost_ret (v := .tuple #[zeroC, .int .i64 2]) (by simp [results, Try.results31, go_sem, b0, b1, b2, b3, b4]) rfl ((HR.out _ _).2 ⟨.inl ⟨by simp, rfl⟩, hb5⟩)
              · have hn64 : ((ns : Int) == 64) = false := by simp; omega
                have HN64 := Lib.hid h64
                clear h64
                go_wp2_with fail
                refine (HLV.out w4 HB4.out).mono ?_
                rintro e w5 ⟨hb5, vl, rfl, hrl⟩
                obtain ⟨pl, cl, rfl⟩ := row_slice hrl
                rw [HAL.out]
                obtain ⟨nl, hnl⟩ : ∃ q, q = (all x).length := ⟨_, rfl⟩
                rw [← hnl]
                have HNL := Lib.hid hnl
                have HB5 := Lib.hid (HB4.out.trans (hb5.mono HB4.out.size))
                have HB35 := Lib.hid (HB34.out.trans (hb5.mono HB34.out.size))
                have HQ25 := Lib.hid (HQ24.out.next hb5)
                have HQ15 := Lib.hid (HQ14.out.next hb5)
                have hsl5 := (cell_same (hb5.block r hll4) 4).trans hsl4
                clear hrl hnl hb5 r0 r1 r2 r3 r4 f0 f1 f2 f3 f4 x0 x1 x2 x3 x4
                obtain ⟨⟨r0, r1, r2, r3, r4⟩, f0, f1, f2, f3, f4⟩ := c5 HQ25.out
                by_cases h128 : nl = 128
                · have hR2 : ∀ e w', R e w' ↔ (TellR w.heap.size (zeroT, 2) e w' ∧ Below w.heap.size w w') := by
                    have h := HRE.out
                    rw [if_pos (.inr (HNL.out.symm.trans h128))] at h
                    exact h
                  have HR := Lib.hid hR2
                  subst h128
                  clear hR2
                  go_wp2_with fail
                  obtain ⟨hb5, hq5, -⟩ := st5_next HB5.out (by omega) HQ25.out (.int .i64 0) (.int .i64 0) (.int .i64 0) (.int .i64 0) (.slice none 0 0)
                  obtain ⟨wF, hwF⟩ : ∃ wF, wF = st5 w5 (w.heap.size + 1) (.int .i64 0) (.int .i64 0) (.int .i64 0) (.int .i64 0) (.slice none 0 0) := ⟨_, rfl⟩
                  rw [← hwF] at hb5 hq5
                  unfold st5 at hwF
                  rewrite [← hwF]
                  obtain ⟨⟨b0, b1, b2, b3, b4⟩, -⟩ := c5 hq5
                  exact bodyPost_ret (v := .tuple #[zeroC, .int .i64 2]) (by simp [results, Try.results31, go_sem, b0, b1, b2, b3, b4]) rfl ((HR.out _ _).2 ⟨.inl ⟨by simp, rfl⟩, hb5⟩)
                · have hR2 := HRE.out
                  rw [if_neg (by rintro (h | h); exact HN64.out (HNP.out.trans h); exact h128 (HNL.out.trans h))] at hR2
                  have HR := Lib.hid hR2
                  have hn128 : ((nl : Int) == 128) = false := by simp; omega
                  have hll5 : r < w5.heap.size := block_of_cell' hsl5
                  clear hR2 h128 hsl4 hll4
                  go_wp2_with fail
                  obtain ⟨w6, hw6⟩ : ∃ w6, w6 = w5.alloc (.cells #[.int .i64 0, .int .i64 65536, .int .i64 c, .int .i64 se, .slice none 0 0] 24) := ⟨_, rfl⟩
                  have hB56 : Below w5.heap.size w5 w6 := by rw [hw6]; exact (Below.refl _ _).alloc (Nat.le_refl _) _
                  have hlf : Blk w6 w5.heap.size 24 #[.int .i64 0, .int .i64 65536, .int .i64 c, .int .i64 se, .slice none 0 0] := by rw [hw6]; exact Blk.new _ _ _
                  have HB36 := Lib.hid (HB35.out.trans (hB56.mono HB35.out.size))
                  have HB6 := Lib.hid (HB5.out.trans (hB56.mono HB5.out.size))
                  have HQ26 := Lib.hid (HQ25.out.next hB56)
                  have hsl6 := (cell_same (hB56.block r hll5) 4).trans hsl5
                  have hsf6 : w6.frozen? ⟨r, 4, none⟩ = false := by
                    have := ((HRT.out.next HB36.out).held.get HGS.out).free ((loc r 0 t []).2 + 4)
                    rwa [← HLL.out] at this
                  obtain ⟨⟨l0, l1, l2, l3, l4⟩, -⟩ := c5 hlf
                  have hll6 := Nat.lt_of_lt_of_le hll5 hB56.size
                  have hlf6 := hlf.lt
                  have HIN : Hid (∀ (W : World) (vb : Nat), Below w3.heap.size w3 W → Below w.heap.size w W → Blk W (w.heap.size + 1) 24 #[.int .i64 0, .int .i64 0, .int .i64 0, .int .i64 0, .slice none 0 0] → Blk W vb 24 #[.int .i64 0, .int .i64 65536, .int .i64 c, .int .i64 se, .slice none 0 0] → w3.heap.size ≤ vb → Calls Try.prog 66 #[.slice ps ns cs, .int .i64 (ns : Int), .slice (some ⟨vb, 0, none⟩) 1 1] W fun e w' => ∃ g7 c7 t', e = .returned (.slice (some ⟨g7, 0, none⟩) (ns + 1) c7) ∧ (∃ u, w'.cell? ⟨r, 4, none⟩ = some u) ∧ w'.frozen? ⟨r, 4, none⟩ = false ∧ Root w1.heap.size (w'.setCell ⟨r, 4, none⟩ (.slice (some ⟨g7, 0, none⟩) (ns + 1) c7)) r t' ∧ era t' = put x [] (.mk pp.a (pp.ks.take ns ++ leafC c se :: pp.ks.drop ns)) ∧ Below w.heap.size w (w'.setCell ⟨r, 4, none⟩ (.slice (some ⟨g7, 0, none⟩) (ns + 1) c7)) ∧ Blk (w'.setCell ⟨r, 4, none⟩ (.slice (some ⟨g7, 0, none⟩) (ns + 1) c7)) (w.heap.size + 1) 24 #[.int .i64 0, .int .i64 0, .int .i64 0, .int .i64 0, .slice none 0 0]) := fun W vb hW hwW hqW hq hvb => by
                    have hr := (HRT.out.next hW)
                    have ho := (hr.held.get HGS.out).own.1
                    have hlt := HRT.out.lt
                    have hge := HRT.out.ge
                    have hni := hr.loc_not HGS.out
                    have hmem := hr.loc_mem HGS.out
                    rw [← HLL.out] at hni hmem
                    have hcall := insert_c 0 (slA (Tr.mk a ks : ATr)) ks.length ns vb (rowOf ks) (encC ⟨0, 65536, c, se⟩ (.slice none 0 0)) W ho (by simpa [encC] using hq) rfl (by intro u hu; simp [encC] at hu; rcases hu with rfl | rfl | rfl | rfl | rfl <;> rfl) (rowOf_one ks) (by rw [← HNS.out]; have := HNB.out; omega) (by rw [HNS.out]; exact Nat.le_refl _) (fun b hb => by
                      obtain ⟨h0, e⟩ := slA_own hb
                      have := hlt b (by rw [blks_top, List.mem_cons]; right; rw [e]; exact blks_get HGS.out _ (own_in h0))
                      omega) (Nat.zero_le _)
                    have hargs : (#[slA (Tr.mk a ks : ATr), .int .i64 (((ns) : Nat) : Int), .slice (some ⟨vb, 0, none⟩) 1 1] : Array Value) = #[.slice ps ns cs, .int .i64 (ns : Int), .slice (some ⟨vb, 0, none⟩) 1 1] := by rw [HSS.out]; (try rfl)
                    rw [hargs] at hcall
                    refine hcall.mono ?_
                    rintro e w9 ⟨v', rfl, ho', hb', hg'⟩
                    obtain ⟨g7, c7, hv7, _, _⟩ := ho'.form (by omega)
                    rw [← HNS.out] at hv7
                    subst hv7
                    have hlk : w9.heap[r]? = W.heap[r]? := hb'.block r (Nat.lt_of_lt_of_le (hlt r hmem) hW.size) fun e => by
                      obtain ⟨h0, e⟩ := slA_own e.symm
                      exact hni (e ▸ own_in h0)
                    obtain ⟨gA, cA, hvA, hroot, hturn⟩ := hr.insert (w1 := w9) (v := .slice (some ⟨g7, 0, none⟩) (ns + 1) c7) (c := c) (se := se) HGS.out (by rw [HNS.out]; exact Nat.le_refl _) ⟨_, rfl, ho', hb', hg'⟩ (Nat.le_trans HN3.out hW.size)
                    rw [← HLL.out] at hroot hturn
                    have hpp : pp = .mk a.d (ks.map era) := by rw [← HES.out, era_mk]
                    refine ⟨g7, c7, _, rfl, ⟨.slice ps ns cs, ?_⟩, ?_, hroot, ?_, ?_, ?_⟩
                    · have := (hr.held.get HGS.out).cells 4 _ rfl
                      rw [← HLL.out, HSS.out] at this
                      exact (cell_same hlk _).trans this
                    · have := (hr.held.get HGS.out).free ((loc r 0 t []).2 + 4)
                      rw [← HLL.out] at this
                      exact (World.frozen?_of_block (a := ⟨r, 4, none⟩) hlk).trans this
                    · rw [era_put HGS.out, HET.out, era_mk, hpp]
                      simp only [Tr.a_mk, Tr.ks_mk, List.map_append, List.map_take, List.map_drop, List.map_cons, era_mk, List.map_nil]
                      rfl
                    · exact ⟨hturn.os.trans hwW.os, hturn.tape.trans hwW.tape, hturn.output.trans hwW.output, Nat.le_trans hwW.size hturn.size, fun b hb => (hturn.block b (Nat.lt_of_lt_of_le hb hwW.size) fun hm => by have h1 := hge b hm; have h2 := HN1.out; omega).trans (hwW.block b hb)⟩
                    · exact hturn.blk hqW fun hm => by have h1 := hge _ hm; have h2 := HN1.out; omega
                  rw [← hw6]
                  clear hw6 hB56 hlf hsl5 hll5 r0 r1 r2 r3 r4 f0 f1 f2 f3 f4
                  obtain ⟨zz, hzz⟩ : ∃ zz, zz = put x [] (.mk pp.a (pp.ks.take ns ++ leafC c se :: pp.ks.drop ns)) := ⟨_, rfl⟩
                  rw [← hzz] at HIN HR
                  clear hzz
                  go_cut [] (fun wx => ConDone w1.heap.size r (w.heap.size + 1) zz w wx)
                  case first =>
                    go_region_law (go_simp; (go_at_call 66; ((with_reducible refine (HIN.out _ _ ((HB36.out.alloc HB36.out.size _).drew) ((HB6.out.alloc HB6.out.size _).drew) ((HQ26.out.alloc _).drew) ((Blk.new _ _ _).drew) HB36.out.size).mono ?_); rintro ex w7 ⟨g7, c7, t', rfl, ⟨u7, hu7⟩, hf7, h7⟩); have HD7 := Lib.hid h7; clear h7))
                    all_goals (go_wp2_with fail; go_meet)
                    all_goals exact ⟨t', HD7.out⟩
                  case rest =>
                    obtain ⟨w8, hw8⟩ : ∃ w8, w8 = wc := ⟨_, rfl⟩
                    subst hw8
                    obtain ⟨t', h7, he7, hb7, hq7⟩ := hcut
                    have HR7 := Lib.hid h7
                    have HE7 := Lib.hid he7
                    have HB7 := Lib.hid hb7
                    have HQ7 := Lib.hid hq7
                    clear h7 he7 hb7 hq7
                    obtain ⟨pz, cz, hsz⟩ : ∃ pz cz, slA t' = .slice pz t'.ks.length cz := slV_slice _ _ _
                    obtain ⟨nz, hnz⟩ : ∃ nz, nz = t'.ks.length := ⟨_, rfl⟩
                    rw [← hnz] at hsz
                    have hcr := root_cells HR7.out
                    rw [hsz] at hcr
                    obtain ⟨m0, m1, m2, m3, m4⟩ := hcr
                    obtain ⟨⟨r0, r1, r2, r3, r4⟩, f0, f1, f2, f3, f4⟩ := c5 HQ7.out
                    have hrn : r ≠ w.heap.size + 1 := fun e => by have h1 := HR7.out.ge r (by rw [blks_top]; simp); have h2 := HN1.out; omega
                    have hgN : w.heap.size + 1 < w1.heap.size := by have := HN1.out; omega
                    have HTL := Lib.hid (told (B := w.heap.size) HR7.out HE7.out (by have := HB1.out.size; omega) hgN (.int .i64 t'.a.d.k) (.int .i64 t'.a.d.w) (.int .i64 t'.a.d.c) (.int .i64 t'.a.d.s) (.slice pz nz cz))
                    rw [hsz] at HTL
                    obtain ⟨hbF, hqF, -⟩ := st5_next HB7.out (by omega) HQ7.out (.int .i64 t'.a.d.k) (.int .i64 t'.a.d.w) (.int .i64 t'.a.d.c) (.int .i64 t'.a.d.s) (.slice pz nz cz)
                    obtain ⟨ta, hta⟩ : ∃ ta, ta = t'.a.d := ⟨_, rfl⟩
                    obtain ⟨wF, hwF⟩ : ∃ wF, wF = st5 w8 (w.heap.size + 1) (.int .i64 t'.a.d.k) (.int .i64 t'.a.d.w) (.int .i64 t'.a.d.c) (.int .i64 t'.a.d.s) (.slice pz nz cz) := ⟨_, rfl⟩
                    rw [← hwF] at hbF hqF HTL
                    rw [← hta] at m0 m1 m2 m3 hqF hwF HTL
                    have HBF := Lib.hid hbF
                    have HQF := Lib.hid hqF
                    have HWF := Lib.hid hwF
                    clear hsl6 hsf6 l0 l1 l2 l3 l4 hll6 hlf6 hsz hnz hta hbF hqF hwF
                    go_wp2_with fail
                    have hwF := HWF.out
                    unfold st5 at hwF
                    rewrite [← hwF]
                    obtain ⟨⟨b0, b1, b2, b3, b4⟩, -⟩ := c5 HQF.out
                    exact bodyPost_ret (v := .tuple #[.agg #[.int .i64 ta.k, .int .i64 ta.w, .int .i64 ta.c, .int .i64 ta.s, .slice pz nz cz], .int .i64 0]) (by simp [results, Try.results31, go_sem, b0, b1, b2, b3, b4]) rfl ((HR.out _ _).2 ⟨HTL.out, HBF.out⟩)
          · obtain ⟨v, j, pp, y, hu, hgp, hgy⟩ : ∃ v j pp y, IsWay x near (v ++ [j]) ∧ get x v = some pp ∧ pp.ks[j]? = some y := by
              rcases findI_spec (c := near) htr with ⟨h1, _⟩ | ⟨_, u, h2, _⟩
              · rcases hnn with h | h
                · exact absurd h hne3
                · rw [h1] at h; cases h
              · obtain ⟨v, j, pp, y, rfl, h3, h4, h5⟩ := id h2
                exact ⟨v, j, pp, y, h2, h3, h4⟩
            have hsp : insSpot x near = (v, j + 1) := by
              unfold insSpot; rw [if_neg hne3, findI_of htr hu]; simp
            rw [hI, hsp] at hRe
            simp only at hRe
            rw [hgp] at hRe
            simp only at hRe
            have HRE := Lib.hid hRe
            have HU := Lib.hid hu
            have HGP := Lib.hid hgp
            have hne : (near == 0) = false := by simpa using hne3
            have hne2 : (near != 0) = true := by simpa using hne3
            have HPB : Hid (pp.ks.length ≤ 100000) := ((hK.fine (x := x) hw hwd) v pp hgp).2
            have hjb : j ≤ 1000000 := by have h1 := (List.getElem?_eq_some_iff.1 hgy).1; have := HPB.out; omega
            have hw64 : wrap64 ((j : Int) + 1) = (j : Int) + 1 := by unfold wrap64; omega
            have HJL : Hid (j + 1 ≤ pp.ks.length) := (List.getElem?_eq_some_iff.1 hgy).1
            clear hb0 hq1 hq2 hq3 hwB hK hw hd hwd hn hR hRe htr hc0 hnr hg hnn hI hu hgp hgy hsp
            show Calls Try.prog 31 #[.agg #[.int .i64 x.a.k, .int .i64 x.a.w, .int .i64 x.a.c, .int .i64 x.a.s, .slice p n cap], .int .i64 near, .int .i64 c, .int .i64 se] w R
            go_enter Try.func31, Try.ntmps31
            go_wp2_with fail
            rw [← HWB.out]
            refine HF.out.mono ?_
            rintro e w1 ⟨hb1, ⟨htr1, rfl⟩ | ⟨htr1, rb, vs, rfl, hrb, hblk, hvl, hvs⟩⟩
            · rw [HTR.out] at htr1; cases htr1
            · have hlen : (waysOf x [c, near]).length = 2 := waysOf_len x [c, near]
              obtain ⟨o0, ho0⟩ : ∃ o, (waysOf x [c, near])[0]? = some o := ⟨_, List.getElem?_eq_getElem (by omega)⟩
              obtain ⟨o1, ho1⟩ : ∃ o, (waysOf x [c, near])[1]? = some o := ⟨_, List.getElem?_eq_getElem (by omega)⟩
              obtain ⟨v0, hv0, hwo0⟩ := hvs 0 o0 ho0
              obtain ⟨v1, hv1, hwo1⟩ := hvs 1 o1 ho1
              have HB1 := Lib.hid (HB.out.trans (hb1.mono HB.out.size))
              have hq11 := HQ1.out.next hb1
              have hq21 := HQ2.out.next hb1
              have hr0 := hblk.at_ (i := 0) (v := v0) (by simpa using hv0)
              have hr1 := hblk.at_ (i := 1) (v := v1) (by simpa using hv1)
              have HQ11 := Lib.hid hq11
              have HQ21 := Lib.hid hq21
              have h7 := ways_spec HTR.out (cs := [c, near]) (i := 0) (by simp) rfl
              rw [HC0.out] at h7
              rcases h7 with ⟨_, h7⟩ | ⟨h7, _⟩
              rotate_left
              · cases h7
              rw [ho0] at h7
              have h7 := Option.some.inj h7
              subst h7
              obtain rfl : v0 = .slice none 0 0 := hwo0
              have h8 := ways_spec HTR.out (cs := [c, near]) (i := 1) (by simp) rfl
              rcases h8 with ⟨h8, _⟩ | ⟨_, u1, hu1, h8⟩
              · rw [HU.out.has HTR.out] at h8; cases h8
              have h9 := hu1.unique HTR.out HU.out
              subst h9
              rw [ho1] at h8
              have h8 := Option.some.inj h8
              subst h8
              have hwo1 : WV w1 (fun _ => True) (v ++ [j]) v1 := hwo1
              obtain ⟨b1', c1', rfl⟩ := way_slice hwo1 (by simp)
              have en := neq_nil_slice
              obtain ⟨nw, hnw⟩ : ∃ nw, nw = (v ++ [j]).length := ⟨_, rfl⟩
              rw [← hnw] at hr1 hv1 hwo1
              have en2 := eql_slice_nil b1' nw c1'
              clear hnw
              obtain ⟨⟨x0, x1, x2, x3, x4⟩, -⟩ := c5 hq11
              have hls1 := hq11.lt
              go_wp2_with fail
              refine (HC.out w1 HB1.out).mono ?_
              rintro e w2 ⟨t, rfl, het, hot, hnt, hbt, hB2⟩
              obtain ⟨pt, ct, hst⟩ : ∃ pt ct, slA t = .slice pt t.ks.length ct := slV_slice _ _ _
              obtain ⟨nt, hntl⟩ : ∃ nt, nt = t.ks.length := ⟨_, rfl⟩
              rw [← hntl] at hst
              rw [hst]
              obtain ⟨w3, hw3⟩ : ∃ w3, w3 = w2.alloc (.cells #[.int .i64 x.a.k, .int .i64 x.a.w, .int .i64 x.a.c, .int .i64 x.a.s, .slice pt nt ct] 24) := ⟨_, rfl⟩
              have hB23 : Below w2.heap.size w2 w3 := by rw [hw3]; exact (Below.refl _ _).alloc (Nat.le_refl _) _
              have hB13 := hB2.trans (hB23.mono hB2.size)
              have hBw3 := HB1.out.trans (hB13.mono HB1.out.size)
              have had : t.a.d = x.a := by rw [← het, era_a]
              have hroot : Root w1.heap.size w3 w2.heap.size t := by
                have h := Root.made (N := w1.heap.size) hot hnt hbt hB2.size
                rw [had, hst] at h
                rw [hw3]; exact h
              obtain ⟨s, hs, hes⟩ : ∃ s, get t v = some s ∧ era s = pp := by
                have h := HGP.out
                rw [← het, era_get] at h
                cases hg : get t v with
                | none => rw [hg] at h; cases h
                | some s => rw [hg] at h; exact ⟨s, rfl, Option.some.inj h⟩
              obtain ⟨a, ks⟩ := s
              obtain ⟨ns, hns⟩ : ∃ ns, ns = ks.length := ⟨_, rfl⟩
              have hnsp : ns = pp.ks.length := by rw [hns, ← hes, era_ks, List.length_map]; rfl
              obtain ⟨ps, cs, hss⟩ : ∃ ps cs, slA (.mk a ks : ATr) = .slice ps ns cs := by rw [hns]; exact slV_slice _ _ _
              have hsh := hroot.held.get hs
              have hsl4 := hsh.cells 4 _ rfl
              rw [show (slA (Tr.mk a ks : ATr)) = .slice ps ns cs from hss] at hsl4
              have hsf4 := hsh.free ((loc w2.heap.size 0 t v).2 + 4)
              have hll := hsh.lt
              obtain ⟨r, hr⟩ : ∃ r, r = w2.heap.size := ⟨_, rfl⟩
              rw [← hr] at hroot hsl4 hsf4 hll
              obtain ⟨L, hL⟩ : ∃ L, L = loc r 0 t v := ⟨_, rfl⟩
              have HCUT := Lib.hid (fun (j : Nat) (vw : Value) (W : World) (hW : Below w3.heap.size w3 W) (hv : WV W (fun _ => True) (v ++ [j]) vw) => cut_c (fun _ => True) t (.mk a ks) r 0 v j vw W (hroot.next hW).held hv hs)
              rw [← hL] at hsl4 hsf4 hll HCUT
              obtain ⟨lb, lo⟩ := L
              have HLL := Lib.hid hL
              have HRT := Lib.hid hroot
              have HGS := Lib.hid hs
              have HES := Lib.hid hes
              have HET := Lib.hid het
              have HNS := Lib.hid hns
              have HNP := Lib.hid hnsp
              have HNB : Hid (ns ≤ 100000) := by show _ ≤ _; rw [hnsp]; exact HPB.out
              have HSS := Lib.hid hss
              have HB3 := Lib.hid hBw3
              have HQ13 := Lib.hid (hq11.next hB13)
              have HQ23 := Lib.hid (hq21.next hB13)
              have HW3 := Lib.hid hw3
              have HRR := Lib.hid hr
              have hls2 : rb < w2.heap.size := (hblk.next hB2).lt
              have hr13 : w3.cell? ⟨rb, 1, none⟩ = some (.slice (some ⟨b1', 0, none⟩) nw c1') := (hblk.next hB13).at_ (i := 1) (by simpa using hv1)
              have HN1 : Hid (w.heap.size + 1 + 1 ≤ w1.heap.size) := hq21.lt
              have HN2 : Hid (w1.heap.size ≤ w2.heap.size) := hB2.size
              have HN3 : Hid (w1.heap.size ≤ w3.heap.size) := hB13.size
              have HWV := Lib.hid (hwo1.next hB13)
              have hcr := root_cells hroot
              rw [had, hst] at hcr
              obtain ⟨m0, m1, m2, m3, m4⟩ := hcr
              clear x0 x1 x2 x3 x4
              obtain ⟨⟨x0, x1, x2, x3, x4⟩, -⟩ := c5 HQ13.out
              have HV1 := Lib.hid hv1
              clear hb1 htr1 hq11 hq21 hvs hv0 hv1 ho0 ho1 hlen hwo1 het hot hnt hbt hB2 hst hntl hw3 hB23 hB13 hBw3 had hroot hs hes hns hnsp hss hsh hr hL hblk
              go_wp2_with fail
              rw [← HW3.out, ← HRR.out]
              go_quiet (fail)
              go_wp2_with fail
              refine (HCUT.out j _ (w3.drewN nq) (below_drewN (Below.refl _ _) nq) (HWV.out.next (below_drewN (Below.refl _ _) nq))).mono ?_
              rintro e w4 ⟨rfl, hdr⟩
              obtain ⟨hB4, hsm⟩ : Below w3.heap.size w3 w4 ∧ ((∀ a, w4.cell? a = w3.cell? a) ∧ ∀ a, w4.frozen? a = w3.frozen? a) := by
                obtain ⟨m, rfl⟩ := hdr
                exact ⟨(below_drewN (Below.refl _ _) nq).trans (below_drewN (Below.refl _ _) m), fun _ => rfl, fun _ => rfl⟩
              clear hdr
              have HB4 := Lib.hid (HB3.out.trans (hB4.mono HB3.out.size))
              have HB34 := Lib.hid hB4
              have e0 : ∀ a, w4.cell? a = w3.cell? a := fun a => hsm.1 a
              rw [← e0] at hsl4 x0 x1 x2 x3 x4
              have HQ24 := Lib.hid (HQ23.out.next hB4)
              have HQ14 := Lib.hid (HQ13.out.next hB4)
              have hsf : w4.frozen? ⟨lb, lo + 4, none⟩ = false := (hsm.2 _).trans hsf4
              have hll4 : lb < w4.heap.size := Nat.lt_of_lt_of_le hll hB4.size
              obtain ⟨⟨r0, r1, r2, r3, r4⟩, f0, f1, f2, f3, f4⟩ := c5 HQ24.out
              clear e0 hsm hB4 hsf4 hll m0 m1 m2 m3 m4
              by_cases h64 : ns = 64
              · have hR2 : ∀ e w', R e w' ↔ (TellR w.heap.size (zeroT, 2) e w' ∧ Below w.heap.size w w') := by
                  have h := HRE.out
                  rw [if_pos (.inl (HNP.out.symm.trans h64))] at h
                  exact h
                have HR := Lib.hid hR2
                subst h64
                clear hR2
                go_wp2_with fail
                obtain ⟨hb5, hq5, -⟩ := st5_next HB4.out (by omega) HQ24.out (.int .i64 0) (.int .i64 0) (.int .i64 0) (.int .i64 0) (.slice none 0 0)
                obtain ⟨wF, hwF⟩ : ∃ wF, wF = st5 w4 (w.heap.size + 1) (.int .i64 0) (.int .i64 0) (.int .i64 0) (.int .i64 0) (.slice none 0 0) := ⟨_, rfl⟩
                rw [← hwF] at hb5 hq5
                unfold st5 at hwF
                rewrite [← hwF]
                obtain ⟨⟨b0, b1, b2, b3, b4⟩, -⟩ := c5 hq5
                exact bodyPost_ret (v := .tuple #[zeroC, .int .i64 2]) (by simp [results, Try.results31, go_sem, b0, b1, b2, b3, b4]) rfl ((HR.out _ _).2 ⟨.inl ⟨by simp, rfl⟩, hb5⟩)
              · have hn64 : ((ns : Int) == 64) = false := by simp; omega
                have HN64 := Lib.hid h64
                clear h64
                go_wp2_with fail
                refine (HLV.out w4 HB4.out).mono ?_
                rintro e w5 ⟨hb5, vl, rfl, hrl⟩
                obtain ⟨pl, cl, rfl⟩ := row_slice hrl
                rw [HAL.out]
                obtain ⟨nl, hnl⟩ : ∃ q, q = (all x).length := ⟨_, rfl⟩
                rw [← hnl]
                have HNL := Lib.hid hnl
                have HB5 := Lib.hid (HB4.out.trans (hb5.mono HB4.out.size))
                have HB35 := Lib.hid (HB34.out.trans (hb5.mono HB34.out.size))
                have HQ25 := Lib.hid (HQ24.out.next hb5)
                have HQ15 := Lib.hid (HQ14.out.next hb5)
                have hsl5 := (cell_same (hb5.block lb hll4) (lo + 4)).trans hsl4
                clear hrl hnl hb5 r0 r1 r2 r3 r4 f0 f1 f2 f3 f4 x0 x1 x2 x3 x4
                obtain ⟨⟨r0, r1, r2, r3, r4⟩, f0, f1, f2, f3, f4⟩ := c5 HQ25.out
                by_cases h128 : nl = 128
                · have hR2 : ∀ e w', R e w' ↔ (TellR w.heap.size (zeroT, 2) e w' ∧ Below w.heap.size w w') := by
                    have h := HRE.out
                    rw [if_pos (.inr (HNL.out.symm.trans h128))] at h
                    exact h
                  have HR := Lib.hid hR2
                  subst h128
                  clear hR2
                  go_wp2_with fail
                  obtain ⟨hb5, hq5, -⟩ := st5_next HB5.out (by omega) HQ25.out (.int .i64 0) (.int .i64 0) (.int .i64 0) (.int .i64 0) (.slice none 0 0)
                  obtain ⟨wF, hwF⟩ : ∃ wF, wF = st5 w5 (w.heap.size + 1) (.int .i64 0) (.int .i64 0) (.int .i64 0) (.int .i64 0) (.slice none 0 0) := ⟨_, rfl⟩
                  rw [← hwF] at hb5 hq5
                  unfold st5 at hwF
                  rewrite [← hwF]
                  obtain ⟨⟨b0, b1, b2, b3, b4⟩, -⟩ := c5 hq5
                  exact bodyPost_ret (v := .tuple #[zeroC, .int .i64 2]) (by simp [results, Try.results31, go_sem, b0, b1, b2, b3, b4]) rfl ((HR.out _ _).2 ⟨.inl ⟨by simp, rfl⟩, hb5⟩)
                · have hR2 := HRE.out
                  rw [if_neg (by rintro (h | h); exact HN64.out (HNP.out.trans h); exact h128 (HNL.out.trans h))] at hR2
                  have HR := Lib.hid hR2
                  have hn128 : ((nl : Int) == 128) = false := by simp; omega
                  have hll5 : lb < w5.heap.size := block_of_cell' hsl5
                  clear hR2 h128 hsl4 hll4
                  go_wp2_with fail
                  obtain ⟨w6, hw6⟩ : ∃ w6, w6 = w5.alloc (.cells #[.int .i64 0, .int .i64 65536, .int .i64 c, .int .i64 se, .slice none 0 0] 24) := ⟨_, rfl⟩
                  have hB56 : Below w5.heap.size w5 w6 := by rw [hw6]; exact (Below.refl _ _).alloc (Nat.le_refl _) _
                  have hlf : Blk w6 w5.heap.size 24 #[.int .i64 0, .int .i64 65536, .int .i64 c, .int .i64 se, .slice none 0 0] := by rw [hw6]; exact Blk.new _ _ _
                  have HB36 := Lib.hid (HB35.out.trans (hB56.mono HB35.out.size))
                  have HB6 := Lib.hid (HB5.out.trans (hB56.mono HB5.out.size))
                  have HQ26 := Lib.hid (HQ25.out.next hB56)
                  have hsl6 := (cell_same (hB56.block lb hll5) (lo + 4)).trans hsl5
                  have hsf6 : w6.frozen? ⟨lb, lo + 4, none⟩ = false := by
                    have := ((HRT.out.next HB36.out).held.get HGS.out).free ((loc r 0 t v).2 + 4)
                    rwa [← HLL.out] at this
                  obtain ⟨⟨l0, l1, l2, l3, l4⟩, -⟩ := c5 hlf
                  have hll6 := Nat.lt_of_lt_of_le hll5 hB56.size
                  have hlf6 := hlf.lt
                  have HIN : Hid (∀ (W : World) (vb : Nat), Below w3.heap.size w3 W → Below w.heap.size w W → Blk W (w.heap.size + 1) 24 #[.int .i64 0, .int .i64 0, .int .i64 0, .int .i64 0, .slice none 0 0] → Blk W vb 24 #[.int .i64 0, .int .i64 65536, .int .i64 c, .int .i64 se, .slice none 0 0] → w3.heap.size ≤ vb → Calls Try.prog 66 #[.slice ps ns cs, .int .i64 ((j : Int) + 1), .slice (some ⟨vb, 0, none⟩) 1 1] W fun e w' => ∃ g7 c7 t', e = .returned (.slice (some ⟨g7, 0, none⟩) (ns + 1) c7) ∧ (∃ u, w'.cell? ⟨lb, lo + 4, none⟩ = some u) ∧ w'.frozen? ⟨lb, lo + 4, none⟩ = false ∧ Root w1.heap.size (w'.setCell ⟨lb, lo + 4, none⟩ (.slice (some ⟨g7, 0, none⟩) (ns + 1) c7)) r t' ∧ era t' = put x v (.mk pp.a (pp.ks.take (j + 1) ++ leafC c se :: pp.ks.drop (j + 1))) ∧ Below w.heap.size w (w'.setCell ⟨lb, lo + 4, none⟩ (.slice (some ⟨g7, 0, none⟩) (ns + 1) c7)) ∧ Blk (w'.setCell ⟨lb, lo + 4, none⟩ (.slice (some ⟨g7, 0, none⟩) (ns + 1) c7)) (w.heap.size + 1) 24 #[.int .i64 0, .int .i64 0, .int .i64 0, .int .i64 0, .slice none 0 0]) := fun W vb hW hwW hqW hq hvb => by
                    have hr := (HRT.out.next hW)
                    have ho := (hr.held.get HGS.out).own.1
                    have hlt := HRT.out.lt
                    have hge := HRT.out.ge
                    have hni := hr.loc_not HGS.out
                    have hmem := hr.loc_mem HGS.out
                    rw [← HLL.out] at hni hmem
                    have hcall := insert_c 0 (slA (Tr.mk a ks : ATr)) ks.length (j + 1) vb (rowOf ks) (encC ⟨0, 65536, c, se⟩ (.slice none 0 0)) W ho (by simpa [encC] using hq) rfl (by intro u hu; simp [encC] at hu; rcases hu with rfl | rfl | rfl | rfl | rfl <;> rfl) (rowOf_one ks) (by rw [← HNS.out]; have := HNB.out; omega) (by rw [← HNS.out, HNP.out]; exact HJL.out) (fun b hb => by
                      obtain ⟨h0, e⟩ := slA_own hb
                      have := hlt b (by rw [blks_top, List.mem_cons]; right; rw [e]; exact blks_get HGS.out _ (own_in h0))
                      omega) (Nat.zero_le _)
                    have hargs : (#[slA (Tr.mk a ks : ATr), .int .i64 ((((j + 1)) : Nat) : Int), .slice (some ⟨vb, 0, none⟩) 1 1] : Array Value) = #[.slice ps ns cs, .int .i64 ((j : Int) + 1), .slice (some ⟨vb, 0, none⟩) 1 1] := by rw [HSS.out]; (try rfl)
                    rw [hargs] at hcall
                    refine hcall.mono ?_
                    rintro e w9 ⟨v', rfl, ho', hb', hg'⟩
                    obtain ⟨g7, c7, hv7, _, _⟩ := ho'.form (by omega)
                    rw [← HNS.out] at hv7
                    subst hv7
                    have hlk : w9.heap[lb]? = W.heap[lb]? := hb'.block lb (Nat.lt_of_lt_of_le (hlt lb hmem) hW.size) fun e => by
                      obtain ⟨h0, e⟩ := slA_own e.symm
                      exact hni (e ▸ own_in h0)
                    obtain ⟨gA, cA, hvA, hroot, hturn⟩ := hr.insert (w1 := w9) (v := .slice (some ⟨g7, 0, none⟩) (ns + 1) c7) (c := c) (se := se) HGS.out (by rw [← HNS.out, HNP.out]; exact HJL.out) ⟨_, rfl, ho', hb', hg'⟩ (Nat.le_trans HN3.out hW.size)
                    rw [← HLL.out] at hroot hturn
                    have hpp : pp = .mk a.d (ks.map era) := by rw [← HES.out, era_mk]
                    refine ⟨g7, c7, _, rfl, ⟨.slice ps ns cs, ?_⟩, ?_, hroot, ?_, ?_, ?_⟩
                    · have := (hr.held.get HGS.out).cells 4 _ rfl
                      rw [← HLL.out, HSS.out] at this
                      exact (cell_same hlk _).trans this
                    · have := (hr.held.get HGS.out).free ((loc r 0 t v).2 + 4)
                      rw [← HLL.out] at this
                      exact (World.frozen?_of_block (a := ⟨lb, lo + 4, none⟩) hlk).trans this
                    · rw [era_put HGS.out, HET.out, era_mk, hpp]
                      simp only [Tr.a_mk, Tr.ks_mk, List.map_append, List.map_take, List.map_drop, List.map_cons, era_mk, List.map_nil]
                      rfl
                    · exact ⟨hturn.os.trans hwW.os, hturn.tape.trans hwW.tape, hturn.output.trans hwW.output, Nat.le_trans hwW.size hturn.size, fun b hb => (hturn.block b (Nat.lt_of_lt_of_le hb hwW.size) fun hm => by have h1 := hge b hm; have h2 := HN1.out; omega).trans (hwW.block b hb)⟩
                    · exact hturn.blk hqW fun hm => by have h1 := hge _ hm; have h2 := HN1.out; omega
                  rw [← hw6]
                  clear hw6 hB56 hlf hsl5 hll5 r0 r1 r2 r3 r4 f0 f1 f2 f3 f4
                  obtain ⟨zz, hzz⟩ : ∃ zz, zz = put x v (.mk pp.a (pp.ks.take (j + 1) ++ leafC c se :: pp.ks.drop (j + 1))) := ⟨_, rfl⟩
                  rw [← hzz] at HIN HR
                  clear hzz
                  go_cut [] (fun wx => ConDone w1.heap.size r (w.heap.size + 1) zz w wx)
                  case first =>
                    go_region_law (go_simp; (go_at_call 66; ((with_reducible refine (HIN.out _ _ ((HB36.out.alloc HB36.out.size _).drew) ((HB6.out.alloc HB6.out.size _).drew) ((HQ26.out.alloc _).drew) ((Blk.new _ _ _).drew) HB36.out.size).mono ?_); rintro ex w7 ⟨g7, c7, t', rfl, ⟨u7, hu7⟩, hf7, h7⟩); have HD7 := Lib.hid h7; clear h7))
                    all_goals (go_wp2_with fail; go_meet)
                    all_goals exact ⟨t', HD7.out⟩
                  case rest =>
                    obtain ⟨w8, hw8⟩ : ∃ w8, w8 = wc := ⟨_, rfl⟩
                    subst hw8
                    obtain ⟨t', h7, he7, hb7, hq7⟩ := hcut
                    have HR7 := Lib.hid h7
                    have HE7 := Lib.hid he7
                    have HB7 := Lib.hid hb7
                    have HQ7 := Lib.hid hq7
                    clear h7 he7 hb7 hq7
                    obtain ⟨pz, cz, hsz⟩ : ∃ pz cz, slA t' = .slice pz t'.ks.length cz := slV_slice _ _ _
                    obtain ⟨nz, hnz⟩ : ∃ nz, nz = t'.ks.length := ⟨_, rfl⟩
                    rw [← hnz] at hsz
                    have hcr := root_cells HR7.out
                    rw [hsz] at hcr
                    obtain ⟨m0, m1, m2, m3, m4⟩ := hcr
                    obtain ⟨⟨r0, r1, r2, r3, r4⟩, f0, f1, f2, f3, f4⟩ := c5 HQ7.out
                    have hrn : r ≠ w.heap.size + 1 := fun e => by have h1 := HR7.out.ge r (by rw [blks_top]; simp); have h2 := HN1.out; omega
                    have hgN : w.heap.size + 1 < w1.heap.size := by have := HN1.out; omega
                    have HTL := Lib.hid (told (B := w.heap.size) HR7.out HE7.out (by have := HB1.out.size; omega) hgN (.int .i64 t'.a.d.k) (.int .i64 t'.a.d.w) (.int .i64 t'.a.d.c) (.int .i64 t'.a.d.s) (.slice pz nz cz))
                    rw [hsz] at HTL
                    obtain ⟨hbF, hqF, -⟩ := st5_next HB7.out (by omega) HQ7.out (.int .i64 t'.a.d.k) (.int .i64 t'.a.d.w) (.int .i64 t'.a.d.c) (.int .i64 t'.a.d.s) (.slice pz nz cz)
                    obtain ⟨ta, hta⟩ : ∃ ta, ta = t'.a.d := ⟨_, rfl⟩
                    obtain ⟨wF, hwF⟩ : ∃ wF, wF = st5 w8 (w.heap.size + 1) (.int .i64 t'.a.d.k) (.int .i64 t'.a.d.w) (.int .i64 t'.a.d.c) (.int .i64 t'.a.d.s) (.slice pz nz cz) := ⟨_, rfl⟩
                    rw [← hwF] at hbF hqF HTL
                    rw [← hta] at m0 m1 m2 m3 hqF hwF HTL
                    have HBF := Lib.hid hbF
                    have HQF := Lib.hid hqF
                    have HWF := Lib.hid hwF
                    clear hsl6 hsf6 l0 l1 l2 l3 l4 hll6 hlf6 hsz hnz hta hbF hqF hwF
                    go_wp2_with fail
                    have hwF := HWF.out
                    unfold st5 at hwF
                    rewrite [← hwF]
                    obtain ⟨⟨b0, b1, b2, b3, b4⟩, -⟩ := c5 HQF.out
                    exact bodyPost_ret (v := .tuple #[.agg #[.int .i64 ta.k, .int .i64 ta.w, .int .i64 ta.c, .int .i64 ta.s, .slice pz nz cz], .int .i64 0]) (by simp [results, Try.results31, go_sem, b0, b1, b2, b3, b4]) rfl ((HR.out _ _).2 ⟨HTL.out, HBF.out⟩)
end Go.Proofs.Ytjeabkcbaielhaa.Co
end
section
namespace Go.Proofs.Ytjeabkcbaielhaa.Co
open Go.RowKit Go.Shelf
end Go.Proofs.Ytjeabkcbaielhaa.Co
end
