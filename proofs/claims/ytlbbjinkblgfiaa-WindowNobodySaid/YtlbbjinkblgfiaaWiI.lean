/- The library's Insert ahead of all. -/
import Derived.Test.YtlbbjinkblgfiaaWiH
import Derived.Shelf.Spec.SlicesInsert
import Derived.Shelf.Spec.SlicesInsertGrow
namespace Go.Proofs.Ytlbbjinkblgfiaa
open Go.RowKit Go.Shelf Go.Maps Go.Lib Go.Sort
theorem heap_setCells_same (b : Nat) (T : TypeId) (fr : Nat × Nat) : ∀ (vs : List Value) (o : Nat) (w : World) (cur : Array Value), w.heap[b]? = some (.cells cur T fr) → ∃ cur', (w.setCells b o vs).heap[b]? = some (.cells cur' T fr) ∧ cur'.size = cur.size
  | [], _, _, cur, h => ⟨cur, h, rfl⟩
  | v :: r, o, w, cur, h => by
    obtain ⟨cur', h1, h2⟩ := heap_setCells_same b T fr r (o + 1) (w.setCell ⟨b, o, none⟩ v) (cur.setIfInBounds o v) (by simp [World.setCell, Array.getElem?_modify, h])
    exact ⟨cur', h1, by simpa using h2⟩
theorem row_of_cells {W : World} {g n cap : Nat} {cur : Array Value} {xs : List Value} (hg : W.heap[g]? = some (.cells cur 3 (0, 0))) (hs : cur.size = cap) (hm : cap ≤ maxLen) (hn : n ≤ cap) (hx : xs.length = n) (hc : ∀ j, j < n → W.cell? ⟨g, j, none⟩ = xs[j]?) :
    W.ownsRow 0 3 1 (.slice (some ⟨g, 0, none⟩) n cap) n xs := by
  refine ⟨by omega, .inr ⟨g, cap, cur, rfl, Nat.zero_le _, hg, hn, hm, by omega, ?_⟩⟩
  apply List.ext_getElem?
  intro i
  by_cases hi : i < n
  · rw [List.getElem?_take_of_lt (by omega), ← hc i hi, cell_of_row W g i cur _ (0, 0) hg]
    simp
  · rw [List.getElem?_eq_none (by simp; omega), List.getElem?_eq_none (by omega)]
theorem grown_setCells {w W : World} {row : Option Nat} (h : w.grownBy W row) (b o : Nat) (vs : List Value) (hb : some b = row ∨ w.heap.size ≤ b) : w.grownBy (W.setCells b o vs) row := by
  induction vs generalizing W o with
  | nil => exact h
  | cons v r ih => exact ih (only_setCell h (by exact hb) v) (o + 1)
theorem size_setCells (b : Nat) : ∀ (vs : List Value) (o : Nat) (w : World), (w.setCells b o vs).heap.size = w.heap.size
  | [], _, _ => rfl
  | v :: r, o, w => by rw [World.setCells, size_setCells b r]; simp [World.setCell]
theorem grow_in {W0 : World} {g cap : Nat} {cur : Array Value} (hg : W0.heap[g]? = some (.cells cur 3 (0, 0))) (hs : cur.size = cap) (id : Int) (xs : List Int) (hn : xs.length + 1 ≤ cap) (hm : cap ≤ maxLen) :
    ((W0.drew.setCells g 0 [.int .i64 id]).drew.setCells g (0 + 1) ((intsV xs).drop 0)).ownsRow 0 3 1 (.slice (some ⟨g, 0, none⟩) (xs.length + 1) cap) (xs.length + 1) (intsV (id :: xs)) := by
  have hg0 : W0.drew.heap[g]? = some (.cells cur 3 (0, 0)) := hg
  generalize W0.drew = W1 at hg0 ⊢
  obtain ⟨cur1, hW1, hs1⟩ := heap_setCells_same g 3 (0, 0) [.int .i64 id] 0 W1 cur hg0
  have hin0 : ∀ j, j < cap → (W1.cell? ⟨g, j, none⟩).isSome = true := fun j hj => by
    rw [cell_of_row W1 g j _ _ _ hg0, Array.getElem?_eq_getElem (by omega)]; rfl
  have h0 := World.cell?_setCells_in g [.int .i64 id] 0 W1 (fun j hj => by rw [Nat.zero_add]; exact hin0 j (by simp at hj; omega)) 0 (by simp)
  have h0' : (W1.setCells g 0 [.int .i64 id]).drew.cell? ⟨g, 0, none⟩ = some (.int .i64 id) := by simpa using h0
  have hW1' : (W1.setCells g 0 [.int .i64 id]).drew.heap[g]? = some (.cells cur1 3 (0, 0)) := hW1
  generalize (W1.setCells g 0 [.int .i64 id]).drew = W2 at hW1' h0' ⊢
  obtain ⟨cur2, hW2, hs2⟩ := heap_setCells_same g 3 (0, 0) ((intsV xs).drop 0) (0 + 1) W2 cur1 hW1'
  have hin1 : ∀ j, j < cap → (W2.cell? ⟨g, j, none⟩).isSome = true := fun j hj => by
    rw [cell_of_row W2 g j _ _ _ hW1', Array.getElem?_eq_getElem (by omega)]; rfl
  refine row_of_cells hW2 (by omega) hm hn (by simp) (fun j hj => ?_)
  cases j with
  | zero =>
    rw [World.cell?_setCells_out _ _ _ _ _ (fun _ _ => .inl (by simp)), h0']
    rfl
  | succ j =>
    have hj' : j < xs.length := by omega
    have := World.cell?_setCells_in g ((intsV xs).drop 0) (0 + 1) W2 (fun i hi => by
      have h2 : i < xs.length := by simpa using hi
      exact hin1 _ (by omega)) j (by simpa using hj')
    rw [show j + 1 = 0 + 1 + j by omega]
    refine Eq.trans this ?_
    rw [show 0 + 1 + j = j + 1 by omega]
    simp [intsV]
    rw [List.getElem?_eq_getElem hj']
    rfl
theorem insert0_c (v : Value) (xs : List Int) (id : Int) (vb : Nat) (w : World) (hr : w.ownsRow 0 3 1 v xs.length (intsV xs)) (hvb : Blk w vb 3 #[.int .i64 id]) (hne : ∀ r, v.ownBlock = some r → vb ≠ r) (hl : xs.length ≤ 1048576) :
    Calls Try.prog 53 #[v, .int .i64 0, .slice (some ⟨vb, 0, none⟩) 1 1] w fun e w' => ∃ v', e = .returned v' ∧ w'.ownsRow 0 3 1 v' (id :: xs).length (intsV (id :: xs)) ∧ w.grownBy w' v.ownBlock ∧ (∀ r, v'.ownBlock = some r → v.ownBlock = some r ∨ w.heap.size ≤ r) := by
  have hr0 := hr
  obtain ⟨hlen, h1⟩ := hr0
  have hvs : ∀ (j : Nat) (u : Value), ([.int .i64 id] : List Value)[j]? = some u → w.cell? ⟨vb, 0 + j, none⟩ = some u := fun j u hu => by
    rw [Nat.zero_add, hvb.cell j]; simpa using hu
  have h1v : ∀ u ∈ ([.int .i64 id] : List Value), u.oneCell' = true := oneCell_ints [id]
  have h1c : ∀ u ∈ intsV xs, u.oneCell' = true := oneCell_ints xs
  rcases h1 with ⟨rfl, hn⟩ | ⟨g, cap, cur, rfl, -, hg, hnc, hcm, hcs, ht⟩
  · have hx : xs = [] := List.eq_nil_of_length_eq_zero hn
    subst hx
    have hcon := Any2.slices_Insert_int_end_grow insInt none 0 0 vb 0 1 1 [] [.int .i64 id] w (by decide) (by decide) (by decide) (by decide) rfl rfl (fun _ => rfl) (fun a ha => by cases ha) hvs h1v
    refine Calls.mono hcon ?_
    rintro e w' ⟨rfl, rfl⟩
    have hge := grownCap_ge w 1 0 3
    have hcm := grownCap_le_maxLen w 1 0 3 (by decide)
    have hW := heap_alloc_new w.drew (.cells (([] ++ [Value.int .i64 id]).toArray ++ Builtin.zeroCells (Value.int .i64 0).cells (grownCap w 1 0 3 - 1)) 3)
    refine ⟨_, rfl, row_of_cells (cap := grownCap w 1 0 3) hW (by simp [size_zeroCells, Value.cells]; omega) hcm hge (by simp) (fun j hj => ?_), ⟨rfl, rfl, rfl, by simp, fun b hb _ => Below.heap_alloc w.drew _ b hb⟩, fun r hr' => .inr ?_⟩
    · obtain rfl : j = 0 := by simpa using hj
      refine (cell_of_row _ w.heap.size 0 _ _ _ hW).trans ?_
      exact Array.getElem?_append_left (by simp)
    · obtain rfl : w.heap.size = r := by simpa [Value.ownBlock] using hr'
      exact Nat.le_refl _
  · have hgv : vb ≠ g := hne g rfl
    have hglt : g < w.heap.size := (Array.getElem?_eq_some_iff.1 hg).1
    have hin : ∀ j, j < cap → (w.cell? ⟨g, j, none⟩).isSome = true := fun j hj => by
      rw [cell_of_row w g j cur _ _ hg, Array.getElem?_eq_getElem (by omega)]; rfl
    have hfz : ∀ j, w.frozen? ⟨g, j, none⟩ = false := fun j => World.ownsRow.frozenAt hr j
    have hcell : ∀ j, j < xs.length → w.cell? ⟨g, j, none⟩ = (intsV xs)[j]? := fun j hj => World.ownsRow.cellAt hr j (by omega)
    have hcs' : ∀ (j : Nat) (u : Value), (intsV xs)[j]? = some u → w.cell? ⟨g, 0 + j, none⟩ = some u := fun j u hu => by
      have := (List.getElem?_eq_some_iff.1 hu).1
      rw [Nat.zero_add, hcell j (by simpa using this)]; exact hu
    by_cases hroom : xs.length + 1 ≤ cap
    · by_cases hz : xs = []
      · subst hz
        have hcon := Any2.slices_Insert_int_end_room insInt g 0 0 cap vb 0 1 1 [.int .i64 id] w (by decide) (by simpa using hroom) (by unfold maxLen at hcm; omega) rfl (fun j hj => by
          rw [show 0 + 0 + j = j by omega]; exact hin j (by simp at hroom; omega)) (fun j _ => by rw [show 0 + 0 + j = j by omega]; exact hfz j) hvs h1v
        refine Calls.mono hcon ?_
        rintro e w' ⟨rfl, rfl⟩
        obtain ⟨cur', hW, hW2⟩ := heap_setCells_same g _ _ [.int .i64 id] (0 + 0) w cur hg
        refine ⟨_, rfl, row_of_cells hW (by omega) hcm (by simpa using hroom) (by simp) (fun j hj => ?_), grown_setCells (only_refl _ _) _ _ _ (.inl rfl), fun r hr' => .inl hr'⟩
        obtain rfl : j = 0 := by simpa using hj
        have := World.cell?_setCells_in g [.int .i64 id] 0 w (fun j hj => by rw [Nat.zero_add]; exact hin j (by simp at hj hroom; omega)) 0 (by simp)
        simpa using this
      · have hpos : 0 < xs.length := List.length_pos_iff.2 hz
        have hcon := Any2.slices_Insert_int_shift insInt g 0 xs.length cap 0 vb 0 1 1 (intsV xs) [.int .i64 id] w hpos (by decide) hroom (by unfold maxLen at hcm; omega) hgv (by simp) rfl hcs'
          (fun j hj => by rw [Nat.zero_add]; exact hin j (by omega)) (fun j _ => by rw [Nat.zero_add]; exact hfz j) hvs h1c h1v 3 3 1 cap (by unfold Blk at hvb; simp [World.shape?, hvb]) (by simp [World.shape?, hg]; omega) (by omega) (hvb.frozen 0) (hvb.frozen 1)
        refine Calls.mono hcon ?_
        rintro e w' ⟨rfl, rfl⟩
        obtain ⟨cur1, hW1, hs1⟩ := heap_setCells_same g 3 (0, 0) ((intsV xs).drop 0) (0 + (0 + 1)) w.drew cur hg
        obtain ⟨cur2, hW2, hs2⟩ := heap_setCells_same g 3 (0, 0) [.int .i64 id] (0 + 0) _ cur1 hW1
        have hin1 : ∀ j, j < cap → ((w.drew.setCells g (0 + (0 + 1)) ((intsV xs).drop 0)).cell? ⟨g, j, none⟩).isSome = true := fun j hj => by
          rw [cell_of_row _ g j cur1 _ _ hW1, Array.getElem?_eq_getElem (by omega)]; rfl
        refine ⟨_, rfl, row_of_cells hW2 (by omega) hcm hroom (by simp) (fun j hj => ?_), grown_setCells (grown_setCells (only_drew (only_refl _ _)) _ _ _ (.inl rfl)) _ _ _ (.inl rfl), fun r hr' => .inl hr'⟩
        cases j with
        | zero =>
          have := World.cell?_setCells_in g [.int .i64 id] 0 _ (fun j hj => by rw [Nat.zero_add]; exact hin1 j (by simp at hj; omega)) 0 (by simp)
          simpa using this
        | succ j =>
          have hj' : j < xs.length := by simpa using hj
          rw [World.cell?_setCells_out g _ _ _ _ (fun _ _ => .inr (by simp))]
          have := World.cell?_setCells_in g ((intsV xs).drop 0) 1 w.drew (fun i hi => by
            have h2 : i < xs.length := by simpa using hi
            exact hin (1 + i) (by omega)) j (by simpa using hj')
          rw [show j + 1 = 1 + j by omega]
          refine Eq.trans this ?_
          rw [show 1 + j = j + 1 by omega]
          simp [intsV]
          rw [List.getElem?_eq_getElem hj']
          rfl
    · by_cases hz : xs = []
      · subst hz
        have hc0 : cap = 0 := by simp at hroom; exact hroom
        subst hc0
        have hcon := Any2.slices_Insert_int_end_grow insInt (some ⟨g, 0, none⟩) 0 0 vb 0 1 1 [] [.int .i64 id] w (by decide) (by decide) (by decide) (by decide) rfl rfl (fun _ => rfl) (fun a _ j u hu => by simp at hu) hvs h1v
        refine Calls.mono hcon ?_
        rintro e w' ⟨rfl, rfl⟩
        have hge := grownCap_ge w 1 0 3
        have hcm' := grownCap_le_maxLen w 1 0 3 (by decide)
        have hW := heap_alloc_new w.drew (.cells (([] ++ [Value.int .i64 id]).toArray ++ Builtin.zeroCells (Value.int .i64 0).cells (grownCap w 1 0 3 - 1)) 3)
        refine ⟨_, rfl, row_of_cells (cap := grownCap w 1 0 3) hW (by simp [size_zeroCells, Value.cells]; omega) hcm' hge (by simp) (fun j hj => ?_), ⟨rfl, rfl, rfl, by simp, fun b hb _ => Below.heap_alloc w.drew _ b hb⟩, fun r hr' => .inr ?_⟩
        · obtain rfl : j = 0 := by simpa using hj
          refine (cell_of_row _ w.heap.size 0 _ _ _ hW).trans ?_
          exact Array.getElem?_append_left (by simp)
        · obtain rfl : w.heap.size = r := by simpa [Value.ownBlock] using hr'
          exact Nat.le_refl _
      · have hpos : 0 < xs.length := List.length_pos_iff.2 hz
        have hcon := Any2.slices_Insert_int_grow insInt g 0 xs.length cap 0 vb 0 1 1 (intsV xs) [.int .i64 id] w hpos (by decide) hnc (by omega) (by omega) (by simp) rfl hcs' hvs h1c h1v
        refine Calls.mono hcon ?_
        rintro e w' ⟨rfl, rfl⟩
        have hge := grownCap_ge w (xs.length + 1) cap 3
        have hcm' := grownCap_le_maxLen w (xs.length + 1) cap 3 (by unfold maxLen; omega)
        have hW0 := heap_alloc_new w (.cells (((intsV xs).take 0).toArray ++ Builtin.zeroCells (Value.int .i64 0).cells (xs.length + 1 - 0) ++ Builtin.zeroCells (Value.int .i64 0).cells (grownCap w (xs.length + 1) cap 3 - (xs.length + 1))) 3)
        refine ⟨_, rfl, grow_in (cap := grownCap w (xs.length + 1) cap 3) hW0 (by simp [size_zeroCells, Value.cells]; omega) id xs hge hcm', grown_setCells (only_drew (grown_setCells (only_drew (only_alloc (only_refl _ _) _)) _ _ _ (.inr (Nat.le_refl _)))) _ _ _ (.inr (Nat.le_refl _)), fun r hr' => .inr ?_⟩
        · obtain rfl : w.heap.size = r := by simpa [Value.ownBlock] using hr'
          exact Nat.le_refl _
end Go.Proofs.Ytlbbjinkblgfiaa
