/- The tree that a call changes: a variable, and the rows below it. -/
import Derived.Test.YtjeabkcbaielhaaCoT
namespace Go.Proofs.Ytjeabkcbaielhaa.Co
open Go.RowKit
def D0 : D := ⟨0, 0, 0, 0⟩
/-- The variable's block, seen as a row of one. -/
abbrev topT (r : Nat) (t : ATr) : ATr := .mk ⟨D0, r, 1⟩ [t]
/-- The variable r holds this tree, in blocks of the call's own, from N on. -/
structure Root (N : Nat) (w : World) (r : Nat) (t : ATr) : Prop where
  own : Own w (topT r t)
  nodup : (blks (topT r t)).Nodup
  ge : ∀ b ∈ blks (topT r t), N ≤ b
theorem blks_top (r : Nat) (t : ATr) : blks (topT r t) = r :: blks t := by simp [blks, blksL]
section
variable {w w' : World} {N r : Nat} {t : ATr}
theorem Root.next (h : Root N w r t) (hb : Below w.heap.size w w') : Root N w' r t := ⟨h.own.next hb, h.nodup, h.ge⟩
theorem Root.drewN (h : Root N w r t) (n : Nat) : Root N (w.drewN n) r t := ⟨h.own.same fun _ _ => rfl, h.nodup, h.ge⟩
theorem Root.drew (h : Root N w r t) : Root N w.drew r t := ⟨h.own.same fun _ _ => rfl, h.nodup, h.ge⟩
theorem Root.held (h : Root N w r t) : Held w r 0 t := by
  obtain ⟨h1, h2, h3⟩ := h.own.kid (j := 0) (x := t) rfl
  exact ⟨h1, h2, fun i => row_frozen (a := ⟨D0, r, 1⟩) h.own.1 (by simp) i, fun i u hu => by have := h3 i u hu; simpa using this⟩
theorem Root.lt (h : Root N w r t) : ∀ b ∈ blks (topT r t), b < w.heap.size := h.own.lt
/-- A variable that is made holds a tree. -/
theorem Root.made {x : ATr} (h : Own w x) (hn : (blks x).Nodup) (hN : ∀ b ∈ blks x, N ≤ b) (hw : N ≤ w.heap.size) : Root N (w.alloc (.cells (encC x.a.d (slA x)).toArray 24)) w.heap.size x := by
  refine ⟨⟨⟨rfl, .inr ⟨w.heap.size, 1, _, by simp [slV], Nat.zero_le _, heap_alloc_new w _, by simp, by unfold maxLen; omega, by simp [encC], ?_⟩⟩, h.next ((Below.refl _ _).alloc (Nat.le_refl _) _), trivial⟩, ?_, ?_⟩
  · simp [rowOf, encC]
  · rw [blks_top, List.nodup_cons]; exact ⟨fun hm => Nat.lt_irrefl _ (h.lt _ hm), hn⟩
  · intro b hb
    rw [blks_top, List.mem_cons] at hb
    rcases hb with rfl | hb
    · exact hw
    · exact hN b hb
theorem get_top {r : Nat} {t s : ATr} {u : List Nat} (h : get t u = some s) : get (topT r t) (0 :: u) = some s := by simp only [Co.get]; exact h
theorem loc_top {r b o : Nat} {t : ATr} {u : List Nat} : loc b o (topT r t) (0 :: u) = loc r 0 t u := by simp [loc]
theorem put_top {r : Nat} {t s : ATr} {u : List Nat} : put (topT r t) (0 :: u) s = topT r (put t u s) := by simp [Co.put]
/-- A container in the tree becomes another. -/
theorem Root.put {s s' : ATr} {u : List Nat} (h : Root N w r t) (hs : Co.get t u = some s) (hR : Repl w w' (loc r 0 t u).1 (loc r 0 t u).2 (encC s'.a.d (slA s')))
    (hF : ∀ x ∈ r :: blks t, x ∉ blks s → x ≠ (loc r 0 t u).1 → w'.heap[x]? = w.heap[x]?) (hS : Own w' s') (hn : (blks s').Nodup) (hb : ∀ x ∈ blks s', x ∈ blks s ∨ w.heap.size ≤ x) (hN : N ≤ w.heap.size) : Root N w' r (Co.put t u s') := by
  have hg := get_top (r := r) hs
  obtain ⟨l1, l2, h1, h2⟩ := blks_put hg
  have hx : ∀ x ∈ blks s', N ≤ x := fun x hx => by
    rcases hb x hx with hx | hx
    · exact h.ge x (by rw [h1]; simp [hx])
    · omega
  refine ⟨?_, ?_, ?_⟩
  · rw [← put_top]
    exact h.own.put (b := 0) (o := 0) h.nodup hg (by simp) (by rw [loc_top]; exact hR) (by rw [loc_top, blks_top]; exact hF) hS
  · rw [← put_top, h2 s']
    have hnd := h.nodup
    have hlt := h.lt
    rw [h1] at hnd hlt
    simp only [List.nodup_append, List.mem_append] at hnd hlt ⊢
    refine ⟨⟨hnd.1.1, hn, fun a ha c hc e => ?_⟩, hnd.2.1, fun a ha c hc e => ?_⟩
    · rcases hb c hc with h3 | h3
      · exact hnd.1.2.2 a ha c h3 e
      · have := hlt a (.inl (.inl ha)); omega
    · rcases ha with ha | ha
      · exact hnd.2.2 a (.inl ha) c hc e
      · rcases hb a ha with h3 | h3
        · exact hnd.2.2 a (.inr h3) c hc e
        · have := hlt c (.inr hc); omega
  · intro x hx'
    rw [← put_top, h2 s'] at hx'
    simp only [List.mem_append] at hx'
    rcases hx' with (h3 | h3) | h3
    · exact h.ge x (by rw [h1]; simp [h3])
    · exact hx x h3
    · exact h.ge x (by rw [h1]; simp [h3])
/-- A container's block, and its five cells there. -/
theorem Root.block {s : ATr} {u : List Nat} (h : Root N w r t) (hs : Co.get t u = some s) : ∃ cur : Array Value, w.heap[(loc r 0 t u).1]? = some (.cells cur 24 (0, 0)) ∧ (loc r 0 t u).2 + 5 ≤ cur.size ∧ ∀ i, i < 5 → cur[(loc r 0 t u).2 + i]? = (encC s.a.d (slA s))[i]? := by
  have hh := h.held.get hs
  have key : ∃ cur : Array Value, w.heap[(loc r 0 t u).1]? = some (.cells cur 24 (0, 0)) := by
    have hg := get_top (r := r) hs
    have : ∀ (u : List Nat) (b o : Nat) (t : ATr), Own w t → Co.get t u = some s → u ≠ [] → ∃ cur : Array Value, w.heap[(loc b o t u).1]? = some (.cells cur 24 (0, 0)) := by
      intro u
      induction u with
      | nil => intro b o t _ _ h; exact absurd rfl h
      | cons i q ih =>
        intro b o t ho hg _
        obtain ⟨a, ks⟩ := t
        obtain ⟨x, hx, hr⟩ := get_cons hg
        rw [loc_cons hx]
        cases q with
        | nil =>
          rcases ho.1.2 with ⟨_, h0⟩ | ⟨g, cap, cur, h1, _, h2, _⟩
          · have := (List.getElem?_eq_some_iff.1 hx).1; omega
          · have hl := (List.getElem?_eq_some_iff.1 hx).1
            unfold slV at h1
            rw [if_neg (by omega)] at h1
            obtain ⟨e, -, -⟩ := Value.slice.inj h1
            have e := Option.some.inj e
            injection e with e
            subst e
            exact ⟨cur, h2⟩
        | cons j q' => exact ih _ _ x (OwnL_mem.1 ho.2 x (List.mem_of_getElem? hx)) hr (by simp)
    have := this (0 :: u) 0 0 (topT r t) h.own hg (by simp)
    rwa [loc_top] at this
  obtain ⟨cur, hc⟩ := key
  have hcell : ∀ i, i < 5 → cur[(loc r 0 t u).2 + i]? = (encC s.a.d (slA s))[i]? := fun i hi => by
    obtain ⟨u', hu'⟩ : ∃ u', (encC s.a.d (slA s))[i]? = some u' := ⟨_, List.getElem?_eq_getElem (by rw [enc_len]; exact hi)⟩
    rw [hu', ← hh.cells i u' hu', cell_of_row w _ _ cur _ (0, 0) hc]
  refine ⟨cur, hc, ?_, hcell⟩
  have h4 := hcell 4 (by omega)
  obtain ⟨h5, _⟩ := Array.getElem?_eq_some_iff.1 (h4.trans (show (encC s.a.d (slA s))[4]? = some (slA s) from rfl))
  omega
end
/-- Nothing has changed yet. -/
theorem Repl.refl {w : World} {b o : Nat} {l : List Value} {cur : Array Value} (h : w.heap[b]? = some (.cells cur 24 (0, 0))) (hc : ∀ i, i < 5 → cur[o + i]? = l[i]?) : Repl w w b o l := ⟨cur, cur, h, h, rfl, fun _ _ => rfl, hc⟩
theorem Repl.set {w w1 : World} {b o : Nat} {l : List Value} (h : Repl w w1 b o l) {f : Nat} (hf : f < 5) (hl : l.length = 5) (v : Value) : Repl w (w1.setCell ⟨b, o + f, none⟩ v) b o (l.set f v) := by
  obtain ⟨c1, c2, h1, h2, h3, h4, h5⟩ := h
  refine ⟨c1, c2.setIfInBounds (o + f) v, h1, by simp [World.setCell, Array.getElem?_modify, h2], by simp [h3], fun i hi => ?_, fun i hi => ?_⟩
  · rw [Array.getElem?_setIfInBounds, if_neg (by omega)]; exact h4 i hi
  · rw [Array.getElem?_setIfInBounds, List.getElem?_set]
    have hsz : o + f < c2.size := by
      obtain ⟨u, hu⟩ : ∃ u, l[f]? = some u := ⟨_, List.getElem?_eq_getElem (by omega)⟩
      exact (Array.getElem?_eq_some_iff.1 ((h5 f hf).trans hu)).1
    by_cases e : f = i
    · subst e; rw [if_pos rfl, if_pos hsz, if_pos rfl, if_pos (by omega)]
    · rw [if_neg (by omega), if_neg e]; exact h5 i hi
/-- New memory elsewhere first. -/
theorem Repl.before {w0 w w' : World} {b o : Nat} {l : List Value} (h : Repl w w' b o l) (hb : w.heap[b]? = w0.heap[b]?) : Repl w0 w' b o l := by
  obtain ⟨c1, c2, h1, h2⟩ := h
  exact ⟨c1, c2, hb ▸ h1, h2⟩
/-- Five cells stored. -/
theorem Repl.five {w w1 : World} {b o : Nat} {l : List Value} (h : Repl w w1 b o l) (hl : l.length = 5) (v0 v1 v2 v3 v4 : Value) :
    Repl w (((((w1.setCell ⟨b, o, none⟩ v0).setCell ⟨b, o + 1, none⟩ v1).setCell ⟨b, o + 2, none⟩ v2).setCell ⟨b, o + 3, none⟩ v3).setCell ⟨b, o + 4, none⟩ v4) b o [v0, v1, v2, v3, v4] := by
  have h0 := h.set (f := 0) (by omega) hl v0
  rw [Nat.add_zero] at h0
  have h1 := h0.set (f := 1) (by omega) (by simp [hl]) v1
  have h2 := h1.set (f := 2) (by omega) (by simp [hl]) v2
  have h3 := h2.set (f := 3) (by omega) (by simp [hl]) v3
  have h4 := h3.set (f := 4) (by omega) (by simp [hl]) v4
  match l, hl with
  | [_, _, _, _, _], _ => exact h4
end Go.Proofs.Ytjeabkcbaielhaa.Co
