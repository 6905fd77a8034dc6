/- Plain: the nearest screen is the first of those that have most. -/
import Derived.Test.YteaeccmlibmmmaaArL
namespace Go.Proofs.Yteaeccmlibmmmaa.Ar
open Go.RowKit Go.Shelf
theorem bst_none {f : Out → Int} {l : List Out} {k : Nat} (h : l[k]? = none ∨ l[bst f l k]? = none) : bst f l (k + 1) = bst f l k := by
  simp only [bst]
  split
  · rename_i o b h1 h2
    rcases h with h | h
    · rw [h1] at h; cases h
    · rw [h2] at h; cases h
  · rfl
/-- Of those that were looked at, none is greater, and those ahead of it are less. -/
theorem bst_max (f : Out → Int) (l : List Out) (h0 : 0 < l.length) : ∀ (k : Nat), k ≤ l.length → ∃ y, l[bst f l k]? = some y ∧ (∀ (j : Nat) (x : Out), j < k → l[j]? = some x → f x ≤ f y) ∧ (∀ (j : Nat) (x : Out), j < bst f l k → l[j]? = some x → f x < f y) := by
  intro k
  induction k with
  | zero =>
    intro _
    exact ⟨_, List.getElem?_eq_getElem h0, fun j x h => absurd h (Nat.not_lt_zero j), fun j x h => absurd h (Nat.not_lt_zero j)⟩
  | succ k ih =>
    intro hk
    obtain ⟨y, hy, h1, h2⟩ := ih (by omega)
    obtain ⟨o, ho⟩ : ∃ o, l[k]? = some o := ⟨_, List.getElem?_eq_getElem (by omega)⟩
    have hs := bst_step ho hy
    by_cases c : f y < f o
    · rw [if_pos c] at hs
      rw [hs]
      refine ⟨o, ho, fun j x hj hx => ?_, fun j x hj hx => ?_⟩
      · rcases Nat.lt_or_ge j k with h | h
        · have := h1 j x h hx; omega
        · obtain rfl : j = k := by omega
          rw [ho] at hx; have hx := Option.some.inj hx; subst hx
          exact Int.le_refl _
      · have := h1 j x hj hx; omega
    · rw [if_neg c] at hs
      rw [hs]
      refine ⟨y, hy, fun j x hj hx => ?_, h2⟩
      rcases Nat.lt_or_ge j k with h | h
      · exact h1 j x h hx
      · obtain rfl : j = k := by omega
        rw [ho] at hx; have hx := Option.some.inj hx; subst hx
        omega
/-- What the nearest one is, where there is one. -/
theorem near_is {l : List Out} {r : Rc} (h : 0 ≤ nearI l r) : 0 < l.length ∧ rightB r.x r.y r.w r.h = true ∧ (∀ o ∈ l, rightB o.x o.y o.w o.h = true) ∧ ∃ (m : Nat) (y : Out), nearI l r = (m : Int) ∧ l[m]? = some y ∧ (∀ (j : Nat) (x : Out), l[j]? = some x → sharedI x r ≤ sharedI y r) ∧ (∀ (j : Nat) (x : Out), l[j]? = some x → sharedI x r = sharedI y r → 0 < sharedI x r → m ≤ j) := by
  by_cases hc : l.length = 0 ∨ rightB r.x r.y r.w r.h = false ∨ l.any wrongO = true
  · rw [near_none hc] at h; exact absurd h (by decide)
  have h0 : 0 < l.length := by omega
  have hr : rightB r.x r.y r.w r.h = true := by
    cases hq : rightB r.x r.y r.w r.h
    · exact absurd (.inr (.inl hq)) hc
    · rfl
  have hw : l.any wrongO = false := by
    cases hq : l.any wrongO
    · rfl
    · exact absurd (.inr (.inr hq)) hc
  have hall : ∀ o ∈ l, rightB o.x o.y o.w o.h = true := fun o ho => by
    have := List.any_eq_false.1 hw o ho
    unfold wrongO at this
    simpa using this
  obtain ⟨ys, hys, hmax, hfst⟩ := bst_max (fun o => sharedI o r) l h0 l.length (Nat.le_refl _)
  obtain ⟨ya, hya, -, -⟩ := bst_max (fun o => -awayI o r) l h0 l.length (Nat.le_refl _)
  have hjl : ∀ (j : Nat) (x : Out), l[j]? = some x → j < l.length := fun j x hx => (List.getElem?_eq_some_iff.1 hx).1
  refine ⟨h0, hr, hall, ?_⟩
  have hz : nearI l r = if 0 < sharedI ys r then ((bst (fun o => sharedI o r) l l.length : Nat) : Int) else ((bst (fun o => -awayI o r) l l.length : Nat) : Int) := by
    unfold nearI; rw [if_neg hc, hys]
  by_cases c : 0 < sharedI ys r
  · rw [if_pos c] at hz
    refine ⟨_, ys, hz, hys, fun j x hx => hmax j x (hjl j x hx) hx, fun j x hx he hp => ?_⟩
    rcases Nat.lt_or_ge j (bst (fun o => sharedI o r) l l.length) with hl | hl
    · have h9 : sharedI x r < sharedI ys r := hfst j x hl hx
      omega
    · exact hl
  · rw [if_neg c] at hz
    have hnul : ∀ (j : Nat) (x : Out), l[j]? = some x → sharedI x r = 0 := fun j x hx => by
      have h9 : sharedI x r ≤ sharedI ys r := hmax j x (hjl j x hx) hx
      have := shared_pos x r
      omega
    refine ⟨_, ya, hz, hya, fun j x hx => ?_, fun j x hx he hp => ?_⟩
    · rw [hnul j x hx]; exact shared_pos ya r
    · have := hnul j x hx; omega
end Go.Proofs.Yteaeccmlibmmmaa.Ar
