/- Plain: the document's nearest screen is the code's. -/
import Derived.Test.YteaeccmlibmmmaaArE
import Derived.Test.YteaeccmlibmmmaaPlainB
namespace Go.Proofs.Yteaeccmlibmmmaa.Ar
open Go.RowKit Go.Shelf
/-- The document's round: the best so far, what it has of the rectangle, how far it is. -/
def dnS (l : List Out) (r : Rc) : Nat → Nat × Int × Int
  | 0 => (0, 0, 0)
  | k + 1 => match l[k]? with
    | some o => if k = 0 ∨ (dnS l r k).2.1 < sharedI o r ∨ (sharedI o r = 0 ∧ (dnS l r k).2.1 = 0 ∧ awayI o r < (dnS l r k).2.2) then (k, sharedI o r, awayI o r) else dnS l r k
    | none => dnS l r k
theorem dn_step {l : List Out} {r : Rc} {k : Nat} {o : Out} (h : l[k]? = some o) : dnS l r (k + 1) = if k = 0 ∨ (dnS l r k).2.1 < sharedI o r ∨ (sharedI o r = 0 ∧ (dnS l r k).2.1 = 0 ∧ awayI o r < (dnS l r k).2.2) then (k, sharedI o r, awayI o r) else dnS l r k := by
  simp only [dnS, h]
theorem area_pos (x y a b : Int) : 0 ≤ areaI x y a b := by
  unfold areaI
  split
  · exact Int.le_refl 0
  · rename_i h
    have h : emptyB x y a b = false := by simpa using h
    obtain ⟨⟨h1, h2, h3, h4⟩, h5, h6, h7, h8⟩ := (emptyB_iff x y a b).1 h
    exact Int.mul_nonneg (by omega) (by omega)
theorem shared_pos (o : Out) (r : Rc) : 0 ≤ sharedI o r := area_pos _ _ _ _
theorem bst_in (f : Out → Int) (l : List Out) : ∀ k, 0 < k → k ≤ l.length → bst f l k < k := by
  intro k
  induction k with
  | zero => intro h; exact absurd h (by omega)
  | succ k ih =>
    intro _ hk
    simp only [bst]
    split
    · split
      · omega
      · by_cases h0 : k = 0
        · subst h0; exact Nat.zero_lt_one
        · have := ih (by omega) (by omega); omega
    · by_cases h0 : k = 0
      · subst h0; exact Nat.zero_lt_one
      · have := ih (by omega) (by omega); omega
theorem bst_one (f : Out → Int) (l : List Out) : bst f l 1 = 0 := by
  simp only [bst]
  split
  · split <;> rfl
  · rfl
/-- What holds behind so many rounds. -/
structure DnI (l : List Out) (r : Rc) (k : Nat) : Prop where
  at_ : ∃ y, l[(dnS l r k).1]? = some y ∧ (dnS l r k).2.1 = sharedI y r ∧ (dnS l r k).2.2 = awayI y r
  all : ∀ (j : Nat) (x : Out), j < k → l[j]? = some x → sharedI x r ≤ (dnS l r k).2.1
  pos : 0 < (dnS l r k).2.1 → (dnS l r k).1 = bst (fun o => sharedI o r) l k
  nul : (dnS l r k).2.1 = 0 → (dnS l r k).1 = bst (fun o => -awayI o r) l k
  sh : ∃ y, l[bst (fun o => sharedI o r) l k]? = some y ∧ sharedI y r = (dnS l r k).2.1
theorem dn_inv (l : List Out) (r : Rc) : ∀ k, 0 < k → k ≤ l.length → DnI l r k := by
  intro k
  induction k with
  | zero => intro h; exact absurd h (by omega)
  | succ k ih =>
    intro _ hk
    obtain ⟨o, ho⟩ : ∃ o, l[k]? = some o := ⟨_, List.getElem?_eq_getElem (by omega)⟩
    have hst := dn_step (r := r) ho
    by_cases h0 : k = 0
    · subst h0
      rw [if_pos (.inl rfl)] at hst
      have e1 : dnS l r 1 = (0, sharedI o r, awayI o r) := hst
      refine ⟨?_, ?_, ?_, ?_, ?_⟩
      · rw [e1]; exact ⟨o, ho, rfl, rfl⟩
      · intro j x hj hx
        obtain rfl : j = 0 := by omega
        rw [ho] at hx; have hx := Option.some.inj hx; subst hx
        rw [e1]; exact Int.le_refl _
      · intro _; rw [e1, bst_one]
      · intro _; rw [e1, bst_one]
      · rw [bst_one, e1]; exact ⟨o, ho, rfl⟩
    · obtain ⟨⟨y, hy, hm, hl⟩, hall, hpos, hnul, ⟨ys, hys, hshs⟩⟩ := ih (by omega) (by omega)
      have hs := bst_step (f := fun o => sharedI o r) ho hys
      have hp0 := shared_pos o r
      have hm0 : 0 ≤ (dnS l r k).2.1 := by rw [hm]; exact shared_pos y r
      simp only [hshs] at hs
      by_cases c1 : (dnS l r k).2.1 < sharedI o r
      · rw [if_pos (.inr (.inl c1))] at hst
        rw [if_pos c1] at hs
        refine ⟨?_, ?_, ?_, ?_, ?_⟩
        · rw [hst]; exact ⟨o, ho, rfl, rfl⟩
        · intro j x hj hx
          rw [hst]
          rcases Nat.lt_or_ge j k with h | h
          · have := hall j x h hx; simp only; omega
          · obtain rfl : j = k := by omega
            rw [ho] at hx; have hx := Option.some.inj hx; subst hx
            exact Int.le_refl _
        · intro _; rw [hst, hs]
        · intro h; rw [hst] at h; simp only at h; omega
        · rw [hs, hst]; exact ⟨o, ho, rfl⟩
      · rw [if_neg c1] at hs
        by_cases c2 : sharedI o r = 0 ∧ (dnS l r k).2.1 = 0 ∧ awayI o r < (dnS l r k).2.2
        · rw [if_pos (.inr (.inr c2))] at hst
          obtain ⟨c3, c4, c5⟩ := c2
          have hix := hnul c4
          have hb := bst_step (f := fun o => -awayI o r) (b := y) ho (by rw [← hix]; exact hy)
          rw [if_pos (show -awayI y r < -awayI o r by omega)] at hb
          refine ⟨?_, ?_, ?_, ?_, ?_⟩
          · rw [hst]; exact ⟨o, ho, rfl, rfl⟩
          · intro j x hj hx
            rw [hst]
            rcases Nat.lt_or_ge j k with h | h
            · have := hall j x h hx; simp only; omega
            · obtain rfl : j = k := by omega
              rw [ho] at hx; have hx := Option.some.inj hx; subst hx
              exact Int.le_refl _
          · intro h; rw [hst] at h; simp only at h; omega
          · intro _; rw [hst, hb]
          · rw [hs, hst]; exact ⟨ys, hys, by rw [hshs, c4, c3]⟩
        · rw [if_neg (by rintro (h | h | h); exact h0 h; exact c1 h; exact c2 h)] at hst
          refine ⟨?_, ?_, ?_, ?_, ?_⟩
          · rw [hst]; exact ⟨y, hy, hm, hl⟩
          · intro j x hj hx
            rw [hst]
            rcases Nat.lt_or_ge j k with h | h
            · exact hall j x h hx
            · obtain rfl : j = k := by omega
              rw [ho] at hx; have hx := Option.some.inj hx; subst hx
              omega
          · intro h; rw [hst] at h ⊢; rw [hs]; exact hpos h
          · intro h
            rw [hst] at h ⊢
            have hix := hnul h
            have hb := bst_step (f := fun o => -awayI o r) (b := y) ho (by rw [← hix]; exact hy)
            rw [if_neg (show ¬ -awayI y r < -awayI o r from fun h9 => c2 ⟨by omega, h, by omega⟩)] at hb
            rw [hb]; exact hix
          · rw [hs, hst]; exact ⟨ys, hys, hshs⟩
/-- The document's answer. -/
theorem near_dn {l : List Out} {r : Rc} (h0 : 0 < l.length) (hr : rightB r.x r.y r.w r.h = true) (hw : ∀ o ∈ l, rightB o.x o.y o.w o.h = true) : nearI l r = ((dnS l r l.length).1 : Int) := by
  obtain ⟨⟨y, hy, hm, hl⟩, hall, hpos, hnul, ⟨ys, hys, hshs⟩⟩ := dn_inv l r l.length h0 (Nat.le_refl _)
  have hnw : l.any wrongO = false := by
    rw [List.any_eq_false]
    intro o ho
    unfold wrongO
    rw [hw o ho]; simp
  unfold nearI
  rw [if_neg (by rintro (h | h | h); omega; (rw [hr] at h; cases h); (rw [hnw] at h; cases h)), hys]
  simp only
  have hm0 : 0 ≤ (dnS l r l.length).2.1 := by rw [hm]; exact shared_pos y r
  by_cases c : 0 < sharedI ys r
  · rw [if_pos c, hpos (by omega)]
  · rw [if_neg c, hnul (by omega)]
theorem gap_sym (a b c d : Int) : gapI a b c d = gapI c d a b := by unfold gapI; omega
theorem shared_sym (o : Out) (r : Rc) : (let i := interR r.x r.y r.w r.h o.x o.y o.w o.h; areaI i.x i.y i.w i.h) = sharedI o r := by
  have h := int_comm r ⟨o.x, o.y, o.w, o.h⟩
  unfold sharedI
  have e : interR r.x r.y r.w r.h o.x o.y o.w o.h = interR o.x o.y o.w o.h r.x r.y r.w r.h := h
  rw [e]
end Go.Proofs.Yteaeccmlibmmmaa.Ar
