/- Plain: on screens that may be a place is on one at most; that one is nearest to it. -/
import Derived.Test.YteaeccmlibmmmaaArP
namespace Go.Proofs.Yteaeccmlibmmmaa.Ar
open Go.RowKit Go.Shelf
theorem has_iff {x y w h p q : Int} : hasB x y w h p q = true ↔ emptyB x y w h = false ∧ x ≤ p ∧ p < x + w ∧ y ≤ q ∧ q < y + h := by
  unfold hasB
  rw [Bool.and_eq_true, decide_eq_true_iff]
  cases emptyB x y w h <;> simp
/-- What two rectangles have in common, where neither is empty. -/
theorem inter_val {o : Out} {r : Rc} (h1 : emptyB o.x o.y o.w o.h = false) (h2 : emptyB r.x r.y r.w r.h = false) :
    interR o.x o.y o.w o.h r.x r.y r.w r.h = betweenR (max o.x r.x) (max o.y r.y) (min (o.x + o.w) (r.x + r.w)) (min (o.y + o.h) (r.y + r.h)) := interR_of h1 h2
theorem between_empty {a b c d : Int} : emptyB (betweenR a b c d).x (betweenR a b c d).y (betweenR a b c d).w (betweenR a b c d).h = false ↔ (-32768 ≤ a ∧ a < c ∧ c ≤ 32768 ∧ -32768 ≤ b ∧ b < d ∧ d ≤ 32768) := by
  unfold betweenR
  split
  · rename_i h
    constructor
    · intro _; exact h
    · intro _
      rw [emptyB_iff]
      simp only
      refine ⟨⟨?_, ?_, ?_, ?_⟩, ?_, ?_, ?_, ?_⟩ <;> omega
  · rename_i h
    constructor
    · intro h2
      rw [emptyB_iff] at h2
      simp only [zeroR] at h2
      omega
    · intro h2; exact absurd h2 h
/-- Two that have a place in common share one. -/
theorem shared_place {y x : Out} {p q : Int} (h1 : hasB y.x y.y y.w y.h p q = true) (h2 : hasB x.x x.y x.w x.h p q = true) : sharedI y ⟨x.x, x.y, x.w, x.h⟩ ≠ 0 := by
  obtain ⟨a1, a2, a3, a4, a5⟩ := has_iff.1 h1
  obtain ⟨b1, b2, b3, b4, b5⟩ := has_iff.1 h2
  have a6 := (emptyB_iff _ _ _ _).1 a1
  have b6 := (emptyB_iff _ _ _ _).1 b1
  intro h
  have h := area_nul.1 h
  rw [inter_val (r := ⟨x.x, x.y, x.w, x.h⟩) a1 b1] at h
  have c1 : -32768 ≤ max y.x x.x ∧ max y.x x.x < min (y.x + y.w) (x.x + x.w) ∧ min (y.x + y.w) (x.x + x.w) ≤ 32768 ∧ -32768 ≤ max y.y x.y ∧ max y.y x.y < min (y.y + y.h) (x.y + x.h) ∧ min (y.y + y.h) (x.y + x.h) ≤ 32768 := by omega
  rw [between_empty.2 c1] at h; cases h
theorem shared_one {o : Out} {p q : Int} (h : hasB o.x o.y o.w o.h p q = true) : 0 < sharedI o ⟨p, q, 1, 1⟩ := by
  have h1 : hasB p q 1 1 p q = true := by
    obtain ⟨a1, a2, a3, a4, a5⟩ := has_iff.1 h
    have a6 := (emptyB_iff _ _ _ _).1 a1
    exact has_iff.2 ⟨(emptyB_iff _ _ _ _).2 (by omega), by omega, by omega, by omega, by omega⟩
  have h9 : sharedI o ⟨p, q, 1, 1⟩ ≠ 0 := shared_place (y := o) (x := ⟨⟨#[]⟩, p, q, 1, 1⟩) h h1
  have := shared_pos o ⟨p, q, 1, 1⟩
  omega
theorem shared_has {o : Out} {p q : Int} (h : 0 < sharedI o ⟨p, q, 1, 1⟩) : hasB o.x o.y o.w o.h p q = true := by
  have hne : emptyB (interR o.x o.y o.w o.h p q 1 1).x (interR o.x o.y o.w o.h p q 1 1).y (interR o.x o.y o.w o.h p q 1 1).w (interR o.x o.y o.w o.h p q 1 1).h = false := by
    cases hq : emptyB (interR o.x o.y o.w o.h p q 1 1).x (interR o.x o.y o.w o.h p q 1 1).y (interR o.x o.y o.w o.h p q 1 1).w (interR o.x o.y o.w o.h p q 1 1).h
    · rfl
    · have : sharedI o ⟨p, q, 1, 1⟩ = 0 := area_nul.2 hq
      omega
  cases h1 : emptyB o.x o.y o.w o.h
  · cases h2 : emptyB p q 1 1
    · rw [inter_val (r := ⟨p, q, 1, 1⟩) h1 h2] at hne
      have h3 : -32768 ≤ max o.x p ∧ max o.x p < min (o.x + o.w) (p + 1) ∧ min (o.x + o.w) (p + 1) ≤ 32768 ∧ -32768 ≤ max o.y q ∧ max o.y q < min (o.y + o.h) (q + 1) ∧ min (o.y + o.h) (q + 1) ≤ 32768 := between_empty.1 hne
      exact has_iff.2 ⟨h1, by omega, by omega, by omega, by omega⟩
    · have e : interR o.x o.y o.w o.h p q 1 1 = zeroR := by unfold interR; rw [if_pos (.inr h2)]
      rw [e] at hne; cases hne
  · have e : interR o.x o.y o.w o.h p q 1 1 = zeroR := by unfold interR; rw [if_pos (.inl h1)]
    rw [e] at hne; cases hne
/-- On screens that may be, a place is on one at most. -/
theorem good_one {l : List Out} (hg : goodL l) {i j : Nat} {x y : Out} {p q : Int} (hx : l[i]? = some x) (hy : l[j]? = some y) (h1 : hasO p q x = true) (h2 : hasO p q y = true) : i = j := by
  rcases Nat.lt_trichotomy i j with h | h | h
  · exact absurd (((hg j y hy).2.2 i x h hx).2) (shared_place h1 h2)
  · exact h
  · exact absurd (((hg i x hx).2.2 j y h hy).2) (shared_place h2 h1)
theorem good_at {l : List Out} (hg : goodL l) {i : Nat} {x : Out} {p q : Int} (hx : l[i]? = some x) (h1 : hasO p q x = true) : firI (hasO p q) l = (i : Int) :=
  firI_some hx h1 fun j y hj hy => by
    rw [← Bool.not_eq_true]
    intro h2
    have := good_one hg hx hy h1 h2
    omega
theorem good_named {l : List Out} (hg : goodL l) {i : Nat} {x : Out} (hx : l[i]? = some x) : firI (namedO x.n) l = (i : Int) :=
  firI_some hx (beq_self_eq_true _) fun j y hj hy => by
    rw [← Bool.not_eq_true]
    intro h2
    exact ((hg i x hx).2.2 j y hj hy).1 (toList_ne.1 h2)
theorem good_near {l : List Out} (hg : goodL l) {i : Nat} {x : Out} {p q : Int} (hx : l[i]? = some x) (h1 : hasO p q x = true) : nearI l ⟨p, q, 1, 1⟩ = (i : Int) := by
  have hl : 0 < l.length := by have := (List.getElem?_eq_some_iff.1 hx).1; omega
  obtain ⟨a1, a2, a3, a4, a5⟩ := has_iff.1 h1
  have a6 := (emptyB_iff _ _ _ _).1 a1
  have hr : rightB p q 1 1 = true := by
    have : emptyB p q 1 1 = false := (emptyB_iff _ _ _ _).2 (by omega)
    unfold emptyB at this
    cases hq : rightB p q 1 1
    · rw [hq] at this; cases this
    · rfl
  have hw : ∀ o ∈ l, rightB o.x o.y o.w o.h = true := fun o ho => by
    obtain ⟨j, hj⟩ := List.getElem?_of_mem ho
    have := (hg j o hj).2.1
    unfold emptyB at this
    cases hq : rightB o.x o.y o.w o.h
    · rw [hq] at this; cases this
    · rfl
  have hnw : l.any wrongO = false := by
    rw [List.any_eq_false]
    intro o ho
    unfold wrongO
    rw [hw o ho]; simp
  have h0 : 0 ≤ nearI l ⟨p, q, 1, 1⟩ := by
    unfold nearI
    rw [if_neg (by rintro (h | h | h); omega; (rw [hr] at h; cases h); (rw [hnw] at h; cases h))]
    obtain ⟨ys, hys⟩ : ∃ y, l[bst (fun o => sharedI o ⟨p, q, 1, 1⟩) l l.length]? = some y := ⟨_, List.getElem?_eq_getElem (bst_lt _ l hl _)⟩
    rw [hys]
    simp only
    split <;> omega
  obtain ⟨_, _, _, m, y, hm, hy, hmax, _⟩ := near_is h0
  have h2 := hmax i x hx
  have h3 := shared_one h1
  have h4 := shared_has (o := y) (p := p) (q := q) (by omega)
  rw [hm, good_one hg hx hy h1 h4]
end Go.Proofs.Yteaeccmlibmmmaa.Ar
