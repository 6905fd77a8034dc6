/- What a row's runs are, of the rectangles of two sets that lie in it. No program. -/
import Derived.Test.YtfabknabkcfpjaaRgB
namespace Go.Proofs.Ytfabknabkcfpjaa.Rg

/-- The two sides of [l, h), of set k. -/
def evsOf (k : Nat) (r : Int × Int) : List Ev := [(r.1, 1, k), (r.2, -1, k)]
def inAny (x : Int) (A : List (Int × Int)) : Bool := A.any fun r => decide (r.1 ≤ x) && decide (x < r.2)
theorem inAny_iff (x : Int) (A : List (Int × Int)) : inAny x A = true ↔ InRuns x A := by
  unfold inAny InRuns
  rw [List.any_eq_true]
  constructor
  · rintro ⟨r, hr, h⟩
    rw [Bool.and_eq_true, decide_eq_true_eq, decide_eq_true_eq] at h
    exact ⟨r, hr, h⟩
  · rintro ⟨r, hr, h⟩
    exact ⟨r, hr, by rw [Bool.and_eq_true, decide_eq_true_eq, decide_eq_true_eq]; exact h⟩

theorem deepAt_perm {k : Nat} {x : Int} {a b : List Ev} (h : a.Perm b) : deepAt k x a = deepAt k x b := by
  induction h with
  | nil => rfl
  | cons e _ ih => simp only [deepAt, ih]
  | swap e f t => simp only [deepAt]; omega
  | trans _ _ h1 h2 => rw [h1, h2]
theorem total_perm {k : Nat} {a b : List Ev} (h : a.Perm b) : total k a = total k b := by
  induction h with
  | nil => rfl
  | cons e _ ih => simp only [total, ih]
  | swap e f t => simp only [total]; omega
  | trans _ _ h1 h2 => rw [h1, h2]

theorem deepAt_other {k j : Nat} (hkj : k ≠ j) (x : Int) (A : List (Int × Int)) : deepAt k x (A.flatMap (evsOf j)) = 0 := by
  induction A with
  | nil => rfl
  | cons r t ih =>
    rw [List.flatMap_cons, deepAt_append, ih]
    have : ¬ j = k := fun h => hkj h.symm
    simp [evsOf, deepAt, this]
theorem total_evs (k j : Nat) (A : List (Int × Int)) : total k (A.flatMap (evsOf j)) = 0 := by
  induction A with
  | nil => rfl
  | cons r t ih =>
    rw [List.flatMap_cons, total_append, ih]
    by_cases h : j = k <;> simp [evsOf, total, h]
theorem deepAt_own (k : Nat) (x : Int) (A : List (Int × Int)) (hA : ∀ r ∈ A, r.1 < r.2) : 0 ≤ deepAt k x (A.flatMap (evsOf k)) ∧ (0 < deepAt k x (A.flatMap (evsOf k)) ↔ inAny x A = true) := by
  induction A with
  | nil => simp [deepAt, inAny]
  | cons r t ih =>
    have ih := ih fun q hq => hA q (List.mem_cons_of_mem _ hq)
    have hr := hA r (List.mem_cons_self ..)
    rw [List.flatMap_cons, deepAt_append]
    have e : deepAt k x (evsOf k r) = if r.1 ≤ x ∧ x < r.2 then 1 else 0 := by
      simp only [evsOf, deepAt]
      by_cases h1 : r.1 ≤ x
      · by_cases h2 : x < r.2
        · simp [h1, h2, show ¬ r.2 ≤ x by omega]
        · simp [h1, h2, show r.2 ≤ x by omega]
      · simp [h1, show ¬ r.2 ≤ x by omega]
    rw [e]
    have ha : inAny x (r :: t) = (decide (r.1 ≤ x ∧ x < r.2) || inAny x t) := by simp [inAny]
    rw [ha, Bool.or_eq_true, decide_eq_true_eq]
    by_cases h : r.1 ≤ x ∧ x < r.2
    · rw [if_pos h]; refine ⟨by omega, ⟨fun _ => .inl h, fun _ => by omega⟩⟩
    · rw [if_neg h]
      refine ⟨by omega, ⟨fun k => .inr (ih.2.1 (by omega)), fun k => ?_⟩⟩
      rcases k with k | k
      · exact absurd k h
      · have := ih.2.2 k; omega

/-- A row of the rectangles of two sets, by their sides from the left: its runs are just the places of which the rule holds. -/
theorem row_spec (rule : Bool → Bool → Bool) (hr : rule false false = false) (A B : List (Int × Int)) (hA : ∀ r ∈ A, r.1 < r.2) (hB : ∀ r ∈ B, r.1 < r.2) (es : List Ev)
    (hp : es.Perm (A.flatMap (evsOf 0) ++ B.flatMap (evsOf 1))) (hs : es.Pairwise (fun a b => a.1 ≤ b.1)) :
    Sep (rowOf rule es).runs ∧ ∀ x, InRuns x (rowOf rule es).runs ↔ rule (inAny x A) (inAny x B) = true := by
  have inv := rowOf_inv rule hr es.length es rfl hs
  refine ⟨inv.sep, fun x => ?_⟩
  have e0 : decide (deepAt 0 x es > 0) = inAny x A := by
    rw [deepAt_perm hp, deepAt_append, deepAt_other (by decide) x B, Int.add_zero]
    have := (deepAt_own 0 x A hA).2
    cases h : inAny x A with
    | true => exact decide_eq_true (this.2 h)
    | false => exact decide_eq_false fun k => by have := this.1 k; rw [h] at this; cases this
  have e1 : decide (deepAt 1 x es > 0) = inAny x B := by
    rw [deepAt_perm hp, deepAt_append, deepAt_other (by decide) x A, Int.zero_add]
    have := (deepAt_own 1 x B hB).2
    cases h : inAny x B with
    | true => exact decide_eq_true (this.2 h)
    | false => exact decide_eq_false fun k => by have := this.1 k; rw [h] at this; cases this
  rw [inv.runs, e0, e1]
  refine ⟨fun h => h.2, fun h => ⟨?_, h⟩⟩
  refine Int.not_le.1 fun hx => ?_
  have h0 : deepAt 0 x es = 0 := by
    rw [deepAt_all 0 x es fun e he => by have := inv.here e he; omega, total_perm hp, total_append, total_evs, total_evs]; rfl
  have h1 : deepAt 1 x es = 0 := by
    rw [deepAt_all 1 x es fun e he => by have := inv.here e he; omega, total_perm hp, total_append, total_evs, total_evs]; rfl
  rw [← e0, ← e1, h0, h1] at h
  simp [hr] at h
end Go.Proofs.Ytfabknabkcfpjaa.Rg
