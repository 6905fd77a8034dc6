/- Pure: the document's list against a table's answers. -/
import Derived.Test.YtfflgkbemfichaaDoorPsC
namespace Go.Proofs.YtfflgkbemfichaaDoor
/-- No window has two properties of one name. -/
def Ok (R : List Hd) : Prop := ∀ (j k : Nat) (a b : Hd), R[j]? = some a → R[k]? = some b → a.win = b.win → a.p.name = b.p.name → j = k
/-- The list holds what the table holds. -/
structure Inv (R : List Hd) (ms : Int → ByteArray → Option Pr) (ns : Int → Nat) : Prop where
  ok : Ok R
  mem : ∀ i s p, ms i s = some p ↔ (⟨i, p⟩ ∈ R ∧ p.name = s)
  cnt : ∀ i, (R.filter (fun h => decide (h.win = i))).length = ns i
theorem isP_iff {i : Int} {s : ByteArray} {h : Hd} : isP i s h = true ↔ (h.win = i ∧ h.p.name = s) := by unfold isP; simp
theorem getL_some {R : List Hd} (hR : Ok R) {i : Int} {s : ByteArray} {p : Pr} : getL R i s = some p ↔ (⟨i, p⟩ ∈ R ∧ p.name = s) := by
  unfold getL
  constructor
  · intro h
    obtain ⟨x, hx, rfl⟩ := Option.map_eq_some_iff.1 h
    have hl := (List.getElem?_eq_some_iff.1 hx).1
    have hp : isP i s x = true := by
      have h1 : isP i s (R[placeN R i s]'hl) = true := List.findIdx_getElem (xs := R) (p := isP i s) (w := hl)
      rw [(List.getElem?_eq_some_iff.1 hx).2] at h1
      exact h1
    obtain ⟨e1, e2⟩ := isP_iff.1 hp
    obtain ⟨xw, xp⟩ := x
    subst e1
    exact ⟨List.mem_of_getElem? hx, e2⟩
  · rintro ⟨h1, h2⟩
    obtain ⟨k, hk, he⟩ := List.getElem_of_mem h1
    have hk' : R[k]? = some ⟨i, p⟩ := by rw [List.getElem?_eq_getElem hk, he]
    have hpl : placeN R i s = k := placeN_at hk' (isP_iff.2 ⟨rfl, h2⟩) (fun j x hj hx => by
      cases hb : isP i s x with
      | false => rfl
      | true =>
        obtain ⟨e1, e2⟩ := isP_iff.1 hb
        have := hR j k x ⟨i, p⟩ hx hk' e1 (by rw [e2, h2])
        omega)
    rw [hpl, hk']; rfl
theorem Inv.get {R : List Hd} {ms : Int → ByteArray → Option Pr} {ns : Int → Nat} (h : Inv R ms ns) (i : Int) (s : ByteArray) : getL R i s = ms i s := by
  cases hm : ms i s with
  | some p => exact (getL_some h.ok).2 ((h.mem i s p).1 hm)
  | none =>
    cases hg : getL R i s with
    | none => rfl
    | some p =>
      have := (h.mem i s p).2 ((getL_some h.ok).1 hg)
      rw [hm] at this; cases this
theorem Inv.begin : Inv [] (fun _ _ => none) (fun _ => 0) :=
  ⟨fun j k a b h => (by simp at h), fun i s p => ⟨fun h => (by cases h), fun h => (by have := h.1; simp at this)⟩, fun _ => rfl⟩
theorem Ok.filter {R : List Hd} (h : Ok R) (f : Hd → Bool) : Ok (R.filter f) := by
  have hp : R.Pairwise (fun a b => ¬ (a.win = b.win ∧ a.p.name = b.p.name)) := by
    rw [List.pairwise_iff_getElem]
    intro j k hj hk hjk e
    have := h j k _ _ (List.getElem?_eq_getElem hj) (List.getElem?_eq_getElem hk) e.1 e.2
    omega
  have hq := hp.filter f
  rw [List.pairwise_iff_getElem] at hq
  intro j k a b ha hb e1 e2
  obtain ⟨hj, ea⟩ := List.getElem?_eq_some_iff.1 ha
  obtain ⟨hk, eb⟩ := List.getElem?_eq_some_iff.1 hb
  rcases Nat.lt_trichotomy j k with hlt | heq | hlt
  · exact absurd ⟨by rw [ea, eb, e1], by rw [ea, eb, e2]⟩ (hq j k hj hk hlt)
  · exact heq
  · exact absurd ⟨by rw [ea, eb, e1], by rw [ea, eb, e2]⟩ (hq k j hk hj hlt)
section
variable {R : List Hd} {ms : Int → ByteArray → Option Pr} {ns : Int → Nat}
theorem Inv.drop (h : Inv R ms ns) (i : Int) : Inv (dropH i R) (upI ms i (fun _ => none)) (upI ns i 0) := by
  refine ⟨h.ok.filter _, fun j s p => ?_, fun j => ?_⟩
  · by_cases hji : j = i
    · rw [hji, upI_same]
      constructor
      · intro hx; cases hx
      · rintro ⟨hx, -⟩
        have := (List.mem_filter.1 hx).2
        simp at this
    · rw [upI_other _ _ hji, h.mem j s p]
      unfold dropH
      rw [List.mem_filter]
      simp [hji]
  · unfold dropH
    rw [List.filter_filter]
    by_cases hji : j = i
    · rw [hji, upI_same, List.length_eq_zero_iff, List.filter_eq_nil_iff]
      intro x _ hx
      simp at hx
    · rw [upI_other _ _ hji, ← h.cnt j]
      congr 1
      apply List.filter_congr
      intro x _
      by_cases hx : x.win = j
      · simp [hx, hji]
      · simp [hx]
theorem Inv.remove (h : Inv R ms ns) (i : Int) (s : ByteArray) : Inv (remH i s R) (upI ms i (upS (ms i) s none)) (remN ms ns i s) ∧ (decide ((remH i s R).length < R.length) = (ms i s).isSome) := by
  have hone : (remH i s R).length + (if (ms i s).isSome then 1 else 0) = R.length ∧ ∀ j, ((remH i s R).filter (fun h => decide (h.win = j))).length + (if j = i ∧ (ms i s).isSome then 1 else 0) = (R.filter (fun h => decide (h.win = j))).length := by
    cases hm : ms i s with
    | none =>
      have e : remH i s R = R := by
        unfold remH
        rw [List.filter_eq_self]
        intro x hx
        cases hb : isP i s x with
        | false => rfl
        | true =>
          obtain ⟨e1, e2⟩ := isP_iff.1 hb
          have := (h.mem i s x.p).2 ⟨by rw [← e1]; exact hx, e2⟩
          rw [hm] at this; cases this
      rw [e]
      exact ⟨by simp, fun j => by simp⟩
    | some p =>
      obtain ⟨h1, h2⟩ := (h.mem i s p).1 hm
      obtain ⟨k, hk, he⟩ := List.getElem_of_mem h1
      have hk' : R[k]? = some ⟨i, p⟩ := by rw [List.getElem?_eq_getElem hk, he]
      have hsplit : R = R.take k ++ ⟨i, p⟩ :: R.drop (k + 1) := by
        rw [← he, List.getElem_cons_drop, List.take_append_drop]
      have hne : ∀ x, x ∈ R.take k ∨ x ∈ R.drop (k + 1) → isP i s x = false := fun x hx => by
        cases hb : isP i s x with
        | false => rfl
        | true =>
          obtain ⟨e1, e2⟩ := isP_iff.1 hb
          rcases hx with hx | hx
          · obtain ⟨j, hj, hje⟩ := List.getElem_of_mem hx
            rw [List.length_take] at hj
            have : R[j]? = some x := by rw [← hje, List.getElem_take]; exact List.getElem?_eq_getElem (by omega)
            have := h.ok j k x _ this hk' e1 (by rw [e2, h2])
            omega
          · obtain ⟨j, hj, hje⟩ := List.getElem_of_mem hx
            rw [List.length_drop] at hj
            have : R[k + 1 + j]? = some x := by rw [← hje, List.getElem_drop]; exact List.getElem?_eq_getElem (by omega)
            have := h.ok (k + 1 + j) k x _ this hk' e1 (by rw [e2, h2])
            omega
      have e : remH i s R = R.take k ++ R.drop (k + 1) := by
        unfold remH
        conv => lhs; rw [hsplit]
        have hy : isP i s ⟨i, p⟩ = true := isP_iff.2 ⟨rfl, h2⟩
        rw [List.filter_append, List.filter_cons, if_neg (by simp [hy]), List.filter_eq_self.2 (fun x hx => by rw [hne x (.inl hx)]; rfl), List.filter_eq_self.2 (fun x hx => by rw [hne x (.inr hx)]; rfl)]
      rw [e]
      refine ⟨?_, fun j => ?_⟩
      · simp; omega
      · conv => rhs; rw [hsplit]
        rw [List.filter_append, List.filter_append, List.filter_cons]
        by_cases hji : j = i
        · simp [hji]; omega
        · have : ¬ i = j := fun e => hji e.symm
          simp [hji, this]
  refine ⟨⟨h.ok.filter _, fun j s' p => ?_, fun j => ?_⟩, ?_⟩
  · unfold remH
    rw [List.mem_filter]
    by_cases hji : j = i
    · rw [hji, upI_same]
      by_cases hss : s' = s
      · rw [hss, upS_same]
        constructor
        · intro hx; cases hx
        · rintro ⟨⟨-, hx⟩, hx2⟩
          simp [isP, hx2] at hx
      · rw [upS_other _ _ hss, h.mem i s' p]
        constructor
        · rintro ⟨h1, h2⟩
          refine ⟨⟨h1, ?_⟩, h2⟩
          simp [isP, h2, hss]
        · rintro ⟨⟨h1, -⟩, h2⟩
          exact ⟨h1, h2⟩
    · rw [upI_other _ _ hji, h.mem j s' p]
      simp [isP, hji]
  · have h2 := hone.2 j
    unfold remN
    by_cases hji : j = i
    · rw [hji, upI_same]
      rw [hji] at h2
      have h3 := h.cnt i
      cases hs : (ms i s).isSome with
      | true => rw [hs] at h2; simp at h2; simp; omega
      | false => rw [hs] at h2; simp at h2; simp; omega
    · rw [upI_other _ _ hji, ← h.cnt j]
      simp [hji] at h2
      omega
  · have h2 := hone.1
    cases hs : (ms i s).isSome with
    | true => rw [hs] at h2; simp at h2; simp; omega
    | false => rw [hs] at h2; simp at h2; simp; omega
end
end Go.Proofs.YtfflgkbemfichaaDoor
