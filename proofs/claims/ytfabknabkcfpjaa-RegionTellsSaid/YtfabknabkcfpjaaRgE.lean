/- The one form of what is made of two sets of rectangles. No program. -/
import Derived.Test.YtfabknabkcfpjaaRgD
namespace Go.Proofs.Ytfabknabkcfpjaa.Rg

def placed (r : Rc) : Bool := decide (0 < r.2.2.1) && decide (0 < r.2.2.2)
/-- The runs of the rectangles of a list that lie in row v. -/
def actv (l : List Rc) (v : Int) : List (Int × Int) := (l.filter fun r => placed r && (decide (r.2.1 ≤ v) && decide (v < r.2.1 + r.2.2.2))).map fun r => (r.1, r.1 + r.2.2.1)
theorem actv_lt (l : List Rc) (v : Int) : ∀ r ∈ actv l v, r.1 < r.2 := by
  intro r hr
  obtain ⟨q, hq, rfl⟩ := List.mem_map.1 hr
  have := (List.mem_filter.1 hq).2
  simp only [placed, Bool.and_eq_true, decide_eq_true_eq] at this
  simp only; omega
def inRect (l : List Rc) (x v : Int) : Bool := inAny x (actv l v)
theorem inRect_iff (l : List Rc) (x v : Int) : inRect l x v = true ↔ InRects l x v := by
  unfold inRect
  rw [inAny_iff]
  constructor
  · rintro ⟨r, hr, h1, h2⟩
    obtain ⟨q, hq, rfl⟩ := List.mem_map.1 hr
    obtain ⟨hq1, hq2⟩ := List.mem_filter.1 hq
    simp only [placed, Bool.and_eq_true, decide_eq_true_eq] at hq2
    exact ⟨q, hq1, h1, h2, hq2.2.1, hq2.2.2⟩
  · rintro ⟨r, hr, h1, h2, h3, h4⟩
    refine ⟨_, List.mem_map.2 ⟨r, List.mem_filter.2 ⟨hr, ?_⟩, rfl⟩, h1, h2⟩
    simp only [placed, Bool.and_eq_true, decide_eq_true_eq]
    omega

/-- Rows between two cuts are alike. -/
theorem actv_same (l : List Rc) (t b v : Int) (h : ∀ r ∈ l, placed r = true → (r.2.1 ≤ t ∨ b ≤ r.2.1) ∧ (r.2.1 + r.2.2.2 ≤ t ∨ b ≤ r.2.1 + r.2.2.2)) (h1 : t ≤ v) (h2 : v < b) : actv l v = actv l t := by
  unfold actv
  congr 1
  refine List.filter_congr fun r hr => ?_
  cases hp : placed r with
  | false => rfl
  | true =>
    obtain ⟨k1, k2⟩ := h r hr hp
    have e1 : decide (r.2.1 ≤ v) = decide (r.2.1 ≤ t) := by rw [decide_eq_decide]; omega
    have e2 : decide (v < r.2.1 + r.2.2.2) = decide (t < r.2.1 + r.2.2.2) := by rw [decide_eq_decide]; omega
    rw [e1, e2]

theorem pair_get {l : List Int} (h : l.Pairwise (· < ·)) {i j : Nat} (hij : i < j) (hj : j < l.length) : l.getD i 0 < l.getD j 0 := by
  rw [List.getD_eq_getElem?_getD, List.getD_eq_getElem?_getD, List.getElem?_eq_getElem (by omega), List.getElem?_eq_getElem hj]
  exact (List.pairwise_iff_getElem.1 h) i j (by omega) hj hij
/-- Of a rising list a member is at most the one before, or at least the next one. -/
theorem rising_gap {l : List Int} (h : l.Pairwise (· < ·)) {i : Nat} (hi : i + 1 < l.length) {v : Int} (hv : v ∈ l) : v ≤ l.getD i 0 ∨ l.getD (i + 1) 0 ≤ v := by
  obtain ⟨k, hk, rfl⟩ := List.getElem_of_mem hv
  have e : l[k] = l.getD k 0 := by rw [List.getD_eq_getElem?_getD, List.getElem?_eq_getElem hk]; rfl
  rw [e]
  rcases Nat.lt_trichotomy k i with h1 | h1 | h1
  · exact .inl (Int.le_of_lt (pair_get h h1 (by omega)))
  · subst h1; exact .inl (Int.le_refl _)
  · by_cases h2 : k = i + 1
    · subst h2; exact .inr (Int.le_refl _)
    · exact .inr (Int.le_of_lt (pair_get h (by omega) hk))
theorem last_ge {y : Int} {ys : List Int} (h : (y :: ys).Pairwise (· < ·)) {v : Int} (hv : v ∈ y :: ys) : v ≤ (y :: ys).getLast (by simp) := by
  obtain ⟨k, hk, rfl⟩ := List.getElem_of_mem hv
  rw [List.getLast_eq_getElem]
  by_cases he : k = (y :: ys).length - 1
  · subst he; exact Int.le_refl _
  · exact Int.le_of_lt ((List.pairwise_iff_getElem.1 h) k _ hk (by simp) (by simp at hk he ⊢; omega))

/-- What is made of two sets: laid band by band over all the rows at which a rectangle begins or ends, it is in the one form. -/
theorem form_by (rule : Bool → Bool → Bool) (hr : rule false false = false) (A B : List Rc) (y : Int) (ys : List Int) (hys : (y :: ys).Pairwise (· < ·))
    (hin : ∀ r ∈ A ++ B, placed r = true → r.2.1 ∈ y :: ys ∧ r.2.1 + r.2.2.2 ∈ y :: ys) (bandOf : Int → Int → List (Int × Int))
    (hb : ∀ t b : Int, Sep (bandOf t b) ∧ ∀ x, InRuns x (bandOf t b) ↔ rule (inRect A x t) (inRect B x t) = true) :
    Form (fun x v => rule (inRect A x v) (inRect B x v) = true) (rectsOf ((List.zip (y :: ys) ys).foldl (fun s p => layStep s (bandOf p.1 p.2, p.1, p.2)) ⟨[], [], y, y⟩).all) := by
  have hband : ∀ i, i < ys.length → Sep (bandOf ((y :: ys).getD i 0) (ys.getD i 0)) ∧ ∀ x v, (y :: ys).getD i 0 ≤ v → v < ys.getD i 0 → (InRuns x (bandOf ((y :: ys).getD i 0) (ys.getD i 0)) ↔ rule (inRect A x v) (inRect B x v) = true) := by
    intro i hi
    have hgap : ∀ v, v ∈ y :: ys → v ≤ (y :: ys).getD i 0 ∨ ys.getD i 0 ≤ v := fun v hv => by
      have := rising_gap hys (i := i) (by simp; omega) hv
      simpa using this
    generalize (y :: ys).getD i 0 = t at hgap ⊢
    generalize ys.getD i 0 = b at hgap ⊢
    obtain ⟨k1, k2⟩ := hb t b
    refine ⟨k1, fun x v hv1 hv2 => ?_⟩
    rw [k2]
    unfold inRect
    rw [actv_same A t b v (fun r hr' hp => ?_) hv1 hv2, actv_same B t b v (fun r hr' hp => ?_) hv1 hv2]
    · have := hin r (List.mem_append_right _ hr') hp
      exact ⟨hgap _ this.1, hgap _ this.2⟩
    · have := hin r (List.mem_append_left _ hr') hp
      exact ⟨hgap _ this.1, hgap _ this.2⟩
  obtain ⟨s', h1, h2⟩ := LayInv.fold (P := fun x v => rule (inRect A x v) (inRect B x v) = true) bandOf ys y _ (LayInv.start y _) (Int.le_refl _) hys hband
  rw [← h2]
  refine ⟨_, h1.goodAll.1, rfl, fun x v => ?_⟩
  rw [h1.inAll]
  refine ⟨fun h => h.2.2, fun h => ?_⟩
  have hcov : ∃ r ∈ A ++ B, placed r = true ∧ r.2.1 ≤ v ∧ v < r.2.1 + r.2.2.2 := by
    have key : ∀ l : List Rc, inRect l x v = true → ∃ r ∈ l, placed r = true ∧ r.2.1 ≤ v ∧ v < r.2.1 + r.2.2.2 := by
      intro l hl
      unfold inRect at hl
      rw [inAny_iff] at hl
      obtain ⟨r, hr', _⟩ := hl
      obtain ⟨q, hq, _⟩ := List.mem_map.1 hr'
      obtain ⟨hq1, hq2⟩ := List.mem_filter.1 hq
      rw [Bool.and_eq_true, Bool.and_eq_true, decide_eq_true_eq, decide_eq_true_eq] at hq2
      exact ⟨q, hq1, hq2.1, hq2.2.1, hq2.2.2⟩
    cases hA : inRect A x v with
    | true => obtain ⟨r, k1, k2⟩ := key A hA; exact ⟨r, List.mem_append_left _ k1, k2⟩
    | false =>
      cases hB : inRect B x v with
      | true => obtain ⟨r, k1, k2⟩ := key B hB; exact ⟨r, List.mem_append_right _ k1, k2⟩
      | false => simp only [hA, hB, hr] at h; cases h
  obtain ⟨r, k1, k2, k3, k4⟩ := hcov
  obtain ⟨m1, m2⟩ := hin r k1 k2
  have g1 : y ≤ r.2.1 := by
    rcases List.mem_cons.1 m1 with e | e
    · rw [e]; exact Int.le_refl _
    · exact Int.le_of_lt ((List.pairwise_cons.1 hys).1 _ e)
  have g2 := last_ge hys m2
  exact ⟨by omega, by omega, h⟩

/-- The code's way: each row by its sides from the left. -/
theorem form_of (rule : Bool → Bool → Bool) (hr : rule false false = false) (A B : List Rc) (y : Int) (ys : List Int) (hys : (y :: ys).Pairwise (· < ·))
    (hin : ∀ r ∈ A ++ B, placed r = true → r.2.1 ∈ y :: ys ∧ r.2.1 + r.2.2.2 ∈ y :: ys) (bandOf : Int → Int → List (Int × Int))
    (hb : ∀ t b : Int, ∃ es : List Ev, es.Perm ((actv A t).flatMap (evsOf 0) ++ (actv B t).flatMap (evsOf 1)) ∧ es.Pairwise (fun a b => a.1 ≤ b.1) ∧ bandOf t b = (rowOf rule es).runs) :
    Form (fun x v => rule (inRect A x v) (inRect B x v) = true) (rectsOf ((List.zip (y :: ys) ys).foldl (fun s p => layStep s (bandOf p.1 p.2, p.1, p.2)) ⟨[], [], y, y⟩).all) :=
  form_by rule hr A B y ys hys hin bandOf fun t b => by
    obtain ⟨es, h1, h2, h3⟩ := hb t b
    rw [h3]
    exact row_spec rule hr _ _ (actv_lt A t) (actv_lt B t) es h1 h2
end Go.Proofs.Ytfabknabkcfpjaa.Rg
