/- The reference's way: a row cell by cell between all edges. No program. -/
import Derived.Test.YtfabknabkcfpjaaRgE
namespace Go.Proofs.Ytfabknabkcfpjaa.Rg

def cellStep (inq : Int → Bool) (rs : List (Int × Int)) (p : Int × Int) : List (Int × Int) := if inq p.1 then ext rs p.1 p.2 else rs
theorem cells_fold (inq : Int → Bool) : ∀ (xs : List Int) (x : Int) (rs : List (Int × Int)), (x :: xs).Pairwise (· < ·) → Sep rs → (∀ r ∈ rs, r.2 ≤ x) →
    Sep ((List.zip (x :: xs) xs).foldl (cellStep inq) rs) ∧ ∀ z, InRuns z ((List.zip (x :: xs) xs).foldl (cellStep inq) rs) ↔ InRuns z rs ∨ ∃ p ∈ List.zip (x :: xs) xs, p.1 ≤ z ∧ z < p.2 ∧ inq p.1 = true
  | [], x, rs, _, hs, _ => ⟨hs, fun z => ⟨.inl, fun h => h.elim id fun ⟨p, hp, _⟩ => (by simp at hp)⟩⟩
  | y :: ys, x, rs, hp, hs, hb => by
    have hxy : x < y := (List.pairwise_cons.1 hp).1 y (List.mem_cons_self ..)
    have hp' := (List.pairwise_cons.1 hp).2
    rw [List.zip_cons_cons, List.foldl_cons]
    have hstep : Sep (cellStep inq rs (x, y)) ∧ (∀ r ∈ cellStep inq rs (x, y), r.2 ≤ y) ∧ ∀ z, InRuns z (cellStep inq rs (x, y)) ↔ InRuns z rs ∨ (x ≤ z ∧ z < y ∧ inq x = true) := by
      unfold cellStep
      obtain ⟨k1, k2, k3⟩ := ext_spec (h := y) hs hb (by omega)
      by_cases hq : inq x = true
      · rw [if_pos hq]
        refine ⟨k1, k2, fun z => ?_⟩
        rw [k3]
        exact ⟨fun h => h.elim .inl fun h => .inr ⟨h.1, h.2, hq⟩, fun h => h.elim .inl fun h => .inr ⟨h.1, h.2.1⟩⟩
      · rw [if_neg hq]
        exact ⟨hs, fun r hr => by have := hb r hr; omega, fun z => ⟨.inl, fun h => h.elim id fun h => absurd h.2.2 hq⟩⟩
    obtain ⟨m1, m2⟩ := cells_fold inq ys y _ hp' hstep.1 hstep.2.1
    refine ⟨m1, fun z => ?_⟩
    rw [m2, hstep.2.2]
    constructor
    · rintro ((h | h) | ⟨p, hp1, hp2⟩)
      · exact .inl h
      · exact .inr ⟨(x, y), List.mem_cons_self .., h⟩
      · exact .inr ⟨p, List.mem_cons_of_mem _ hp1, hp2⟩
    · rintro (h | ⟨p, hp1, hp2⟩)
      · exact .inl (.inl h)
      · rcases List.mem_cons.1 hp1 with e | hp1
        · rw [e] at hp2; exact .inl (.inr hp2)
        · exact .inr ⟨p, hp1, hp2⟩
/-- A place between the first and the last lies in a cell. -/
theorem in_cell : ∀ (xs : List Int) (x z : Int), (x :: xs).Pairwise (· < ·) → x ≤ z → z < (x :: xs).getLast (by simp) → ∃ p ∈ List.zip (x :: xs) xs, p.1 ≤ z ∧ z < p.2
  | [], x, z, _, h1, h2 => by simp at h2; omega
  | y :: ys, x, z, hp, h1, h2 => by
    by_cases h : z < y
    · exact ⟨(x, y), by rw [List.zip_cons_cons]; exact List.mem_cons_self .., h1, h⟩
    · obtain ⟨p, k1, k2⟩ := in_cell ys y z (List.pairwise_cons.1 hp).2 (by omega) (by rwa [List.getLast_cons (by simp)] at h2)
      exact ⟨p, by rw [List.zip_cons_cons]; exact List.mem_cons_of_mem _ k1, k2⟩
/-- A cell's ends are neighbours. -/
theorem cell_gap : ∀ (xs : List Int) (x : Int), (x :: xs).Pairwise (· < ·) → ∀ p ∈ List.zip (x :: xs) xs, ∀ v ∈ x :: xs, v ≤ p.1 ∨ p.2 ≤ v
  | [], x, _, p, hp, _, _ => by simp at hp
  | y :: ys, x, hpw, p, hp, v, hv => by
    rw [List.zip_cons_cons] at hp
    have hpw' := (List.pairwise_cons.1 hpw).2
    rcases List.mem_cons.1 hp with e | hp
    · rw [e]
      rcases List.mem_cons.1 hv with e2 | hv
      · exact .inl (by rw [e2]; exact Int.le_refl _)
      · rcases List.mem_cons.1 hv with e3 | hv
        · exact .inr (by rw [e3]; exact Int.le_refl _)
        · exact .inr (Int.le_of_lt ((List.pairwise_cons.1 hpw').1 v hv))
    · rcases List.mem_cons.1 hv with e2 | hv
      · have h1 : y ≤ p.1 := by
          have := (List.of_mem_zip (a := p.1) (b := p.2) hp).1
          rcases List.mem_cons.1 this with e3 | e3
          · rw [e3]; exact Int.le_refl _
          · exact Int.le_of_lt ((List.pairwise_cons.1 hpw').1 _ e3)
        have h2 := (List.pairwise_cons.1 hpw).1 y (List.mem_cons_self ..)
        exact .inl (by rw [e2]; omega)
      · exact cell_gap ys y hpw' p hp v hv

theorem inRect_same (l : List Rc) (a b z v : Int) (h : ∀ r ∈ l, placed r = true → (r.1 ≤ a ∨ b ≤ r.1) ∧ (r.1 + r.2.2.1 ≤ a ∨ b ≤ r.1 + r.2.2.1)) (h1 : a ≤ z) (h2 : z < b) : inRect l z v = inRect l a v := by
  unfold inRect
  have : ∀ r ∈ actv l v, (r.1 ≤ a ∨ b ≤ r.1) ∧ (r.2 ≤ a ∨ b ≤ r.2) := by
    intro r hr
    obtain ⟨q, hq, rfl⟩ := List.mem_map.1 hr
    obtain ⟨hq1, hq2⟩ := List.mem_filter.1 hq
    rw [Bool.and_eq_true] at hq2
    exact h q hq1 hq2.1
  rw [Bool.eq_iff_iff, inAny_iff, inAny_iff]
  constructor
  · rintro ⟨r, hr, k1, k2⟩
    have := this r hr
    exact ⟨r, hr, by omega, by omega⟩
  · rintro ⟨r, hr, k1, k2⟩
    have := this r hr
    exact ⟨r, hr, by omega, by omega⟩

/-- The reference's rows: what is made of two sets, cell by cell. -/
theorem cells_spec (rule : Bool → Bool → Bool) (hr : rule false false = false) (A B : List Rc) (x : Int) (xs : List Int) (v : Int) (hxs : (x :: xs).Pairwise (· < ·))
    (hin : ∀ r ∈ A ++ B, placed r = true → r.1 ∈ x :: xs ∧ r.1 + r.2.2.1 ∈ x :: xs) :
    Sep ((List.zip (x :: xs) xs).foldl (cellStep fun t => rule (inRect A t v) (inRect B t v)) []) ∧
    ∀ z, InRuns z ((List.zip (x :: xs) xs).foldl (cellStep fun t => rule (inRect A t v) (inRect B t v)) []) ↔ rule (inRect A z v) (inRect B z v) = true := by
  obtain ⟨h1, h2⟩ := cells_fold (fun t => rule (inRect A t v) (inRect B t v)) xs x [] hxs trivial (fun r hr => (by cases hr))
  refine ⟨h1, fun z => ?_⟩
  rw [h2]
  have hconst : ∀ p ∈ List.zip (x :: xs) xs, p.1 ≤ z → z < p.2 → rule (inRect A z v) (inRect B z v) = rule (inRect A p.1 v) (inRect B p.1 v) := by
    intro p hp k1 k2
    have hg := cell_gap xs x hxs p hp
    rw [inRect_same A p.1 p.2 z v (fun r hr' hpl => ?_) k1 k2, inRect_same B p.1 p.2 z v (fun r hr' hpl => ?_) k1 k2]
    · have := hin r (List.mem_append_right _ hr') hpl
      exact ⟨hg _ this.1, hg _ this.2⟩
    · have := hin r (List.mem_append_left _ hr') hpl
      exact ⟨hg _ this.1, hg _ this.2⟩
  constructor
  · rintro (h | ⟨p, hp, k1, k2, k3⟩)
    · exact absurd h (not_inRuns_nil _)
    · rw [hconst p hp k1 k2]; exact k3
  · intro h
    have key : ∀ l : List Rc, inRect l z v = true → ∃ r ∈ l, placed r = true ∧ r.1 ≤ z ∧ z < r.1 + r.2.2.1 := by
      intro l hl
      unfold inRect at hl
      rw [inAny_iff] at hl
      obtain ⟨r, hr', g1, g2⟩ := hl
      obtain ⟨q, hq, rfl⟩ := List.mem_map.1 hr'
      obtain ⟨hq1, hq2⟩ := List.mem_filter.1 hq
      rw [Bool.and_eq_true] at hq2
      exact ⟨q, hq1, hq2.1, g1, g2⟩
    have hcov : ∃ r ∈ A ++ B, placed r = true ∧ r.1 ≤ z ∧ z < r.1 + r.2.2.1 := by
      cases hA : inRect A z v with
      | true => obtain ⟨r, k1, k2⟩ := key A hA; exact ⟨r, List.mem_append_left _ k1, k2⟩
      | false =>
        cases hB : inRect B z v with
        | true => obtain ⟨r, k1, k2⟩ := key B hB; exact ⟨r, List.mem_append_right _ k1, k2⟩
        | false => simp only [hA, hB, hr] at h; cases h
    obtain ⟨r, k1, k2, k3, k4⟩ := hcov
    obtain ⟨m1, m2⟩ := hin r k1 k2
    have g1 : x ≤ r.1 := by
      rcases List.mem_cons.1 m1 with e | e
      · rw [e]; exact Int.le_refl _
      · exact Int.le_of_lt ((List.pairwise_cons.1 hxs).1 _ e)
    have g2 := last_ge hxs m2
    obtain ⟨p, hp, q1, q2⟩ := in_cell xs x z hxs (by omega) (by omega)
    exact .inr ⟨p, hp, q1, q2, by rw [← hconst p hp q1 q2]; exact h⟩

/-- The reference's way is the one form, too. -/
theorem form_ref (rule : Bool → Bool → Bool) (hr : rule false false = false) (A B : List Rc) (y : Int) (ys : List Int) (hys : (y :: ys).Pairwise (· < ·))
    (hin : ∀ r ∈ A ++ B, placed r = true → r.2.1 ∈ y :: ys ∧ r.2.1 + r.2.2.2 ∈ y :: ys) (x : Int) (xs : List Int) (hxs : (x :: xs).Pairwise (· < ·))
    (hinx : ∀ r ∈ A ++ B, placed r = true → r.1 ∈ x :: xs ∧ r.1 + r.2.2.1 ∈ x :: xs) :
    Form (fun x v => rule (inRect A x v) (inRect B x v) = true) (rectsOf ((List.zip (y :: ys) ys).foldl (fun s p => layStep s ((List.zip (x :: xs) xs).foldl (cellStep fun t => rule (inRect A t p.1) (inRect B t p.1)) [], p.1, p.2)) ⟨[], [], y, y⟩).all) :=
  form_by rule hr A B y ys hys hin (fun v _ => (List.zip (x :: xs) xs).foldl (cellStep fun t => rule (inRect A t v) (inRect B t v)) []) fun v _ => cells_spec rule hr A B x xs v hxs hinx
end Go.Proofs.Ytfabknabkcfpjaa.Rg
