/- A row gone through from its first side to its last one. No program. -/
import Derived.Test.YtfabknabkcfpjaaRgA
namespace Go.Proofs.Ytfabknabkcfpjaa.Rg

theorem sep_snoc {rs : List (Int × Int)} {l h : Int} (hs : Sep rs) (hlt : l < h) (hb : ∀ r ∈ rs, r.2 < l) : Sep (rs ++ [(l, h)]) := by
  induction rs with
  | nil => exact ⟨hlt, fun r hr => (by cases hr), trivial⟩
  | cons a t ih =>
    obtain ⟨u, v⟩ := a
    refine ⟨hs.1, fun r hr => ?_, ih hs.2.2 fun r hr => hb r (List.mem_cons_of_mem _ hr)⟩
    rcases List.mem_append.1 hr with k | k
    · exact hs.2.1 r k
    · rw [List.mem_singleton.1 k]; exact hb (u, v) (List.mem_cons_self ..)
theorem sep_init {rs : List (Int × Int)} {a : Int × Int} (hs : Sep (rs ++ [a])) : Sep rs ∧ a.1 < a.2 ∧ ∀ r ∈ rs, r.2 < a.1 := by
  induction rs with
  | nil => exact ⟨trivial, hs.1, fun r hr => by cases hr⟩
  | cons b t ih =>
    obtain ⟨u, v⟩ := b
    obtain ⟨h1, h2, h3⟩ := ih hs.2.2
    refine ⟨⟨hs.1, fun r hr => hs.2.1 r (List.mem_append_left _ hr), h1⟩, h2, fun r hr => ?_⟩
    rcases List.mem_cons.1 hr with e | hr
    · rw [e]; exact hs.2.1 a (List.mem_append_right _ (List.mem_singleton.2 rfl))
    · exact h3 r hr
theorem inRuns_append {x : Int} {a b : List (Int × Int)} : InRuns x (a ++ b) ↔ InRuns x a ∨ InRuns x b := by
  constructor
  · rintro ⟨r, hr, h⟩
    rcases List.mem_append.1 hr with k | k
    · exact .inl ⟨r, k, h⟩
    · exact .inr ⟨r, k, h⟩
  · rintro (⟨r, hr, h⟩ | ⟨r, hr, h⟩)
    · exact ⟨r, List.mem_append_left _ hr, h⟩
    · exact ⟨r, List.mem_append_right _ hr, h⟩

/-- The last run is made longer, or a new one begun. -/
def ext (rs : List (Int × Int)) (l h : Int) : List (Int × Int) :=
  if h ≤ l then rs else match rs.getLast? with
  | none => [(l, h)]
  | some a => if a.2 < l then rs ++ [(l, h)] else rs.dropLast ++ [(min a.1 l, max a.2 h)]
theorem ext_spec {rs : List (Int × Int)} {l h : Int} (hs : Sep rs) (hb : ∀ r ∈ rs, r.2 ≤ l) (hlh : l ≤ h) :
    Sep (ext rs l h) ∧ (∀ r ∈ ext rs l h, r.2 ≤ h) ∧ ∀ x, InRuns x (ext rs l h) ↔ InRuns x rs ∨ (l ≤ x ∧ x < h) := by
  unfold ext
  by_cases h0 : h ≤ l
  · rw [if_pos h0]
    exact ⟨hs, fun r hr => by have := hb r hr; omega, fun x => ⟨.inl, fun k => k.elim id fun k => by omega⟩⟩
  · rw [if_neg h0]
    rcases List.eq_nil_or_concat rs with rfl | ⟨init, a, rfl⟩
    · refine ⟨⟨by omega, fun r hr => (by cases hr), trivial⟩, fun r hr => by rw [List.mem_singleton.1 hr]; exact Int.le_refl _, fun x => ?_⟩
      rw [show (([] : List (Int × Int)).getLast?) = none from rfl]
      simp only [inRuns_cons]
      constructor
      · rintro (k | k)
        · exact .inr k
        · exact .inl k
      · rintro (k | k)
        · exact .inr k
        · exact .inl k
    · rw [List.concat_eq_append] at *
      rw [List.getLast?_append, List.getLast?_singleton]
      simp only [Option.some_or, List.dropLast_concat]
      obtain ⟨s1, s2, s3⟩ := sep_init hs
      have ha := hb a (List.mem_append_right _ (List.mem_singleton.2 rfl))
      by_cases h1 : a.2 < l
      · rw [if_pos h1]
        refine ⟨sep_snoc hs (by omega) fun r hr => ?_, fun r hr => ?_, fun x => ?_⟩
        · rcases List.mem_append.1 hr with k | k
          · have := s3 r k; omega
          · rw [List.mem_singleton.1 k]; exact h1
        · rcases List.mem_append.1 hr with k | k
          · have := hb r k; omega
          · rw [List.mem_singleton.1 k]; exact Int.le_refl _
        · rw [inRuns_append, inRuns_cons]
          constructor
          · rintro (k | k | k)
            · exact .inl k
            · exact .inr k
            · exact absurd k (not_inRuns_nil _)
          · rintro (k | k)
            · exact .inl k
            · exact .inr (.inl k)
      · rw [if_neg h1]
        have e1 : min a.1 l = a.1 := by omega
        have e2 : max a.2 h = h := by omega
        rw [e1, e2]
        refine ⟨sep_snoc s1 (by omega) s3, fun r hr => ?_, fun x => ?_⟩
        · rcases List.mem_append.1 hr with k | k
          · have := s3 r k; omega
          · rw [List.mem_singleton.1 k]; exact Int.le_refl _
        · rw [inRuns_append, inRuns_append, inRuns_cons, show a = (a.1, a.2) from rfl, inRuns_cons]
          constructor
          · rintro (k | k | k)
            · exact .inl (.inl k)
            · by_cases hx : x < a.2
              · exact .inl (.inr (.inl ⟨k.1, hx⟩))
              · exact .inr ⟨by omega, k.2⟩
            · exact absurd k (not_inRuns_nil _)
          · rintro ((k | k | k) | k)
            · exact .inl k
            · exact .inr (.inl ⟨k.1, by have := k.2; omega⟩)
            · exact absurd k (not_inRuns_nil _)
            · exact .inr (.inl ⟨by simp only; omega, k.2⟩)

/-- A side: where it stands, what it adds, to which set. -/
abbrev Ev := Int × Int × Nat
/-- How deep a set is at x. -/
def deepAt (k : Nat) (x : Int) : List Ev → Int
  | [] => 0
  | e :: t => (if e.1 ≤ x ∧ e.2.2 = k then e.2.1 else 0) + deepAt k x t
def total (k : Nat) : List Ev → Int
  | [] => 0
  | e :: t => (if e.2.2 = k then e.2.1 else 0) + total k t
theorem deepAt_append (k : Nat) (x : Int) (a b : List Ev) : deepAt k x (a ++ b) = deepAt k x a + deepAt k x b := by
  induction a with
  | nil => simp [deepAt]
  | cons e t ih => simp only [List.cons_append, deepAt, ih]; omega
theorem total_append (k : Nat) (a b : List Ev) : total k (a ++ b) = total k a + total k b := by
  induction a with
  | nil => simp [total]
  | cons e t ih => simp only [List.cons_append, total, ih]; omega
theorem deepAt_all (k : Nat) (x : Int) (a : List Ev) (h : ∀ e ∈ a, e.1 ≤ x) : deepAt k x a = total k a := by
  induction a with
  | nil => rfl
  | cons e t ih =>
    have h1 := h e (List.mem_cons_self ..)
    simp only [deepAt, total]
    rw [ih fun e he => h e (List.mem_cons_of_mem _ he)]
    simp [h1]

structure Row where
  runs : List (Int × Int)
  d0 : Int
  d1 : Int
  x : Int
def rowStep (rule : Bool → Bool → Bool) (s : Row) (e : Ev) : Row :=
  { runs := if rule (decide (s.d0 > 0)) (decide (s.d1 > 0)) then ext s.runs s.x e.1 else s.runs
    d0 := if e.2.2 = 0 then s.d0 + e.2.1 else s.d0
    d1 := if e.2.2 = 1 then s.d1 + e.2.1 else s.d1
    x := e.1 }
def rowOf (rule : Bool → Bool → Bool) (es : List Ev) : Row := es.foldl (rowStep rule) ⟨[], 0, 0, 0⟩

structure RowInv (rule : Bool → Bool → Bool) (es : List Ev) (s : Row) : Prop where
  sep : Sep s.runs
  d0 : s.d0 = total 0 es
  d1 : s.d1 = total 1 es
  upto : ∀ r ∈ s.runs, r.2 ≤ s.x
  here : ∀ e ∈ es, e.1 ≤ s.x
  last : es ≠ [] → ∃ e ∈ es, e.1 = s.x
  runs : ∀ x, InRuns x s.runs ↔ x < s.x ∧ rule (decide (deepAt 0 x es > 0)) (decide (deepAt 1 x es > 0)) = true

theorem rowOf_inv (rule : Bool → Bool → Bool) (hr : rule false false = false) : ∀ (n : Nat) (es : List Ev), es.length = n → es.Pairwise (fun a b => a.1 ≤ b.1) → RowInv rule es (rowOf rule es)
  | 0, es, hn, _ => by
    obtain rfl : es = [] := List.eq_nil_of_length_eq_zero hn
    refine ⟨trivial, rfl, rfl, fun r hr => (by cases hr), fun e he => (by cases he), fun h => absurd rfl h, fun x => ⟨fun h => absurd h (not_inRuns_nil _), fun h => ?_⟩⟩
    have := h.2
    simp [deepAt, hr] at this
  | n + 1, es, hn, hp => by
    rcases List.eq_nil_or_concat es with rfl | ⟨init, e, rfl⟩
    · cases hn
    rw [List.concat_eq_append] at *
    have hp1 := (List.pairwise_append.1 hp).1
    have hle : ∀ a ∈ init, a.1 ≤ e.1 := fun a ha => (List.pairwise_append.1 hp).2.2 a ha e (List.mem_singleton.2 rfl)
    have ih := rowOf_inv rule hr n init (by simp at hn; exact hn) hp1
    have hs : rowOf rule (init ++ [e]) = rowStep rule (rowOf rule init) e := by unfold rowOf; rw [List.foldl_append]; rfl
    rw [hs]
    generalize rowOf rule init = s at ih
    have hd : ∀ k x, deepAt k x (init ++ [e]) = deepAt k x init + (if e.1 ≤ x ∧ e.2.2 = k then e.2.1 else 0) := fun k x => by rw [deepAt_append]; simp [deepAt]
    have ht : ∀ k, total k (init ++ [e]) = total k init + (if e.2.2 = k then e.2.1 else 0) := fun k => by rw [total_append]; simp [total]
    by_cases hne : init = []
    · subst hne
      have h0 : s.d0 = 0 := ih.d0
      have h1 : s.d1 = 0 := ih.d1
      have hruns : ∀ x, ¬ InRuns x s.runs := fun x h => by
        have := ((ih.runs x).1 h).2
        simp [deepAt, hr] at this
      have hsr : s.runs = [] := by
        cases hc : s.runs with
        | nil => rfl
        | cons a t =>
          have hsep := ih.sep
          rw [hc] at hsep
          exact absurd (by rw [hc]; exact inRuns_cons.2 (.inl ⟨Int.le_refl _, hsep.1⟩)) (hruns a.1)
      have hrow : (rowStep rule s e).runs = [] := by simp [rowStep, h0, h1, hr, hsr]
      refine ⟨by rw [hrow]; trivial, ?_, ?_, fun r hr' => (by rw [hrow] at hr'; cases hr'), fun a ha => ?_, fun _ => ⟨e, by simp, rfl⟩, fun x => ?_⟩
      · simp only [rowStep, ht, h0]; simp [total]
      · simp only [rowStep, ht, h1]; simp [total]
      · simp at ha; rw [ha]; exact Int.le_refl _
      · rw [hrow]
        refine ⟨fun h => absurd h (not_inRuns_nil _), fun h => ?_⟩
        obtain ⟨h2, h3⟩ := h
        have hx : ¬ e.1 ≤ x := by simp only [rowStep] at h2; omega
        simp [deepAt, hx, hr] at h3
    · obtain ⟨a0, ha0, hax⟩ := ih.last hne
      have hxe : s.x ≤ e.1 := by rw [← hax]; exact hle a0 ha0
      have hmid : ∀ k x, s.x ≤ x → deepAt k x init = total k init := fun k x hx => deepAt_all k x init fun a ha => by have := ih.here a ha; omega
      obtain ⟨k1, k2, k3⟩ := ext_spec ih.sep ih.upto hxe
      refine ⟨?_, ?_, ?_, fun r hr' => ?_, fun a ha => ?_, fun _ => ⟨e, by simp, rfl⟩, fun x => ?_⟩
      · show Sep (if _ then _ else _)
        split
        · exact k1
        · exact ih.sep
      · simp only [rowStep, ht, ih.d0]; split <;> simp_all
      · simp only [rowStep, ht, ih.d1]; split <;> simp_all
      · show r.2 ≤ e.1
        simp only [rowStep] at hr'
        split at hr'
        · exact k2 r hr'
        · have := ih.upto r hr'; omega
      · show a.1 ≤ e.1
        rcases List.mem_append.1 ha with m | m
        · exact hle a m
        · rw [List.mem_singleton.1 m]; exact Int.le_refl _
      · show InRuns x (if _ then _ else _) ↔ x < e.1 ∧ _
        have hlow : x < e.1 → ∀ k, deepAt k x (init ++ [e]) = deepAt k x init := fun hx k => by
          rw [hd, if_neg (by omega)]; omega
        have key : InRuns x s.runs → x < e.1 := fun h => by have := ((ih.runs x).1 h).1; omega
        by_cases hc : rule (decide (s.d0 > 0)) (decide (s.d1 > 0)) = true
        · rw [if_pos hc, k3]
          constructor
          · rintro (h | ⟨h1, h2⟩)
            · have hx := key h
              rw [hlow hx, hlow hx]
              exact ⟨hx, ((ih.runs x).1 h).2⟩
            · rw [hlow h2, hlow h2, hmid 0 x h1, hmid 1 x h1, ← ih.d0, ← ih.d1]
              exact ⟨h2, hc⟩
          · rintro ⟨h1, h2⟩
            rw [hlow h1, hlow h1] at h2
            by_cases hx : x < s.x
            · exact .inl ((ih.runs x).2 ⟨hx, h2⟩)
            · exact .inr ⟨by omega, h1⟩
        · rw [if_neg hc]
          constructor
          · intro h
            have hx := key h
            rw [hlow hx, hlow hx]
            exact ⟨hx, ((ih.runs x).1 h).2⟩
          · rintro ⟨h1, h2⟩
            rw [hlow h1, hlow h1] at h2
            by_cases hx : x < s.x
            · exact (ih.runs x).2 ⟨hx, h2⟩
            · rw [hmid 0 x (by omega), hmid 1 x (by omega), ← ih.d0, ← ih.d1] at h2
              exact absurd h2 hc
end Go.Proofs.Ytfabknabkcfpjaa.Rg
