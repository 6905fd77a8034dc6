/- Bands laid one below the other: the one form. No program. -/
import Derived.Test.YtfabknabkcfpjaaRgC
namespace Go.Proofs.Ytfabknabkcfpjaa.Rg

theorem good_snoc : ∀ {bs : List Band} {b : Band}, Good bs → b.top < b.bottom → b.runs ≠ [] → Sep b.runs → (∀ c ∈ bs, c.bottom ≤ b.top) → (∀ init c, bs = init ++ [c] → c.bottom = b.top → b.runs ≠ c.runs) → Good (bs ++ [b])
  | [], b, _, h1, h2, h3, _, _ => ⟨h1, h2, h3, fun c hc => (by cases hc), fun c t' h => (by cases h), trivial⟩
  | a :: t, b, g, h1, h2, h3, h4, h5 => by
    obtain ⟨g1, g2, g3, g4, g5, g6⟩ := g
    have hrec : Good (t ++ [b]) := good_snoc g6 h1 h2 h3 (fun c hc => h4 c (List.mem_cons_of_mem _ hc)) fun init c hi => h5 (a :: init) c (by rw [hi]; rfl)
    refine ⟨g1, g2, g3, fun c hc => ?_, fun c t' ht => ?_, hrec⟩
    · rcases List.mem_append.1 hc with k | k
      · exact g4 c k
      · rw [List.mem_singleton.1 k]; exact h4 a (List.mem_cons_self ..)
    · cases t with
      | nil =>
        have ht' : [b] = c :: t' := ht
        injection ht' with e1 e2
        rw [← e1]
        intro e
        exact h5 [] a rfl e.symm
      | cons u t2 =>
        have ht' : u :: (t2 ++ [b]) = c :: t' := ht
        injection ht' with e1 e2
        rw [← e1]
        exact g5 u t2 rfl

/-- The form, as far as it is laid: whole bands, and the last one, which may be without runs. -/
structure Lay where
  done : List Band
  cur : List (Int × Int)
  top : Int
  bottom : Int
def Lay.all (s : Lay) : List Band := if s.cur = [] then s.done else s.done ++ [⟨s.top, s.bottom, s.cur⟩]
/-- A band more: (its runs, top, bottom). -/
def layStep (s : Lay) (n : List (Int × Int) × Int × Int) : Lay := if n.1 = s.cur then { s with bottom := n.2.2 } else ⟨s.all, n.1, n.2.1, n.2.2⟩

structure LayInv (y0 y : Int) (P : Int → Int → Prop) (s : Lay) : Prop where
  good : Good s.done
  above : ∀ c ∈ s.done, c.bottom ≤ s.top
  differ : ∀ init c, s.done = init ++ [c] → c.bottom = s.top → s.cur ≠ c.runs
  sep : Sep s.cur
  bot : s.bottom = y
  le : s.top ≤ s.bottom
  lt : s.top < s.bottom ∨ (s.done = [] ∧ s.cur = [])
  places : ∀ x v, (InBands x v s.done ∨ (s.top ≤ v ∧ v < s.bottom ∧ InRuns x s.cur)) ↔ (y0 ≤ v ∧ v < y ∧ P x v)

theorem LayInv.start (y : Int) (P : Int → Int → Prop) : LayInv y y P ⟨[], [], y, y⟩ :=
  ⟨trivial, fun c hc => (by cases hc), fun init c h => (by simp at h), trivial, rfl, Int.le_refl _, .inr ⟨rfl, rfl⟩, fun x v => ⟨fun h => h.elim (fun k => absurd k (not_inBands_nil _ _)) fun k => absurd k.2.2 (not_inRuns_nil _), fun h => by omega⟩⟩

theorem LayInv.inAll {y0 y : Int} {P : Int → Int → Prop} {s : Lay} (h : LayInv y0 y P s) (x v : Int) : InBands x v s.all ↔ (y0 ≤ v ∧ v < y ∧ P x v) := by
  rw [← h.places]
  unfold Lay.all
  by_cases hc : s.cur = []
  · rw [if_pos hc, hc]
    exact ⟨.inl, fun k => k.elim id fun k => absurd k.2.2 (not_inRuns_nil _)⟩
  · rw [if_neg hc]
    constructor
    · rintro ⟨b, hb, k⟩
      rcases List.mem_append.1 hb with m | m
      · exact .inl ⟨b, m, k⟩
      · rw [List.mem_singleton.1 m] at k; exact .inr k
    · rintro (⟨b, hb, k⟩ | k)
      · exact ⟨b, List.mem_append_left _ hb, k⟩
      · exact ⟨_, List.mem_append_right _ (List.mem_singleton.2 rfl), k⟩
theorem LayInv.goodAll {y0 y : Int} {P : Int → Int → Prop} {s : Lay} (h : LayInv y0 y P s) : Good s.all ∧ ∀ c ∈ s.all, c.bottom ≤ y := by
  unfold Lay.all
  by_cases hc : s.cur = []
  · rw [if_pos hc]
    exact ⟨h.good, fun c hm => by have := h.above c hm; have := h.le; have := h.bot; omega⟩
  · rw [if_neg hc]
    have hlt : s.top < s.bottom := by
      rcases h.lt with k | k
      · exact k
      · exact absurd k.2 hc
    refine ⟨good_snoc h.good hlt hc h.sep h.above h.differ, fun c hm => ?_⟩
    rcases List.mem_append.1 hm with m | m
    · have := h.above c m; have := h.bot; omega
    · rw [List.mem_singleton.1 m]; have := h.bot; simp only; omega

theorem LayInv.next {y0 y z : Int} {P : Int → Int → Prop} {s : Lay} (h : LayInv y0 y P s) (h0 : y0 ≤ y) (hyz : y < z) {rs : List (Int × Int)} (hs : Sep rs) (hP : ∀ x v, y ≤ v → v < z → (InRuns x rs ↔ P x v)) :
    LayInv y0 z P (layStep s (rs, y, z)) := by
  unfold layStep
  by_cases he : rs = s.cur
  · rw [if_pos he]
    refine ⟨h.good, h.above, h.differ, h.sep, rfl, by have := h.le; have := h.bot; simp only; omega, .inl (by have := h.le; have := h.bot; simp only; omega), fun x v => ?_⟩
    simp only
    have hpl := h.places x v
    have hbot := h.bot
    have hle := h.le
    constructor
    · rintro (k | ⟨k1, k2, k3⟩)
      · have := hpl.1 (.inl k)
        exact ⟨this.1, by omega, this.2.2⟩
      · by_cases hv : v < s.bottom
        · have := hpl.1 (.inr ⟨k1, hv, k3⟩)
          exact ⟨this.1, by omega, this.2.2⟩
        · exact ⟨by omega, k2, (hP x v (by omega) k2).1 (he ▸ k3)⟩
    · rintro ⟨k1, k2, k3⟩
      by_cases hv : v < y
      · rcases hpl.2 ⟨k1, hv, k3⟩ with m | m
        · exact .inl m
        · exact .inr ⟨m.1, by omega, m.2.2⟩
      · exact .inr ⟨by omega, k2, he ▸ (hP x v (by omega) k2).2 k3⟩
  · rw [if_neg he]
    obtain ⟨g1, g2⟩ := h.goodAll
    refine ⟨g1, g2, fun init c hi hc => ?_, hs, rfl, by simp only; omega, .inl hyz, fun x v => ?_⟩
    · simp only at hi hc ⊢
      unfold Lay.all at hi
      by_cases hcur : s.cur = []
      · rw [if_pos hcur] at hi
        have h1 := h.above c (by rw [hi]; exact List.mem_append_right _ (List.mem_singleton.2 rfl))
        have hbot := h.bot
        rcases h.lt with k | k
        · omega
        · rw [k.1] at hi; simp at hi
      · rw [if_neg hcur] at hi
        have := (List.append_inj' hi rfl).2
        rw [← List.head_eq_of_cons_eq this]
        exact he
    · simp only
      rw [h.inAll]
      constructor
      · rintro (k | ⟨k1, k2, k3⟩)
        · exact ⟨k.1, by omega, k.2.2⟩
        · exact ⟨by omega, k2, (hP x v k1 k2).1 k3⟩
      · rintro ⟨k1, k2, k3⟩
        by_cases hv : v < y
        · exact .inl ⟨k1, hv, k3⟩
        · exact .inr ⟨by omega, k2, (hP x v (by omega) k2).2 k3⟩

/-- Bands laid over rows y0 < y1 < ..: the form of what lies between the first and the last. -/
theorem LayInv.fold {y0 : Int} {P : Int → Int → Prop} (bandOf : Int → Int → List (Int × Int)) : ∀ (ys : List Int) (y : Int) (s : Lay), LayInv y0 y P s → y0 ≤ y → (y :: ys).Pairwise (· < ·) →
    (∀ i, i < ys.length → Sep (bandOf ((y :: ys).getD i 0) (ys.getD i 0)) ∧ ∀ x v, (y :: ys).getD i 0 ≤ v → v < ys.getD i 0 → (InRuns x (bandOf ((y :: ys).getD i 0) (ys.getD i 0)) ↔ P x v)) →
    ∃ s', LayInv y0 ((y :: ys).getLast (by simp)) P s' ∧ s' = (List.zip (y :: ys) ys).foldl (fun s p => layStep s (bandOf p.1 p.2, p.1, p.2)) s
  | [], y, s, h, _, _, _ => ⟨s, h, rfl⟩
  | z :: zs, y, s, h, h0, hp, hb => by
    have hyz : y < z := (List.pairwise_cons.1 hp).1 z (List.mem_cons_self ..)
    have hb0 := hb 0 (by simp)
    have h1 := h.next h0 hyz hb0.1 hb0.2
    obtain ⟨s', k1, k2⟩ := LayInv.fold bandOf zs z _ h1 (by omega) (List.pairwise_cons.1 hp).2 fun i hi => by
      have := hb (i + 1) (by simp; omega)
      exact this
    exact ⟨s', k1, k2⟩
end Go.Proofs.Ytfabknabkcfpjaa.Rg
