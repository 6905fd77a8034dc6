/- Sets of places in one form: runs of a row, bands of rows. No program. -/
namespace Go.Proofs.Ytfabknabkcfpjaa.Rg

/-- Runs [l, h) of a row, each ahead of the next one, none touching. -/
def Sep : List (Int × Int) → Prop
  | [] => True
  | (l, h) :: t => l < h ∧ (∀ r ∈ t, h < r.1) ∧ Sep t
def InRuns (x : Int) (rs : List (Int × Int)) : Prop := ∃ r ∈ rs, r.1 ≤ x ∧ x < r.2

theorem Sep.each {rs : List (Int × Int)} (h : Sep rs) : ∀ r ∈ rs, r.1 < r.2 := by
  induction rs with
  | nil => intro r hr; cases hr
  | cons a t ih =>
    obtain ⟨l, u⟩ := a
    obtain ⟨h1, _, h3⟩ := h
    intro r hr
    rcases List.mem_cons.1 hr with e | hr
    · rw [e]; exact h1
    · exact ih h3 r hr
theorem Sep.tail_gt {l h : Int} {t : List (Int × Int)} (hs : Sep ((l, h) :: t)) {x : Int} (hx : InRuns x t) : h < x := by
  obtain ⟨r, hr, h1, _⟩ := hx
  have := hs.2.1 r hr
  omega
theorem inRuns_cons {x l h : Int} {t : List (Int × Int)} : InRuns x ((l, h) :: t) ↔ (l ≤ x ∧ x < h) ∨ InRuns x t := by
  constructor
  · rintro ⟨r, hr, h1, h2⟩
    rcases List.mem_cons.1 hr with e | hr
    · rw [e] at h1 h2; exact .inl ⟨h1, h2⟩
    · exact .inr ⟨r, hr, h1, h2⟩
  · rintro (⟨h1, h2⟩ | ⟨r, hr, h1, h2⟩)
    · exact ⟨_, List.mem_cons_self .., h1, h2⟩
    · exact ⟨r, List.mem_cons_of_mem _ hr, h1, h2⟩
theorem not_inRuns_nil (x : Int) : ¬ InRuns x [] := by rintro ⟨r, hr, _⟩; cases hr
theorem Sep.ge {l h : Int} {t : List (Int × Int)} (hs : Sep ((l, h) :: t)) {x : Int} (hx : InRuns x ((l, h) :: t)) : l ≤ x := by
  rcases inRuns_cons.1 hx with h1 | h1
  · exact h1.1
  · have := hs.tail_gt h1; have := hs.1; omega

theorem runs_unique : ∀ (r1 r2 : List (Int × Int)), Sep r1 → Sep r2 → (∀ x, InRuns x r1 ↔ InRuns x r2) → r1 = r2
  | [], [], _, _, _ => rfl
  | [], (l, h) :: t, _, h2, hx => absurd ((hx l).2 (inRuns_cons.2 (.inl ⟨Int.le_refl _, h2.1⟩))) (not_inRuns_nil _)
  | (l, h) :: t, [], h1, _, hx => absurd ((hx l).1 (inRuns_cons.2 (.inl ⟨Int.le_refl _, h1.1⟩))) (not_inRuns_nil _)
  | (l, h) :: t, (l', h') :: t', h1, h2, hx => by
    have e1 : l = l' := by
      have a := h2.ge ((hx l).1 (inRuns_cons.2 (.inl ⟨Int.le_refl _, h1.1⟩)))
      have b := h1.ge ((hx l').2 (inRuns_cons.2 (.inl ⟨Int.le_refl _, h2.1⟩)))
      omega
    subst e1
    have e2 : h = h' := by
      rcases Int.lt_trichotomy h h' with g | g | g
      · have := (hx h).2 (inRuns_cons.2 (.inl ⟨by have := h1.1; omega, g⟩))
        rcases inRuns_cons.1 this with k | k
        · omega
        · have := h1.tail_gt k; omega
      · exact g
      · have := (hx h').1 (inRuns_cons.2 (.inl ⟨by have := h2.1; omega, g⟩))
        rcases inRuns_cons.1 this with k | k
        · omega
        · have := h2.tail_gt k; omega
    subst e2
    have e3 : t = t' := runs_unique t t' h1.2.2 h2.2.2 fun x => by
      constructor
      · intro k
        have g := h1.tail_gt k
        rcases inRuns_cons.1 ((hx x).1 (inRuns_cons.2 (.inr k))) with m | m
        · omega
        · exact m
      · intro k
        have g := h2.tail_gt k
        rcases inRuns_cons.1 ((hx x).2 (inRuns_cons.2 (.inr k))) with m | m
        · omega
        · exact m
    rw [e3]

/-- A band: rows [top, bottom), its runs. -/
structure Band where
  top : Int
  bottom : Int
  runs : List (Int × Int)

/-- Bands one below the other, each with runs; two that touch are not alike. -/
def Good : List Band → Prop
  | [] => True
  | b :: t => b.top < b.bottom ∧ b.runs ≠ [] ∧ Sep b.runs ∧ (∀ c ∈ t, b.bottom ≤ c.top) ∧ (∀ c t', t = c :: t' → c.top = b.bottom → c.runs ≠ b.runs) ∧ Good t
def InBands (x y : Int) (bs : List Band) : Prop := ∃ b ∈ bs, b.top ≤ y ∧ y < b.bottom ∧ InRuns x b.runs

theorem inBands_cons {x y : Int} {b : Band} {t : List Band} : InBands x y (b :: t) ↔ (b.top ≤ y ∧ y < b.bottom ∧ InRuns x b.runs) ∨ InBands x y t := by
  constructor
  · rintro ⟨c, hc, h⟩
    rcases List.mem_cons.1 hc with e | hc
    · rw [e] at h; exact .inl h
    · exact .inr ⟨c, hc, h⟩
  · rintro (h | ⟨c, hc, h⟩)
    · exact ⟨b, List.mem_cons_self .., h⟩
    · exact ⟨c, List.mem_cons_of_mem _ hc, h⟩
theorem Good.tail_ge {b : Band} {t : List Band} (g : Good (b :: t)) {x y : Int} (h : InBands x y t) : b.bottom ≤ y := by
  obtain ⟨c, hc, h1, _⟩ := h
  have := g.2.2.2.1 c hc
  omega
theorem Good.ge {b : Band} {t : List Band} (g : Good (b :: t)) {x y : Int} (h : InBands x y (b :: t)) : b.top ≤ y := by
  rcases inBands_cons.1 h with k | k
  · exact k.1
  · have := g.tail_ge k; have := g.1; omega
/-- Each row of a band has a place. -/
theorem Good.place {b : Band} {t : List Band} (g : Good (b :: t)) : ∃ x, InRuns x b.runs := by
  obtain ⟨_, h1, h2, _⟩ := g
  cases hr : b.runs with
  | nil => exact absurd hr h1
  | cons a t' =>
    obtain ⟨l, h⟩ := a
    rw [hr] at h2
    exact ⟨l, inRuns_cons.2 (.inl ⟨Int.le_refl _, h2.1⟩)⟩
/-- A row of the first band. -/
theorem Good.row {b : Band} {t : List Band} (g : Good (b :: t)) {x y : Int} (h1 : b.top ≤ y) (h2 : y < b.bottom) : InBands x y (b :: t) ↔ InRuns x b.runs := by
  rw [inBands_cons]
  constructor
  · rintro (h | h)
    · exact h.2.2
    · have := g.tail_ge h; omega
  · intro h; exact .inl ⟨h1, h2, h⟩
theorem not_inBands_nil (x y : Int) : ¬ InBands x y [] := by rintro ⟨r, hr, _⟩; cases hr
/-- The row just below the first band is not as the band is. -/
theorem Good.below_row {b : Band} {t : List Band} (g : Good (b :: t)) (h : ∀ x, InBands x b.bottom (b :: t) ↔ InRuns x b.runs) : False := by
  obtain ⟨x0, hx0⟩ := g.place
  have h0 := (h x0).2 hx0
  rcases inBands_cons.1 h0 with k | k
  · omega
  · cases t with
    | nil => exact not_inBands_nil _ _ k
    | cons c t' =>
      have gt : Good (c :: t') := g.2.2.2.2.2
      have hle := gt.ge k
      have hge := g.2.2.2.1 c (List.mem_cons_self ..)
      have hct : c.top = b.bottom := by omega
      refine g.2.2.2.2.1 c t' rfl hct (runs_unique _ _ gt.2.2.1 g.2.2.1 fun x => ?_)
      rw [← h x, inBands_cons]
      rw [← gt.row (x := x) (y := b.bottom) (by omega) (by have := gt.1; omega)]
      constructor
      · intro m; exact .inr m
      · rintro (m | m)
        · omega
        · exact m

theorem bands_unique : ∀ (b1 b2 : List Band), Good b1 → Good b2 → (∀ x y, InBands x y b1 ↔ InBands x y b2) → b1 = b2
  | [], [], _, _, _ => rfl
  | [], b :: t, _, g, h => by
    obtain ⟨x, hx⟩ := g.place
    exact absurd ((h x b.top).2 ((g.row (Int.le_refl _) g.1).2 hx)) (not_inBands_nil _ _)
  | b :: t, [], g, _, h => by
    obtain ⟨x, hx⟩ := g.place
    exact absurd ((h x b.top).1 ((g.row (Int.le_refl _) g.1).2 hx)) (not_inBands_nil _ _)
  | b :: t, b' :: t', g, g', h => by
    obtain ⟨x, hx⟩ := g.place
    obtain ⟨x', hx'⟩ := g'.place
    have e1 : b.top = b'.top := by
      have p := g'.ge ((h x b.top).1 ((g.row (Int.le_refl _) g.1).2 hx))
      have q := g.ge ((h x' b'.top).2 ((g'.row (Int.le_refl _) g'.1).2 hx'))
      omega
    have e2 : b.runs = b'.runs := runs_unique _ _ g.2.2.1 g'.2.2.1 fun x => by
      rw [← g.row (x := x) (y := b.top) (Int.le_refl _) g.1, h, g'.row (by omega) (by have := g'.1; omega)]
    have e3 : b.bottom = b'.bottom := by
      rcases Int.lt_trichotomy b.bottom b'.bottom with k | k | k
      · exfalso
        exact g.below_row fun x => by rw [h, g'.row (by have := g.1; omega) k, e2]
      · exact k
      · exfalso
        exact g'.below_row fun x => by rw [← h, g.row (by have := g'.1; omega) k, e2]
    have eb : b = b' := by cases b; cases b'; simp_all
    subst eb
    have e4 : t = t' := bands_unique t t' g.2.2.2.2.2 g'.2.2.2.2.2 fun x y => by
      constructor
      · intro k
        have m := g.tail_ge k
        rcases inBands_cons.1 ((h x y).1 (inBands_cons.2 (.inr k))) with n | n
        · omega
        · exact n
      · intro k
        have m := g'.tail_ge k
        rcases inBands_cons.1 ((h x y).2 (inBands_cons.2 (.inr k))) with n | n
        · omega
        · exact n
    rw [e4]

/-! ### As rectangles: x, y, w, h -/
abbrev Rc := Int × Int × Int × Int
def Band.rects (b : Band) : List Rc := b.runs.map fun r => (r.1, b.top, r.2 - r.1, b.bottom - b.top)
def rectsOf (bs : List Band) : List Rc := bs.flatMap Band.rects
def hasR (r : Rc) (x y : Int) : Prop := r.1 ≤ x ∧ x < r.1 + r.2.2.1 ∧ r.2.1 ≤ y ∧ y < r.2.1 + r.2.2.2
def InRects (l : List Rc) (x y : Int) : Prop := ∃ r ∈ l, hasR r x y
theorem inRects_of (bs : List Band) (x y : Int) : InRects (rectsOf bs) x y ↔ InBands x y bs := by
  constructor
  · rintro ⟨r, hr, h1, h2, h3, h4⟩
    obtain ⟨b, hb, hr⟩ := List.mem_flatMap.1 hr
    obtain ⟨u, hu, rfl⟩ := List.mem_map.1 hr
    simp only at h1 h2 h3 h4
    exact ⟨b, hb, by omega, by omega, u, hu, by omega, by omega⟩
  · rintro ⟨b, hb, h1, h2, u, hu, h3, h4⟩
    exact ⟨_, List.mem_flatMap.2 ⟨b, hb, List.mem_map.2 ⟨u, hu, rfl⟩⟩, by simp only [hasR]; omega⟩
/-- The one form of a set of places. -/
def Form (P : Int → Int → Prop) (l : List Rc) : Prop := ∃ bs, Good bs ∧ l = rectsOf bs ∧ ∀ x y, InBands x y bs ↔ P x y
theorem form_unique {P : Int → Int → Prop} {l1 l2 : List Rc} (h1 : Form P l1) (h2 : Form P l2) : l1 = l2 := by
  obtain ⟨b1, g1, rfl, e1⟩ := h1
  obtain ⟨b2, g2, rfl, e2⟩ := h2
  rw [bands_unique b1 b2 g1 g2 fun x y => by rw [e1, e2]]
theorem Form.has {P : Int → Int → Prop} {l : List Rc} (h : Form P l) (x y : Int) : InRects l x y ↔ P x y := by
  obtain ⟨b, _, rfl, e⟩ := h
  rw [inRects_of, e]
end Go.Proofs.Ytfabknabkcfpjaa.Rg
