/- A stable sort: what its parts do to an array, said place by place. No program. -/
import Derived.Sort.LotA
namespace Go.Proofs.Yticfefiiiinadaa
open Go.Sort
set_option linter.unusedSectionVars false

section
variable {α : Type} [Inhabited α]

/-- Two rows of n places exchanged. -/
def swF (a b n : Nat) (f : Nat → α) (x : Nat) : α := if a ≤ x ∧ x < a + n then f (x - a + b) else if b ≤ x ∧ x < b + n then f (x - b + a) else f x
/-- [a, m) and [m, b) exchanged. -/
def rotF (a m b : Nat) (f : Nat → α) (x : Nat) : α := if a ≤ x ∧ x < a + (b - m) then f (x - a + m) else if a + (b - m) ≤ x ∧ x < b then f (x - (b - m)) else f x
abbrev at_ (d : Array α) : Nat → α := fun x => d[x]!

theorem swF_zero (a b : Nat) (f : Nat → α) (x : Nat) : swF a b 0 f x = f x := by
  unfold swF; rw [if_neg (by omega), if_neg (by omega)]
theorem swF_next {a b n : Nat} {d e : Array α} (h : a + n < b) (hb : b + n < e.size) (he : ∀ x, e[x]! = swF a b n (at_ d) x) (x : Nat) : (swp e (a + n) (b + n))[x]! = swF a b (n + 1) (at_ d) x := by
  by_cases h1 : x = a + n
  · subst h1
    rw [swp_left e _ _ (by omega) (by omega), he]
    unfold swF
    rw [if_neg (by omega), if_neg (by omega), if_pos (by omega)]
    show d[b + n]! = d[a + n - a + b]!
    congr 1; omega
  · by_cases h2 : x = b + n
    · subst h2
      rw [swp_right e _ _ (by omega), he]
      unfold swF
      rw [if_neg (by omega), if_neg (by omega), if_neg (by omega), if_pos (by omega)]
      show d[a + n]! = d[b + n - b + a]!
      congr 1; omega
    · rw [swp_other e _ _ _ h1 h2, he]
      unfold swF
      repeat' split
      all_goals first | (exfalso; omega) | rfl

/-- The three steps of a rotation. -/
theorem rot_gt {i j m : Nat} {f g : Nat → α} (hij : j < i) (him : i ≤ m) (hg : ∀ x, g x = swF (m - i) m j f x) (x : Nat) : rotF (m - (i - j)) m (m + j) g x = rotF (m - i) m (m + j) f x := by
  unfold rotF
  simp only [hg]
  unfold swF
  repeat' split
  all_goals first | (exfalso; omega) | rfl | (congr 1; omega)
theorem rot_lt {i j m : Nat} {f g : Nat → α} (hij : i < j) (him : i ≤ m) (hg : ∀ x, g x = swF (m - i) (m + j - i) i f x) (x : Nat) : rotF (m - i) m (m + (j - i)) g x = rotF (m - i) m (m + j) f x := by
  unfold rotF
  simp only [hg]
  unfold swF
  repeat' split
  all_goals first | (exfalso; omega) | rfl | (congr 1; omega)
theorem rot_eq {i m : Nat} {f g : Nat → α} (him : i ≤ m) (hg : ∀ x, g x = swF (m - i) m i f x) (x : Nat) : g x = rotF (m - i) m (m + i) f x := by
  rw [hg]
  unfold rotF swF
  repeat' split
  all_goals first | (exfalso; omega) | rfl | (congr 1; omega)
theorem rotF_left (m b : Nat) (f : Nat → α) (x : Nat) : rotF m m b f x = f x := by
  unfold rotF
  repeat' split
  all_goals first | (exfalso; omega) | rfl | (congr 1; omega)
theorem rotF_right (a m : Nat) (f : Nat → α) (x : Nat) : rotF a m m f x = f x := by
  unfold rotF
  repeat' split
  all_goals first | (exfalso; omega) | rfl | (congr 1; omega)
/-- One place further. -/
theorem rot_up {a k : Nat} {d e : Array α} (hk : a ≤ k) (hs : k + 1 < e.size) (he : ∀ x, e[x]! = rotF a (a + 1) (k + 1) (at_ d) x) (x : Nat) : (swp e k (k + 1))[x]! = rotF a (a + 1) (k + 2) (at_ d) x := by
  by_cases h1 : x = k
  · subst h1
    rw [swp_left e _ _ (by omega) (by omega), he]
    unfold rotF
    repeat' split
    all_goals first | (exfalso; omega) | rfl | (show d[_]! = d[_]!; congr 1; omega)
  · by_cases h2 : x = k + 1
    · subst h2
      rw [swp_right e _ _ (by omega), he]
      unfold rotF
      repeat' split
      all_goals first | (exfalso; omega) | rfl | (show d[_]! = d[_]!; congr 1; omega)
    · rw [swp_other e _ _ _ h1 h2, he]
      unfold rotF
      repeat' split
      all_goals first | (exfalso; omega) | rfl | (show d[_]! = d[_]!; congr 1; omega)
theorem rot_down {k m : Nat} {d e : Array α} (hk : k + 1 ≤ m) (hs : k + 1 < e.size) (he : ∀ x, e[x]! = rotF (k + 1) m (m + 1) (at_ d) x) (x : Nat) : (swp e (k + 1) k)[x]! = rotF k m (m + 1) (at_ d) x := by
  by_cases h1 : x = k + 1
  · subst h1
    rw [swp_left e _ _ (by omega) (by omega), he]
    unfold rotF
    repeat' split
    all_goals first | (exfalso; omega) | rfl | (show d[_]! = d[_]!; congr 1; omega)
  · by_cases h2 : x = k
    · subst h2
      rw [swp_right e _ _ (by omega), he]
      unfold rotF
      repeat' split
      all_goals first | (exfalso; omega) | rfl | (show d[_]! = d[_]!; congr 1; omega)
    · rw [swp_other e _ _ _ h1 h2, he]
      unfold rotF
      repeat' split
      all_goals first | (exfalso; omega) | rfl | (show d[_]! = d[_]!; congr 1; omega)

/-! ### Orders -/
/-- An order of all ('lex'), and what 'less' says of two of which the one stood before ('bef') the other. -/
structure Stable (lt lex : α → α → Bool) (bef : α → α → Prop) : Prop where
  trans : ∀ x y z, lex x y = true → lex y z = true → lex x z = true
  asym : ∀ x y, lex x y = true → lex y x = false
  agree : ∀ x y, bef x y → lt y x = lex y x
  total : ∀ x y, bef x y → lex y x = false → lex x y = true

/-- Ascending, no two alike. -/
def Asc (lex : α → α → Bool) (a b : Nat) (f : Nat → α) : Prop := ∀ i j, a ≤ i → i < j → j < b → lex (f i) (f j) = true
structure Halves (lex : α → α → Bool) (bef : α → α → Prop) (a m b : Nat) (f : Nat → α) : Prop where
  left : Asc lex a m f
  right : Asc lex m b f
  cross : ∀ i j, a ≤ i → i < m → m ≤ j → j < b → bef (f i) (f j)

variable {lt lex : α → α → Bool} {bef : α → α → Prop}

/-- The left half is one place: it goes behind those that are less. -/
theorem base_left (S : Stable lt lex bef) {a i b : Nat} {f : Nat → α} (H : Halves lex bef a (a + 1) b f) (h1 : a + 1 ≤ i) (h2 : i ≤ b) (h3 : a + 1 < i → lt (f (i - 1)) (f a) = true) (h4 : i < b → lt (f i) (f a) = false) :
    Asc lex a b (rotF a (a + 1) i f) := by
  have k3 : ∀ y, a + 1 ≤ y → y < i → lex (f y) (f a) = true := by
    intro y hy hyi
    have h := h3 (by omega)
    rw [S.agree _ _ (H.cross a (i - 1) (by omega) (by omega) (by omega) (by omega))] at h
    by_cases he : y = i - 1
    · subst he; exact h
    · exact S.trans _ _ _ (H.right y (i - 1) hy (by omega) (by omega)) h
  have k4 : ∀ y, i ≤ y → y < b → lex (f a) (f y) = true := by
    intro y hy hyb
    have h := h4 (by omega)
    have hc := H.cross a i (by omega) (by omega) (by omega) (by omega)
    rw [S.agree _ _ hc] at h
    have h := S.total _ _ hc h
    by_cases he : y = i
    · subst he; exact h
    · exact S.trans _ _ _ h (H.right i y (by omega) (by omega) hyb)
  intro p q hp hpq hq
  unfold rotF
  by_cases hq1 : q < i - 1
  · rw [if_pos (by omega), if_pos (by omega)]
    exact H.right _ _ (by omega) (by omega) (by omega)
  · by_cases hq2 : q = i - 1
    · rw [if_pos (by omega), if_neg (by omega), if_pos (by omega)]
      rw [show q - (i - (a + 1)) = a by omega]
      exact k3 _ (by omega) (by omega)
    · rw [if_neg (show ¬ (a ≤ q ∧ q < a + (i - (a + 1))) by omega), if_neg (show ¬ (a + (i - (a + 1)) ≤ q ∧ q < i) by omega)]
      by_cases hp1 : p < i - 1
      · rw [if_pos (by omega)]
        exact H.right _ _ (by omega) (by omega) hq
      · by_cases hp2 : p = i - 1
        · rw [if_neg (by omega), if_pos (by omega), show p - (i - (a + 1)) = a by omega]
          exact k4 q (by omega) hq
        · rw [if_neg (by omega), if_neg (by omega)]
          exact H.right _ _ (by omega) hpq hq

/-- The right half is one place. -/
theorem base_right (S : Stable lt lex bef) {a i m : Nat} {f : Nat → α} (H : Halves lex bef a m (m + 1) f) (h1 : a ≤ i) (h2 : i ≤ m) (h3 : a < i → lt (f m) (f (i - 1)) = false) (h4 : i < m → lt (f m) (f i) = true) :
    Asc lex a (m + 1) (rotF i m (m + 1) f) := by
  have k3 : ∀ y, a ≤ y → y < i → lex (f y) (f m) = true := by
    intro y hy hyi
    have h := h3 (by omega)
    have hc := H.cross (i - 1) m (by omega) (by omega) (by omega) (by omega)
    rw [S.agree _ _ hc] at h
    have h := S.total _ _ hc h
    by_cases he : y = i - 1
    · subst he; exact h
    · exact S.trans _ _ _ (H.left y (i - 1) hy (by omega) (by omega)) h
  have k4 : ∀ y, i ≤ y → y < m → lex (f m) (f y) = true := by
    intro y hy hyb
    have h := h4 (by omega)
    rw [S.agree _ _ (H.cross i m (by omega) (by omega) (by omega) (by omega))] at h
    by_cases he : y = i
    · subst he; exact h
    · exact S.trans _ _ _ h (H.left i y (by omega) (by omega) hyb)
  intro p q hp hpq hq
  unfold rotF
  rw [show m + 1 - m = 1 by omega]
  by_cases hp1 : p < i
  · rw [if_neg (show ¬ (i ≤ p ∧ p < i + 1) by omega), if_neg (show ¬ (i + 1 ≤ p ∧ p < m + 1) by omega)]
    by_cases hq1 : q < i
    · rw [if_neg (by omega), if_neg (by omega)]
      exact H.left _ _ (by omega) hpq (by omega)
    · by_cases hq2 : q = i
      · rw [if_pos (by omega), show q - i + m = m by omega]
        exact k3 p hp hp1
      · rw [if_neg (by omega), if_pos (by omega)]
        exact H.left _ _ (by omega) (by omega) (by omega)
  · by_cases hp2 : p = i
    · rw [if_pos (by omega), if_neg (by omega), if_pos (by omega), show p - i + m = m by omega]
      exact k4 _ (by omega) (by omega)
    · rw [if_neg (by omega), if_pos (by omega), if_neg (by omega), if_pos (by omega)]
      exact H.left _ _ (by omega) (by omega) (by omega)

/-- Cut at s and e, the middle exchanged: all of [a, k) is less than all of [k, b); each side is two halves again. -/
theorem cut_halves (S : Stable lt lex bef) {a m b s e : Nat} {f : Nat → α} (H : Halves lex bef a m b f) (hs1 : a ≤ s) (hs2 : s ≤ m) (he1 : m ≤ e) (he2 : e ≤ b)
    (h1 : a < s → e < b → lt (f e) (f (s - 1)) = false) (h2 : s < m → m < e → lt (f (e - 1)) (f s) = true) :
    (∀ i j, a ≤ i → i < s + (e - m) → s + (e - m) ≤ j → j < b → lex (rotF s m e f i) (rotF s m e f j) = true) ∧
    Halves lex bef a s (s + (e - m)) (rotF s m e f) ∧ Halves lex bef (s + (e - m)) e b (rotF s m e f) := by
  have r1 : ∀ i, i < s → rotF s m e f i = f i := fun i hi => by unfold rotF; rw [if_neg (by omega), if_neg (by omega)]
  have r2 : ∀ i, s ≤ i → i < s + (e - m) → rotF s m e f i = f (i - s + m) := fun i h h' => by unfold rotF; rw [if_pos (by omega)]
  have r3 : ∀ i, s + (e - m) ≤ i → i < e → rotF s m e f i = f (i - (e - m)) := fun i h h' => by unfold rotF; rw [if_neg (by omega), if_pos (by omega)]
  have r4 : ∀ i, e ≤ i → rotF s m e f i = f i := fun i hi => by unfold rotF; rw [if_neg (by omega), if_neg (by omega)]
  -- low left before high right
  have k1 : ∀ x y, a ≤ x → x < s → e ≤ y → y < b → lex (f x) (f y) = true := by
    intro x y g1 g2 g3 g4
    have h := h1 (by omega) (by omega)
    have hc := H.cross (s - 1) e (by omega) (by omega) (by omega) (by omega)
    rw [S.agree _ _ hc] at h
    have h := S.total _ _ hc h
    have h : lex (f (s - 1)) (f y) = true := by
      by_cases he : y = e
      · subst he; exact h
      · exact S.trans _ _ _ h (H.right e y (by omega) (by omega) g4)
    by_cases he : x = s - 1
    · subst he; exact h
    · exact S.trans _ _ _ (H.left x (s - 1) g1 (by omega) (by omega)) h
  have k2 : ∀ x y, m ≤ x → x < e → s ≤ y → y < m → lex (f x) (f y) = true := by
    intro x y g1 g2 g3 g4
    have h := h2 (by omega) (by omega)
    rw [S.agree _ _ (H.cross s (e - 1) (by omega) (by omega) (by omega) (by omega))] at h
    have h : lex (f (e - 1)) (f y) = true := by
      by_cases he : y = s
      · subst he; exact h
      · exact S.trans _ _ _ h (H.left s y (by omega) (by omega) g4)
    by_cases he : x = e - 1
    · subst he; exact h
    · exact S.trans _ _ _ (H.right x (e - 1) g1 (by omega) (by omega)) h
  refine ⟨fun i j g1 g2 g3 g4 => ?_, ⟨fun i j g1 g2 g3 => ?_, fun i j g1 g2 g3 => ?_, fun i j g1 g2 g3 g4 => ?_⟩, ⟨fun i j g1 g2 g3 => ?_, fun i j g1 g2 g3 => ?_, fun i j g1 g2 g3 g4 => ?_⟩⟩
  · by_cases c1 : i < s
    · rw [r1 i c1]
      by_cases c2 : j < e
      · rw [r3 j g3 c2]; exact H.left _ _ g1 (by omega) (by omega)
      · rw [r4 j (by omega)]; exact k1 _ _ g1 c1 (by omega) g4
    · rw [r2 i (by omega) g2]
      by_cases c2 : j < e
      · rw [r3 j g3 c2]; exact k2 _ _ (by omega) (by omega) (by omega) (by omega)
      · rw [r4 j (by omega)]; exact H.right _ _ (by omega) (by omega) g4
  · rw [r1 i (by omega), r1 j (by omega)]; exact H.left _ _ g1 g2 (by omega)
  · rw [r2 i g1 (by omega), r2 j (by omega) g3]; exact H.right _ _ (by omega) (by omega) (by omega)
  · rw [r1 i g2, r2 j g3 g4]; exact H.cross _ _ g1 (by omega) (by omega) (by omega)
  · rw [r3 i g1 (by omega), r3 j (by omega) g3]; exact H.left _ _ (by omega) (by omega) (by omega)
  · rw [r4 i g1, r4 j (by omega)]; exact H.right _ _ (by omega) g2 g3
  · rw [r3 i g1 g2, r4 j g3]; exact H.cross _ _ (by omega) (by omega) (by omega) g4

theorem Halves.asc_left {a m b : Nat} {f : Nat → α} (H : Halves lex bef a m b f) (h : m = a ∨ m = b) : Asc lex a b f := by
  rcases h with h | h
  · subst h; exact H.right
  · subst h; exact H.left
/-- Two sides, all of the one less than all of the other. -/
theorem asc_join {a k b : Nat} {f : Nat → α} (h1 : Asc lex a k f) (h2 : Asc lex k b f) (h3 : ∀ i j, a ≤ i → i < k → k ≤ j → j < b → lex (f i) (f j) = true) : Asc lex a b f := by
  intro i j g1 g2 g3
  by_cases c1 : j < k
  · exact h1 i j g1 g2 c1
  · by_cases c2 : i < k
    · exact h3 i j g1 c2 (by omega) g3
    · exact h2 i j (by omega) g2 g3
end
end Go.Proofs.Yticfefiiiinadaa
