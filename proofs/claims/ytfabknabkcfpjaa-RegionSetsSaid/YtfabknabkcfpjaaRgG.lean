/- The one form's rectangles do not meet; areas are numbers of places. No program. -/
import Derived.Test.YtfabknabkcfpjaaRgF
namespace Go.Proofs.Ytfabknabkcfpjaa.Rg

def Disj (r q : Rc) : Prop := ∀ x v, ¬ (hasR r x v ∧ hasR q x v)
theorem sep_pairwise {rs : List (Int × Int)} (h : Sep rs) : rs.Pairwise (fun a b => a.2 < b.1) := by
  induction rs with
  | nil => exact List.Pairwise.nil
  | cons a t ih => obtain ⟨l, u⟩ := a; exact List.Pairwise.cons (fun r hr => h.2.1 r hr) (ih h.2.2)
theorem rects_pos : ∀ {bs : List Band}, Good bs → ∀ r ∈ rectsOf bs, placed r = true
  | [], _, r, hr => by cases hr
  | b :: t, g, r, hr => by
    rcases List.mem_append.1 (by simpa [rectsOf] using hr : r ∈ b.rects ++ rectsOf t) with k | k
    · obtain ⟨u, hu, rfl⟩ := List.mem_map.1 k
      have := g.2.2.1.each u hu
      have := g.1
      simp only [placed, Bool.and_eq_true, decide_eq_true_eq]
      omega
    · exact rects_pos g.2.2.2.2.2 r k
theorem rects_disjoint : ∀ {bs : List Band}, Good bs → (rectsOf bs).Pairwise Disj
  | [], _ => List.Pairwise.nil
  | b :: t, g => by
    have e : rectsOf (b :: t) = b.rects ++ rectsOf t := by simp [rectsOf]
    rw [e, List.pairwise_append]
    refine ⟨?_, rects_disjoint g.2.2.2.2.2, fun r hr q hq x v ⟨h1, h2⟩ => ?_⟩
    · unfold Band.rects
      rw [List.pairwise_map]
      refine (sep_pairwise g.2.2.1).imp fun {a c} hac x v ⟨h1, h2⟩ => ?_
      obtain ⟨_, h4, _, _⟩ := h1
      obtain ⟨h5, _, _, _⟩ := h2
      simp only at h4 h5
      omega
    · obtain ⟨u, hu, rfl⟩ := List.mem_map.1 hr
      have hin : InBands x v t := (inRects_of t x v).1 ⟨q, hq, h2⟩
      have := g.tail_ge hin
      obtain ⟨_, _, _, h4⟩ := h1
      simp only at h4
      omega

/-! ### Counting over a box -/
def sumR : Nat → (Nat → Int) → Int
  | 0, _ => 0
  | n + 1, f => sumR n f + f n
theorem sumR_congr {n : Nat} {f g : Nat → Int} (h : ∀ i, i < n → f i = g i) : sumR n f = sumR n g := by
  induction n with
  | zero => rfl
  | succ n ih => simp only [sumR]; rw [ih fun i hi => h i (by omega), h n (by omega)]
theorem sumR_add (n : Nat) (f g : Nat → Int) : sumR n (fun i => f i + g i) = sumR n f + sumR n g := by
  induction n with
  | zero => rfl
  | succ n ih => simp only [sumR]; rw [ih]; omega
theorem sumR_mul (n : Nat) (c : Int) (f : Nat → Int) : sumR n (fun i => c * f i) = c * sumR n f := by
  induction n with
  | zero => simp [sumR]
  | succ n ih => simp only [sumR]; rw [ih, Int.mul_add]
theorem sumR_zero (n : Nat) : sumR n (fun _ => 0) = 0 := by
  induction n with
  | zero => rfl
  | succ n ih => simp only [sumR]; rw [ih]; rfl
theorem sumR_ind (lo l h : Int) (hl : lo ≤ l) : ∀ n : Nat, sumR n (fun i => if l ≤ lo + i ∧ lo + i < h then 1 else 0) = max 0 (min h (lo + n) - l)
  | 0 => by simp only [sumR]; omega
  | n + 1 => by
    simp only [sumR]
    rw [sumR_ind lo l h hl n]
    by_cases hc : l ≤ lo + n ∧ lo + n < h
    · rw [if_pos hc]; omega
    · rw [if_neg hc]; omega

/-- The places of a box. -/
def cnt (lo : Int) (n : Nat) (P : Int → Int → Bool) : Int := sumR n fun j => sumR n fun i => if P (lo + i) (lo + j) = true then 1 else 0
theorem cnt_congr {lo : Int} {n : Nat} {P Q : Int → Int → Bool} (h : ∀ x v, P x v = Q x v) : cnt lo n P = cnt lo n Q := by
  unfold cnt; exact sumR_congr fun j _ => sumR_congr fun i _ => by rw [h]
/-- Of two that have no place in common. -/
theorem cnt_or {lo : Int} {n : Nat} {P Q : Int → Int → Bool} (h : ∀ x v, ¬ (P x v = true ∧ Q x v = true)) : cnt lo n (fun x v => P x v || Q x v) = cnt lo n P + cnt lo n Q := by
  unfold cnt
  rw [← sumR_add]
  refine sumR_congr fun j _ => ?_
  rw [← sumR_add]
  refine sumR_congr fun i _ => ?_
  have := h (lo + i) (lo + j)
  cases hp : P (lo + i) (lo + j) <;> cases hq : Q (lo + i) (lo + j) <;> simp_all

def hasB (r : Rc) (x v : Int) : Bool := (decide (r.1 ≤ x) && decide (x < r.1 + r.2.2.1)) && (decide (r.2.1 ≤ v) && decide (v < r.2.1 + r.2.2.2))
theorem hasB_iff (r : Rc) (x v : Int) : hasB r x v = true ↔ hasR r x v := by
  unfold hasB hasR
  simp only [Bool.and_eq_true, decide_eq_true_eq]
  omega
def inBox (lo : Int) (n : Nat) (r : Rc) : Prop := lo ≤ r.1 ∧ r.1 + r.2.2.1 ≤ lo + n ∧ lo ≤ r.2.1 ∧ r.2.1 + r.2.2.2 ≤ lo + n
def areaR (r : Rc) : Int := r.2.2.1 * r.2.2.2
theorem cnt_rect {lo : Int} {n : Nat} {r : Rc} (hp : placed r = true) (hb : inBox lo n r) : cnt lo n (hasB r) = areaR r := by
  obtain ⟨h1, h2, h3, h4⟩ := hb
  simp only [placed, Bool.and_eq_true, decide_eq_true_eq] at hp
  unfold cnt areaR
  have hrow : ∀ j : Nat, sumR n (fun i => if hasB r (lo + i) (lo + j) = true then (1 : Int) else 0) = r.2.2.1 * (if r.2.1 ≤ lo + j ∧ lo + j < r.2.1 + r.2.2.2 then 1 else 0) := by
    intro j
    by_cases hc : r.2.1 ≤ lo + j ∧ lo + j < r.2.1 + r.2.2.2
    · rw [if_pos hc, Int.mul_one]
      have e : sumR n (fun i => if hasB r (lo + i) (lo + j) = true then (1 : Int) else 0) = sumR n (fun i => if r.1 ≤ lo + i ∧ lo + i < r.1 + r.2.2.1 then 1 else 0) := by
        refine sumR_congr fun i _ => ?_
        have : (hasB r (lo + i) (lo + j) = true) ↔ (r.1 ≤ lo + i ∧ lo + i < r.1 + r.2.2.1) := by
          rw [hasB_iff]; unfold hasR; omega
        simp only [this]
      rw [e, sumR_ind lo _ _ h1]
      omega
    · rw [if_neg hc, Int.mul_zero]
      have e : sumR n (fun i => if hasB r (lo + i) (lo + j) = true then (1 : Int) else 0) = sumR n (fun _ => 0) := by
        refine sumR_congr fun i _ => ?_
        rw [if_neg]
        rw [hasB_iff]; unfold hasR; omega
      rw [e, sumR_zero]
  rw [sumR_congr fun j _ => hrow j, sumR_mul, sumR_ind lo _ _ h3]
  congr 1
  omega
def inList (l : List Rc) (x v : Int) : Bool := l.any fun r => hasB r x v
theorem inList_iff (l : List Rc) (x v : Int) : inList l x v = true ↔ InRects l x v := by
  unfold inList InRects
  rw [List.any_eq_true]
  exact ⟨fun ⟨r, h1, h2⟩ => ⟨r, h1, (hasB_iff _ _ _).1 h2⟩, fun ⟨r, h1, h2⟩ => ⟨r, h1, (hasB_iff _ _ _).2 h2⟩⟩
def sumArea (l : List Rc) : Int := l.foldr (fun r n => areaR r + n) 0
/-- The areas of rectangles that do not meet are the number of their places. -/
theorem area_cnt {lo : Int} {n : Nat} : ∀ (l : List Rc), l.Pairwise Disj → (∀ r ∈ l, placed r = true) → (∀ r ∈ l, inBox lo n r) → sumArea l = cnt lo n (inList l)
  | [], _, _, _ => by
    have : cnt lo n (inList []) = 0 := by
      unfold cnt
      rw [sumR_congr (g := fun _ => 0) fun j _ => ?_, sumR_zero]
      rw [sumR_congr (g := fun _ => 0) fun i _ => ?_, sumR_zero]
      simp [inList]
    rw [this]; rfl
  | r :: t, hd, hp, hb => by
    have ih := area_cnt t (List.pairwise_cons.1 hd).2 (fun q hq => hp q (List.mem_cons_of_mem _ hq)) (fun q hq => hb q (List.mem_cons_of_mem _ hq))
    have e : ∀ x v, inList (r :: t) x v = (hasB r x v || inList t x v) := fun x v => by simp [inList]
    have hdis : ∀ x v, ¬ (hasB r x v = true ∧ inList t x v = true) := fun x v ⟨h1, h2⟩ => by
      obtain ⟨q, hq, h3⟩ := (inList_iff t x v).1 h2
      exact (List.pairwise_cons.1 hd).1 q hq x v ⟨(hasB_iff _ _ _).1 h1, h3⟩
    rw [cnt_congr e, cnt_or hdis, cnt_rect (hp r (List.mem_cons_self ..)) (hb r (List.mem_cons_self ..)), ← ih]
    rfl
end Go.Proofs.Ytfabknabkcfpjaa.Rg
