/- What follows of rectangles: places in what two have in common and around them; order and grouping play no part; what is kept. Plain mathematics. -/
import Derived.Test.YteaeccmlibmmmaaPlain
namespace Go.Proofs.Yteaeccmlibmmmaa

theorem Rc.same {r s : Rc} (h1 : r.x = s.x) (h2 : r.y = s.y) (h3 : r.w = s.w) (h4 : r.h = s.h) : r = s := by
  cases r; cases s; simp at h1 h2 h3 h4; subst h1 h2 h3 h4; rfl
/-- A rectangle with places, on the plane. -/
def Full (r : Rc) : Prop := (-32768 ≤ r.x ∧ r.x ≤ 32767 ∧ 1 ≤ r.w ∧ r.x + r.w ≤ 32768) ∧ (-32768 ≤ r.y ∧ r.y ≤ 32767 ∧ 1 ≤ r.h ∧ r.y + r.h ≤ 32768)
def emp (r : Rc) : Bool := emptyB r.x r.y r.w r.h
def int (r s : Rc) : Rc := interR r.x r.y r.w r.h s.x s.y s.w s.h
def hul (r s : Rc) : Rc := hullR r.x r.y r.w r.h s.x s.y s.w s.h
theorem emp_full {r : Rc} (h : emp r = false) : Full r := (emptyB_iff _ _ _ _).1 h
theorem full_emp {r : Rc} (h : Full r) : emp r = false := (emptyB_iff _ _ _ _).2 h
theorem emp_zero : emp zeroR = true := by rfl
theorem int_emp_left {r s : Rc} (h : emp r = true) : int r s = zeroR := by unfold int interR; exact if_pos (Or.inl h)
theorem int_emp_right {r s : Rc} (h : emp s = true) : int r s = zeroR := by unfold int interR; exact if_pos (Or.inr h)
theorem int_full {r s : Rc} (h : Full r) (k : Full s) :
    ((max r.x s.x < min (r.x + r.w) (s.x + s.w) ∧ max r.y s.y < min (r.y + r.h) (s.y + s.h)) ∧ Full (int r s) ∧ (int r s).x = max r.x s.x ∧ (int r s).y = max r.y s.y ∧ (int r s).w = min (r.x + r.w) (s.x + s.w) - max r.x s.x ∧ (int r s).h = min (r.y + r.h) (s.y + s.h) - max r.y s.y) ∨
    (¬ (max r.x s.x < min (r.x + r.w) (s.x + s.w) ∧ max r.y s.y < min (r.y + r.h) (s.y + s.h)) ∧ int r s = zeroR) := by
  have e : int r s = betweenR (max r.x s.x) (max r.y s.y) (min (r.x + r.w) (s.x + s.w)) (min (r.y + r.h) (s.y + s.h)) := interR_of (full_emp h) (full_emp k)
  obtain ⟨⟨a1, a2, a3, a4⟩, a5, a6, a7, a8⟩ := h
  obtain ⟨⟨b1, b2, b3, b4⟩, b5, b6, b7, b8⟩ := k
  rw [e]
  by_cases hc : max r.x s.x < min (r.x + r.w) (s.x + s.w) ∧ max r.y s.y < min (r.y + r.h) (s.y + s.h)
  · left
    refine ⟨hc, ?_⟩
    unfold betweenR
    rw [if_pos (by omega)]
    exact ⟨⟨by simp only []; omega, by simp only []; omega⟩, rfl, rfl, rfl, rfl⟩
  · right
    refine ⟨hc, ?_⟩
    unfold betweenR
    rw [if_neg (by omega)]
theorem hul_full {r s : Rc} (h : Full r) (k : Full s) :
    Full (hul r s) ∧ (hul r s).x = min r.x s.x ∧ (hul r s).y = min r.y s.y ∧ (hul r s).w = max (r.x + r.w) (s.x + s.w) - min r.x s.x ∧ (hul r s).h = max (r.y + r.h) (s.y + s.h) - min r.y s.y := by
  have e : hul r s = betweenR (min r.x s.x) (min r.y s.y) (max (r.x + r.w) (s.x + s.w)) (max (r.y + r.h) (s.y + s.h)) := hullR_of (full_emp h) (full_emp k)
  obtain ⟨⟨a1, a2, a3, a4⟩, a5, a6, a7, a8⟩ := h
  obtain ⟨⟨b1, b2, b3, b4⟩, b5, b6, b7, b8⟩ := k
  rw [e]
  unfold betweenR
  rw [if_pos (by omega)]
  exact ⟨⟨by simp only []; omega, by simp only []; omega⟩, rfl, rfl, rfl, rfl⟩
theorem hasB_emp {x y w h : Int} (he : emptyB x y w h = true) (p q : Int) : hasB x y w h p q = false := by unfold hasB; simp [he]
theorem hasB_iff (x y w h p q : Int) : hasB x y w h p q = true ↔ (emptyB x y w h = false ∧ x ≤ p ∧ p < x + w ∧ y ≤ q ∧ q < y + h) := by unfold hasB; simp
/-- A place is in what two have in common just if it is in both. -/
theorem has_int (r s : Rc) (p q : Int) : hasB (int r s).x (int r s).y (int r s).w (int r s).h p q = (hasB r.x r.y r.w r.h p q && hasB s.x s.y s.w s.h p q) := by
  cases hr : emp r
  · cases hs : emp s
    · rw [Bool.eq_iff_iff, Bool.and_eq_true, hasB_iff, hasB_iff, hasB_iff]
      have hr' : emptyB r.x r.y r.w r.h = false := hr
      have hs' : emptyB s.x s.y s.w s.h = false := hs
      rcases int_full (emp_full hr) (emp_full hs) with ⟨hc, hf, e1, e2, e3, e4⟩ | ⟨hc, he⟩
      · have hi : emptyB (int r s).x (int r s).y (int r s).w (int r s).h = false := full_emp hf
        refine ⟨fun h => ?_, fun h => ?_⟩
        · obtain ⟨_, g1, g2, g3, g4⟩ := h
          exact ⟨⟨hr', by omega⟩, hs', by omega⟩
        · obtain ⟨⟨_, g1, g2, g3, g4⟩, _, k1, k2, k3, k4⟩ := h
          exact ⟨hi, by omega⟩
      · have hz : emptyB zeroR.x zeroR.y zeroR.w zeroR.h = true := emp_zero
        simp only [he, hz, hr', hs', true_and]
        constructor
        · intro h; exact absurd h.1 (by decide)
        · intro h; omega
    · rw [int_emp_right hs, hasB_emp (show emptyB zeroR.x zeroR.y zeroR.w zeroR.h = true from emp_zero), hasB_emp (show emptyB s.x s.y s.w s.h = true from hs), Bool.and_false]
  · rw [int_emp_left hr, hasB_emp (show emptyB zeroR.x zeroR.y zeroR.w zeroR.h = true from emp_zero), hasB_emp (show emptyB r.x r.y r.w r.h = true from hr), Bool.false_and]
/-- A place of one is in what is around both. -/
theorem has_hul (r s : Rc) (p q : Int) (h : (hasB r.x r.y r.w r.h p q || hasB s.x s.y s.w s.h p q) = true) : hasB (hul r s).x (hul r s).y (hul r s).w (hul r s).h p q = true := by
  cases hr : emp r
  · cases hs : emp s
    · obtain ⟨hf, e1, e2, e3, e4⟩ := hul_full (emp_full hr) (emp_full hs)
      have hi : emptyB (hul r s).x (hul r s).y (hul r s).w (hul r s).h = false := full_emp hf
      rw [Bool.or_eq_true, hasB_iff, hasB_iff] at h
      rw [hasB_iff]
      refine ⟨hi, ?_⟩
      rw [e1, e2, e3, e4]
      omega
    · have hr' : emptyB r.x r.y r.w r.h = false := hr
      have hs' : emptyB s.x s.y s.w s.h = true := hs
      rw [hasB_emp hs', Bool.or_false] at h
      have e : hul r s = r := by unfold hul hullR; simp [hr', hs']
      rw [e]
      exact h
  · have hr' : emptyB r.x r.y r.w r.h = true := hr
    rw [hasB_emp hr', Bool.false_or] at h
    cases hs : emp s
    · have hs' : emptyB s.x s.y s.w s.h = false := hs
      have e : hul r s = s := by unfold hul hullR; simp [hr', hs']
      rw [e]
      exact h
    · rw [hasB_emp (show emptyB s.x s.y s.w s.h = true from hs)] at h
      exact absurd h (by decide)
theorem int_comm (r s : Rc) : int r s = int s r := by
  cases hr : emp r
  · cases hs : emp s
    · rcases int_full (emp_full hr) (emp_full hs) with ⟨hc, _, e1, e2, e3, e4⟩ | ⟨hc, he⟩ <;> rcases int_full (emp_full hs) (emp_full hr) with ⟨kc, _, k1, k2, k3, k4⟩ | ⟨kc, ke⟩
      · exact Rc.same (by omega) (by omega) (by omega) (by omega)
      · omega
      · omega
      · rw [he, ke]
    · rw [int_emp_right hs, int_emp_left hs]
  · rw [int_emp_left hr, int_emp_right hr]
theorem int_b {r s : Rc} (h : Full r) (k : Full s) : int r s = betweenR (max r.x s.x) (max r.y s.y) (min (r.x + r.w) (s.x + s.w)) (min (r.y + r.h) (s.y + s.h)) := interR_of (full_emp h) (full_emp k)
theorem low_mono {a b c d e f : Int} (h : max a (max b c) < min d (min e f)) : max a b < min d e ∧ max b c < min e f ∧ max (max a b) c < min (min d e) f := by omega
theorem betw_none {a b c d : Int} (h : ¬ (a < c ∧ b < d)) : betweenR a b c d = zeroR := by
  unfold betweenR
  rw [if_neg (by omega)]
theorem int_left {r s t : Rc} (fr : Full r) (fs : Full s) (ft : Full t) : int (int r s) t = betweenR (max r.x (max s.x t.x)) (max r.y (max s.y t.y)) (min (r.x + r.w) (min (s.x + s.w) (t.x + t.w))) (min (r.y + r.h) (min (s.y + s.h) (t.y + t.h))) := by
  rcases int_full fr fs with ⟨_, hf, e1, e2, e3, e4⟩ | ⟨hc, he⟩
  · rw [int_b hf ft, e1, e2, e3, e4]
    have q1 : max r.x s.x + (min (r.x + r.w) (s.x + s.w) - max r.x s.x) = min (r.x + r.w) (s.x + s.w) := by omega
    have q2 : max r.y s.y + (min (r.y + r.h) (s.y + s.h) - max r.y s.y) = min (r.y + r.h) (s.y + s.h) := by omega
    rw [q1, q2, Int.max_assoc, Int.max_assoc, Int.min_assoc, Int.min_assoc]
  · rw [he, int_emp_left emp_zero]
    refine (betw_none fun h => hc ?_).symm
    exact ⟨(low_mono h.1).1, (low_mono h.2).1⟩
theorem int_right {r s t : Rc} (fr : Full r) (fs : Full s) (ft : Full t) : int r (int s t) = betweenR (max r.x (max s.x t.x)) (max r.y (max s.y t.y)) (min (r.x + r.w) (min (s.x + s.w) (t.x + t.w))) (min (r.y + r.h) (min (s.y + s.h) (t.y + t.h))) := by
  rcases int_full fs ft with ⟨_, hf, e1, e2, e3, e4⟩ | ⟨hc, he⟩
  · rw [int_b fr hf, e1, e2, e3, e4]
    have q1 : max s.x t.x + (min (s.x + s.w) (t.x + t.w) - max s.x t.x) = min (s.x + s.w) (t.x + t.w) := by omega
    have q2 : max s.y t.y + (min (s.y + s.h) (t.y + t.h) - max s.y t.y) = min (s.y + s.h) (t.y + t.h) := by omega
    rw [q1, q2]
  · rw [he, int_emp_right emp_zero]
    refine (betw_none fun h => hc ?_).symm
    exact ⟨(low_mono h.1).2.1, (low_mono h.2).2.1⟩
theorem int_assoc (r s t : Rc) : int (int r s) t = int r (int s t) := by
  cases hr : emp r
  · cases hs : emp s
    · cases ht : emp t
      · rw [int_left (emp_full hr) (emp_full hs) (emp_full ht), int_right (emp_full hr) (emp_full hs) (emp_full ht)]
      · rw [int_emp_right ht, int_emp_right ht, int_emp_right emp_zero]
    · rw [int_emp_right hs, int_emp_left hs, int_emp_left emp_zero, int_emp_right emp_zero]
  · rw [int_emp_left hr, int_emp_left emp_zero, int_emp_left hr]
theorem hul_comm {r s : Rc} (h : Full r) (k : Full s) : hul r s = hul s r := by
  obtain ⟨_, e1, e2, e3, e4⟩ := hul_full h k
  obtain ⟨_, k1, k2, k3, k4⟩ := hul_full k h
  exact Rc.same (by omega) (by omega) (by omega) (by omega)
theorem hul_axis (a b c d e f : Int) : max (min a b + (max d e - min a b)) f - min (min a b) c = max d (min b c + (max e f - min b c)) - min a (min b c) := by omega
theorem hul_assoc {r s t : Rc} (h : Full r) (k : Full s) (l : Full t) : hul (hul r s) t = hul r (hul s t) := by
  obtain ⟨f1, e1, e2, e3, e4⟩ := hul_full h k
  obtain ⟨f2, k1, k2, k3, k4⟩ := hul_full k l
  obtain ⟨_, l1, l2, l3, l4⟩ := hul_full f1 l
  obtain ⟨_, m1, m2, m3, m4⟩ := hul_full h f2
  refine Rc.same ?_ ?_ ?_ ?_
  · rw [l1, m1, e1, k1, Int.min_assoc]
  · rw [l2, m2, e2, k2, Int.min_assoc]
  · rw [l3, m3, e1, k1, e3, k3]
    exact hul_axis _ _ _ _ _ _
  · rw [l4, m4, e2, k2, e4, k4]
    exact hul_axis _ _ _ _ _ _
theorem full_right {r : Rc} (h : Full r) : rightB r.x r.y r.w r.h = true := by
  obtain ⟨⟨a1, a2, a3, a4⟩, a5, a6, a7, a8⟩ := h
  rw [rightB_iff]
  omega
theorem inside_hul {r s : Rc} (h : Full r) (k : Full s) : insideB r.x r.y r.w r.h (hul r s).x (hul r s).y (hul r s).w (hul r s).h = true := by
  obtain ⟨f1, e1, e2, e3, e4⟩ := hul_full h k
  have fr := full_right f1
  obtain ⟨⟨a1, a2, a3, a4⟩, a5, a6, a7, a8⟩ := h
  unfold insideB
  rw [fr]
  rw [e1, e2, e3, e4]
  simp
  right
  omega
theorem inside_int {r s : Rc} (h : Full r) (k : Full s) : insideB (int r s).x (int r s).y (int r s).w (int r s).h r.x r.y r.w r.h = true := by
  have fr := full_right h
  unfold insideB
  rw [fr]
  rcases int_full h k with ⟨hc, hf, e1, e2, e3, e4⟩ | ⟨hc, he⟩
  · rw [e1, e2, e3, e4]
    simp
    right
    omega
  · rw [he, show emptyB zeroR.x zeroR.y zeroR.w zeroR.h = true from emp_zero]
    rfl
end Go.Proofs.Yteaeccmlibmmmaa
