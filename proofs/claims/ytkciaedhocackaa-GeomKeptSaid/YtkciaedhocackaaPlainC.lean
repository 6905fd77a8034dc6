/- What is kept: of its own size, inside where it fits, kept once for all; what lay inside stays. Plain mathematics. -/
import Derived.Test.YtkciaedhocackaaPlainB
namespace Go.Proofs.Ytkciaedhocackaa
def keepI (x w u v : Int) : Int := slideI x w (spanI x u (u + v - w) - x)
theorem keepI_eq {x w u v : Int} (h1 : -32768 ≤ x) (h2 : x ≤ 32767) (h3 : 1 ≤ w) (h4 : x + w ≤ 32768) (k1 : -32768 ≤ u) (k2 : u ≤ 32767) (k4 : u + v ≤ 32768) :
    keepI x w u v = min (max (min x (u + v - w)) u) (32768 - w) := by
  unfold keepI slideI
  have e : spanI (32768 - w) (-32768) 32767 = 32768 - w := by unfold spanI; omega
  rw [e]
  unfold spanI
  omega
theorem keep_axis {x w u v : Int} (h1 : -32768 ≤ x) (h2 : x ≤ 32767) (h3 : 1 ≤ w) (h4 : x + w ≤ 32768) (k1 : -32768 ≤ u) (k2 : u ≤ 32767) (_k3 : 1 ≤ v) (k4 : u + v ≤ 32768) :
    -32768 ≤ keepI x w u v ∧ keepI x w u v ≤ 32767 ∧ keepI x w u v + w ≤ 32768 ∧ keepI (keepI x w u v) w u v = keepI x w u v ∧ (u ≤ x → x + w ≤ u + v → keepI x w u v = x) ∧ (w ≤ v → u ≤ keepI x w u v ∧ keepI x w u v + w ≤ u + v) := by
  have e := keepI_eq h1 h2 h3 h4 k1 k2 k4
  have g1 : -32768 ≤ keepI x w u v := by rw [e]; omega
  have g2 : keepI x w u v ≤ 32767 := by rw [e]; omega
  have g3 : keepI x w u v + w ≤ 32768 := by rw [e]; omega
  have e2 := keepI_eq g1 g2 h3 g3 k1 k2 k4
  refine ⟨g1, g2, g3, ?_, ?_, ?_⟩
  · rw [e2]
    rw [e]
    omega
  · intro a b; rw [e]; omega
  · intro a; rw [e]; omega
def kep (r s : Rc) : Rc := keepR r.x r.y r.w r.h s.x s.y s.w s.h
theorem kep_eq {r s : Rc} (h : Full r) (k : Full s) : kep r s = ⟨keepI r.x r.w s.x s.w, keepI r.y r.h s.y s.h, r.w, r.h⟩ := by
  have e1 := full_right h
  have e2 := full_right k
  unfold kep keepR
  rw [if_pos ⟨e1, e2⟩]
  unfold shiftR
  rw [if_pos e1]
  rfl
/-- All that is said of what is kept. -/
theorem kep_all {r s : Rc} (h : Full r) (k : Full s) :
    Full (kep r s) ∧ (kep r s).w = r.w ∧ (kep r s).h = r.h ∧ kep (kep r s) s = kep r s ∧
    (insideB r.x r.y r.w r.h s.x s.y s.w s.h = true → kep r s = r) ∧
    (r.w ≤ s.w → r.h ≤ s.h → insideB (kep r s).x (kep r s).y (kep r s).w (kep r s).h s.x s.y s.w s.h = true) := by
  have e := kep_eq h k
  have hh := h
  have kk := k
  obtain ⟨⟨a1, a2, a3, a4⟩, a5, a6, a7, a8⟩ := h
  obtain ⟨⟨b1, b2, b3, b4⟩, b5, b6, b7, b8⟩ := k
  obtain ⟨x1, x2, x3, x4, x5, x6⟩ := keep_axis a1 a2 a3 a4 b1 b2 b3 b4
  obtain ⟨y1, y2, y3, y4, y5, y6⟩ := keep_axis a5 a6 a7 a8 b5 b6 b7 b8
  have f : Full (kep r s) := by rw [e]; exact ⟨⟨x1, x2, a3, x3⟩, y1, y2, a7, y3⟩
  refine ⟨f, by rw [e], by rw [e], ?_, ?_, ?_⟩
  · rw [kep_eq f kk, e]
    simp only [x4, y4]
  · intro hi
    unfold insideB at hi
    rw [show emptyB r.x r.y r.w r.h = false from full_emp hh, full_right kk] at hi
    simp at hi
    rw [e, x5 (by omega) (by omega), y5 (by omega) (by omega)]
  · intro c1 c2
    have q1 := x6 c1
    have q2 := y6 c2
    unfold insideB
    rw [show emptyB (kep r s).x (kep r s).y (kep r s).w (kep r s).h = false from full_emp f, full_right kk, e]
    simp
    omega
end Go.Proofs.Ytkciaedhocackaa
