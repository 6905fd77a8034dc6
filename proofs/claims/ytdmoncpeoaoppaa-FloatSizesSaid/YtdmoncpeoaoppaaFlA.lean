import Derived.Test.YtdmoncpeoaoppaaSzB
/- Plain mathematics of clients that stand free: where they come to be, are moved to, and what is around them. It imports nothing of the program. -/
namespace Go.Proofs.Ytdmoncpeoaoppaa.Fl
open Sz
/-- The rectangle of a size at a place, as near as the plane lets it. -/
def laidR (x y a b : Int) : Rc := shiftR (-32768) (-32768) a b (x + 32768) (y + 32768)
def midI (s n a : Int) : Int := s + (n - a) / 2
def workR (r : Rc) : Rc := if emptyB r.x r.y r.w r.h = true then ⟨0, 0, 1, 1⟩ else r
def ownR (o w : Rc) : Rc := if emptyB o.x o.y o.w o.h = true then w else o
def keepRR (r w : Rc) : Rc := keepR r.x r.y r.w r.h w.x w.y w.w w.h
def startR (o w : Rc) (a b : Int) : Rc := keepRR (laidR (midI o.x o.w a) (midI o.y o.h b) a b) w
def holdI (s n t m : Int) : Int := spanI s (t - n + min 16 (min n m)) (t + m - min 16 (min n m))
def shiftRR (r : Rc) (dx dy : Int) : Rc := shiftR r.x r.y r.w r.h dx dy
def emptyR (r : Rc) : Bool := emptyB r.x r.y r.w r.h
def movedR (s w : Rc) : Rc := laidR (holdI s.x s.w w.x w.w) (holdI s.y s.h w.y w.h) s.w s.h
def moveR (r w : Rc) (dx dy : Int) : Rc := if emptyR (shiftRR r dx dy) = true ∨ emptyR w = true then shiftRR r dx dy else movedR (shiftRR r dx dy) w
def styleB (g b t : Int) : Bool := decide ((0 ≤ g ∧ g ≤ 100) ∧ (0 ≤ b ∧ b ≤ 100) ∧ (0 ≤ t ∧ t ≤ 100))
def aroundR (r : Rc) (b t : Int) : Rc := ⟨r.x - b, r.y - b - t, r.w + b + b, r.h + b + b + t⟩
def rightR (r : Rc) : Bool := rightB r.x r.y r.w r.h
def hasFrame (r : Rc) (g b t : Int) : Bool := rightR r && styleB g b t && rightR (aroundR r b t)
def frameR (r : Rc) (g b t : Int) : Rc := if hasFrame r g b t = true then aroundR r b t else zeroR
def innerR (r : Rc) (g b t : Int) : Rc := if styleB g b t = true then insetR r.x r.y r.w r.h b (b + t) b b else zeroR
def sizedR (r : Rc) (a b : Int) : Rc := laidR r.x r.y a b
theorem Rc.same {r s : Rc} (h1 : r.x = s.x) (h2 : r.y = s.y) (h3 : r.w = s.w) (h4 : r.h = s.h) : r = s := by cases r; cases s; simp only [] at *; subst h1 h2 h3 h4; rfl
theorem rightR_iff (r : Rc) : rightR r = true ↔ (-32768 ≤ r.x ∧ r.x ≤ 32767 ∧ 0 ≤ r.w ∧ r.x + r.w ≤ 32768) ∧ (-32768 ≤ r.y ∧ r.y ≤ 32767 ∧ 0 ≤ r.h ∧ r.y + r.h ≤ 32768) := rightB_iff _ _ _ _
theorem emptyR_iff (r : Rc) : emptyR r = false ↔ (-32768 ≤ r.x ∧ r.x ≤ 32767 ∧ 1 ≤ r.w ∧ r.x + r.w ≤ 32768) ∧ (-32768 ≤ r.y ∧ r.y ≤ 32767 ∧ 1 ≤ r.h ∧ r.y + r.h ≤ 32768) := emptyB_iff _ _ _ _
theorem size_right {a b : Int} (ha : 0 ≤ a ∧ a ≤ 65536) (hb : 0 ≤ b ∧ b ≤ 65536) : rightB (-32768) (-32768) a b = true := (rightB_iff _ _ _ _).2 ⟨by omega, by omega⟩
theorem laid_in {x y a b : Int} (ha : 0 ≤ a ∧ a ≤ 65536) (hb : 0 ≤ b ∧ b ≤ 65536) : laidR x y a b = ⟨slideI (-32768) a (x + 32768), slideI (-32768) b (y + 32768), a, b⟩ := by
  unfold laidR shiftR; rw [if_pos (size_right ha hb)]
/-- Where a row begins that is put on the plane. -/
theorem slide_low {n x : Int} (h : 1 ≤ n ∧ n ≤ 65536) : slideI (-32768) n (x + 32768) = spanI x (-32768) (32768 - n) := by
  unfold slideI spanI; omega
theorem slide_in {s n d : Int} (h1 : -32768 ≤ s) (h2 : s ≤ 32767) (h3 : 0 ≤ n) (h4 : s + n ≤ 32768) : -32768 ≤ slideI s n d ∧ slideI s n d ≤ 32767 ∧ slideI s n d + n ≤ 32768 := by
  unfold slideI spanI; omega
theorem shift_right {r : Rc} (h : rightR r = true) (dx dy : Int) : rightR (shiftRR r dx dy) = true ∧ (shiftRR r dx dy).w = r.w ∧ (shiftRR r dx dy).h = r.h := by
  obtain ⟨⟨h1, h2, h3, h4⟩, h5, h6, h7, h8⟩ := (rightR_iff r).1 h
  have e : shiftRR r dx dy = ⟨slideI r.x r.w dx, slideI r.y r.h dy, r.w, r.h⟩ := by unfold shiftRR shiftR; exact if_pos h
  have a := slide_in (d := dx) h1 h2 h3 h4
  have b := slide_in (d := dy) h5 h6 h7 h8
  rw [e]
  exact ⟨(rightR_iff _).2 ⟨⟨a.1, a.2.1, h3, a.2.2⟩, ⟨b.1, b.2.1, h7, b.2.2⟩⟩, rfl, rfl⟩
theorem laid_right {x y a b : Int} (ha : 0 ≤ a ∧ a ≤ 65536) (hb : 0 ≤ b ∧ b ≤ 65536) : rightR (laidR x y a b) = true ∧ (laidR x y a b).w = a ∧ (laidR x y a b).h = b :=
  shift_right (r := ⟨-32768, -32768, a, b⟩) (size_right ha hb) _ _
theorem shift_empty (r : Rc) (dx dy : Int) : emptyR (shiftRR r dx dy) = emptyR r := by
  cases h : rightR r
  · have e : shiftRR r dx dy = zeroR := by unfold shiftRR shiftR; exact if_neg (by rw [show rightB r.x r.y r.w r.h = false from h]; exact Bool.false_ne_true)
    rw [e]
    rw [show emptyR r = true from emptyB_of_not_right h]; decide
  · obtain ⟨k, k2, k3⟩ := shift_right h dx dy
    unfold emptyR emptyB
    rw [show rightB (shiftRR r dx dy).x (shiftRR r dx dy).y (shiftRR r dx dy).w (shiftRR r dx dy).h = true from k, show rightB r.x r.y r.w r.h = true from h, k2, k3]
theorem work_full (r : Rc) : emptyR (workR r) = false := by
  unfold workR; split
  · decide
  · next h => exact Bool.not_eq_true _ ▸ h
theorem own_full {o w : Rc} (h : emptyR w = false) : emptyR (ownR o w) = false := by
  unfold ownR; split
  · exact h
  · next k => exact Bool.not_eq_true _ ▸ k
theorem right_of_full {r : Rc} (h : emptyR r = false) : rightR r = true := by
  have := (emptyR_iff r).1 h; exact (rightR_iff r).2 (by omega)
theorem keep_right {r w : Rc} (h : rightR r = true) (k : rightR w = true) : rightR (keepRR r w) = true ∧ (keepRR r w).w = r.w ∧ (keepRR r w).h = r.h := by
  have e : keepRR r w = shiftRR r (spanI r.x w.x (w.x + w.w - r.w) - r.x) (spanI r.y w.y (w.y + w.h - r.h) - r.y) := by unfold keepRR keepR; exact if_pos ⟨h, k⟩
  rw [e]; exact shift_right h _ _
/-- Where a client comes to be it is right, and of its size. -/
theorem start_right {o w : Rc} {a b : Int} (hw : emptyR w = false) (ha : 1 ≤ a ∧ a ≤ 65535) (hb : 1 ≤ b ∧ b ≤ 65535) : rightR (startR o w a b) = true ∧ (startR o w a b).w = a ∧ (startR o w a b).h = b := by
  obtain ⟨k1, k2, k3⟩ := laid_right (x := midI o.x o.w a) (y := midI o.y o.h b) (a := a) (b := b) (by omega) (by omega)
  obtain ⟨l1, l2, l3⟩ := keep_right k1 (right_of_full hw)
  exact ⟨l1, l2.trans k2, l3.trans k3⟩
/-- What is behind a frame's edges is the client again. -/
theorem inner_frame {r : Rc} {g b t : Int} (h : hasFrame r g b t = true) : innerR (frameR r g b t) g b t = r := by
  unfold frameR; rw [if_pos h]
  unfold hasFrame at h
  rw [Bool.and_eq_true, Bool.and_eq_true] at h
  obtain ⟨⟨h1, h2⟩, h3⟩ := h
  unfold innerR; rw [if_pos h2]
  have h3' : rightB (aroundR r b t).x (aroundR r b t).y (aroundR r b t).w (aroundR r b t).h = true := h3
  unfold insetR; rw [if_pos h3']
  unfold styleB at h2; rw [decide_eq_true_iff] at h2
  rw [rightR_iff] at h1
  unfold aroundR
  refine Rc.same ?_ ?_ ?_ ?_ <;> simp only [] <;> (first | unfold trimS | unfold trimN) <;> unfold spanI <;> omega
/-- How much of a row is to be seen behind a move. -/
theorem hold_grip {s n t m : Int} (hn : 1 ≤ n) (hm : 1 ≤ m) : max (holdI s n t m) t < min (holdI s n t m + n) (t + m) ∧ min 16 (min n m) ≤ min (holdI s n t m + n) (t + m) - max (holdI s n t m) t := by
  unfold holdI spanI; omega
theorem seen_grip {s w : Rc} (hs : emptyR s = false) (hw : emptyR w = false) :
    rightR (movedR s w) = true ∧ (movedR s w).w = s.w ∧ (movedR s w).h = s.h ∧
    (-32768 < (movedR s w).x → -32768 < (movedR s w).y → (movedR s w).x ≤ 32767 - s.w → (movedR s w).y ≤ 32767 - s.h →
      min 16 (min s.w w.w) ≤ (interR (movedR s w).x (movedR s w).y (movedR s w).w (movedR s w).h w.x w.y w.w w.h).w ∧ min 16 (min s.h w.h) ≤ (interR (movedR s w).x (movedR s w).y (movedR s w).w (movedR s w).h w.x w.y w.w w.h).h) := by
  obtain ⟨⟨a1, a2, a3, a4⟩, b1, b2, b3, b4⟩ := (emptyR_iff s).1 hs
  obtain ⟨⟨c1, c2, c3, c4⟩, d1, d2, d3, d4⟩ := (emptyR_iff w).1 hw
  have g1 := hold_grip (s := s.x) (t := w.x) a3 c3
  have g2 := hold_grip (s := s.y) (t := w.y) b3 d3
  have e : movedR s w = ⟨spanI (holdI s.x s.w w.x w.w) (-32768) (32768 - s.w), spanI (holdI s.y s.h w.y w.h) (-32768) (32768 - s.h), s.w, s.h⟩ := by
    unfold movedR; rw [laid_in (by omega) (by omega), slide_low (by omega), slide_low (by omega)]
  obtain ⟨k1, k2, k3⟩ := laid_right (x := holdI s.x s.w w.x w.w) (y := holdI s.y s.h w.y w.h) (a := s.w) (b := s.h) (by omega) (by omega)
  refine ⟨k1, k2, k3, ?_⟩
  rw [e]
  generalize holdI s.x s.w w.x w.w = p at *
  generalize holdI s.y s.h w.y w.h = q at *
  clear e k1 k2 k3
  simp only []
  intro h1 h2 h3 h4
  have ep : spanI p (-32768) (32768 - s.w) = p := by unfold spanI at h1 h3 ⊢; omega
  have eq : spanI q (-32768) (32768 - s.h) = q := by unfold spanI at h2 h4 ⊢; omega
  have b1 : -32768 ≤ p ∧ p + s.w ≤ 32768 := by rw [ep] at h1 h3; omega
  have b2 : -32768 ≤ q ∧ q + s.h ≤ 32768 := by rw [eq] at h2 h4; omega
  clear h1 h2 h3 h4
  rw [ep, eq]
  rw [interR_of ((emptyB_iff _ _ _ _).2 (by omega)) hw]
  unfold betweenR
  rw [if_pos (by omega)]
  exact ⟨g1.2, g2.2⟩
theorem fit_b {n : Hn} {x t a b : Int} (hb : Bd n) (k : FitP n x t a b) : (1 ≤ a ∧ a ≤ 65535) ∧ (1 ≤ b ∧ b ≤ 65535) := by
  have hg := k.good
  have h1 := wide_b hb
  have h2 := tall_b hb
  obtain ⟨⟨p1, p2, -⟩, ⟨q1, q2, -⟩, -⟩ := hg
  omega
end Go.Proofs.Ytdmoncpeoaoppaa.Fl
