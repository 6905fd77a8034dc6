/- Plain mathematics of rectangles on a plane: what each call of layer 1 answers, as Lean functions on integers, and what follows from them. It imports nothing of the program. -/
namespace Go.Proofs.Ytgioeijdgoogkaa

/-- A rectangle. -/
structure Rc where
  x : Int
  y : Int
  w : Int
  h : Int

def zeroR : Rc := ⟨0, 0, 0, 0⟩
def spanI (v least most : Int) : Int := max (min v most) least
def planeB (s n : Int) : Bool := decide (-32768 ≤ s ∧ s ≤ 32767 ∧ 0 ≤ n ∧ s + n ≤ 32768)
def rightB (x y w h : Int) : Bool := planeB x w && planeB y h
def emptyB (x y w h : Int) : Bool := !rightB x y w h || w == 0 || h == 0
def areaI (x y w h : Int) : Int := if emptyB x y w h = true then 0 else w * h
def hasB (x y w h p q : Int) : Bool := !emptyB x y w h && decide (x ≤ p ∧ p < x + w ∧ y ≤ q ∧ q < y + h)
def betweenR (a b c d : Int) : Rc := if -32768 ≤ a ∧ a < c ∧ c ≤ 32768 ∧ -32768 ≤ b ∧ b < d ∧ d ≤ 32768 then ⟨a, b, c - a, d - b⟩ else zeroR
def interR (x y w h x' y' w' h' : Int) : Rc :=
  if emptyB x y w h = true ∨ emptyB x' y' w' h' = true then zeroR else betweenR (max x x') (max y y') (min (x + w) (x' + w')) (min (y + h) (y' + h'))
def hullR (x y w h x' y' w' h' : Int) : Rc :=
  if emptyB x y w h = true then (if emptyB x' y' w' h' = true then zeroR else ⟨x', y', w', h'⟩)
  else if emptyB x' y' w' h' = true then ⟨x, y, w, h⟩ else betweenR (min x x') (min y y') (max (x + w) (x' + w')) (max (y + h) (y' + h'))
def insideB (x y w h x' y' w' h' : Int) : Bool :=
  emptyB x y w h || (rightB x' y' w' h' && decide (x' ≤ x ∧ y' ≤ y ∧ x + w ≤ x' + w' ∧ y + h ≤ y' + h'))
/-- Where a row begins that is moved. -/
def slideI (s n b : Int) : Int := s + spanI b (-32768 - s) (spanI (32768 - n) (-32768) 32767 - s)
def shiftR (x y w h dx dy : Int) : Rc := if rightB x y w h = true then ⟨slideI x w dx, slideI y h dy, w, h⟩ else zeroR
/-- Where a row begins of which some is taken off at both ends, and how long it is then. -/
def trimS (s n a : Int) : Int := spanI (s + spanI a 0 n) (-32768) 32767
def trimN (n a b : Int) : Int := n - spanI a 0 n - spanI b 0 (n - spanI a 0 n)
def insetR (x y w h l t r b : Int) : Rc := if rightB x y w h = true then ⟨trimS x w l, trimS y h t, trimN w l r, trimN h t b⟩ else zeroR
def keepR (x y w h x' y' w' h' : Int) : Rc :=
  if rightB x y w h = true ∧ rightB x' y' w' h' = true then shiftR x y w h (spanI x x' (x' + w' - w) - x) (spanI y y' (y' + h' - h) - y) else zeroR

theorem planeB_iff (s n : Int) : planeB s n = true ↔ (-32768 ≤ s ∧ s ≤ 32767 ∧ 0 ≤ n ∧ s + n ≤ 32768) := by unfold planeB; exact decide_eq_true_iff
theorem rightB_iff (x y w h : Int) : rightB x y w h = true ↔ (-32768 ≤ x ∧ x ≤ 32767 ∧ 0 ≤ w ∧ x + w ≤ 32768) ∧ (-32768 ≤ y ∧ y ≤ 32767 ∧ 0 ≤ h ∧ y + h ≤ 32768) := by
  unfold rightB; rw [Bool.and_eq_true, planeB_iff, planeB_iff]
theorem emptyB_iff (x y w h : Int) : emptyB x y w h = false ↔ (-32768 ≤ x ∧ x ≤ 32767 ∧ 1 ≤ w ∧ x + w ≤ 32768) ∧ (-32768 ≤ y ∧ y ≤ 32767 ∧ 1 ≤ h ∧ y + h ≤ 32768) := by
  unfold emptyB
  have := rightB_iff x y w h
  cases hr : rightB x y w h
  · simp; rw [hr] at this; simp at this; omega
  · rw [hr] at this; simp at this; simp; omega
theorem spanI_le (v a b : Int) : a ≤ spanI v a b := by unfold spanI; omega
theorem spanI_ge (v a b : Int) (h : a ≤ b) : spanI v a b ≤ b := by unfold spanI; omega
theorem emptyB_of_not_right {x y w h : Int} (hr : rightB x y w h = false) : emptyB x y w h = true := by unfold emptyB; simp [hr]
theorem hasB_of_right {x y w h : Int} (hr : rightB x y w h = true) (p q : Int) : hasB x y w h p q = decide (x ≤ p ∧ p < x + w ∧ y ≤ q ∧ q < y + h) := by
  rw [Bool.eq_iff_iff]; unfold hasB emptyB; rw [hr]; simp; omega
theorem interR_of {x y w h x' y' w' h' : Int} (h1 : emptyB x y w h = false) (h2 : emptyB x' y' w' h' = false) : interR x y w h x' y' w' h' = betweenR (max x x') (max y y') (min (x + w) (x' + w')) (min (y + h) (y' + h')) := by
  unfold interR; simp [h1, h2]
theorem hullR_of {x y w h x' y' w' h' : Int} (h1 : emptyB x y w h = false) (h2 : emptyB x' y' w' h' = false) : hullR x y w h x' y' w' h' = betweenR (min x x') (min y y') (max (x + w) (x' + w')) (max (y + h) (y' + h')) := by
  unfold hullR; simp [h1, h2]
end Go.Proofs.Ytgioeijdgoogkaa
