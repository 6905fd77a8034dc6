/- Plain mathematics of rectangles on a plane: what each call of layer 1 answers, as Lean functions on integers, and what follows from them. It imports nothing of the program. GeoA GeoB GeoC GeoD -/
import Derived.Test.YtfdgpbdppenhmaaGreatProg
import Derived.WalkKit
import Derived.WalkSpells
import Derived.WalkLawsBesides
import Derived.ProofKit
import Derived.Lib.Hide
import Derived.Outline
import Derived.Laws.Pointers
import Derived.Deep.RegionHeld3
import Derived.Handy
import Derived.KernelRfl
section
namespace Go.Proofs.YtfdgpbdppenhmaaGreat

/-- A rectangle. -/
structure Rc where
  x : Int
  y : Int
  w : Int
  h : Int

def zeroR : Rc := ⟨0, 0, 0, 0⟩
def spanI (v least most : Int) : Int := max (min v most) least
def planeB (s n : Int) : Bool := decide (-32768 ≤ s ∧ s ≤ 32767 ∧ 0 ≤ n ∧ s + n ≤ 32768)
def rightB (x y w h : Int) : Bool := planeB x w && planeB y h
def emptyB (x y w h : Int) : Bool := !rightB x y w h || w == 0 || h == 0
def areaI (x y w h : Int) : Int := if emptyB x y w h = true then 0 else w * h
def hasB (x y w h p q : Int) : Bool := !emptyB x y w h && decide (x ≤ p ∧ p < x + w ∧ y ≤ q ∧ q < y + h)
def betweenR (a b c d : Int) : Rc := if -32768 ≤ a ∧ a < c ∧ c ≤ 32768 ∧ -32768 ≤ b ∧ b < d ∧ d ≤ 32768 then ⟨a, b, c - a, d - b⟩ else zeroR
def interR (x y w h x' y' w' h' : Int) : Rc :=
  if emptyB x y w h = true ∨ emptyB x' y' w' h' = true then zeroR else betweenR (max x x') (max y y') (min (x + w) (x' + w')) (min (y + h) (y' + h'))
def hullR (x y w h x' y' w' h' : Int) : Rc :=
  if emptyB x y w h = true then (if emptyB x' y' w' h' = true then zeroR else ⟨x', y', w', h'⟩)
  else if emptyB x' y' w' h' = true then ⟨x, y, w, h⟩ else betweenR (min x x') (min y y') (max (x + w) (x' + w')) (max (y + h) (y' + h'))
def insideB (x y w h x' y' w' h' : Int) : Bool :=
  emptyB x y w h || (rightB x' y' w' h' && decide (x' ≤ x ∧ y' ≤ y ∧ x + w ≤ x' + w' ∧ y + h ≤ y' + h'))
/-- Where a row begins that is moved. -/
def slideI (s n b : Int) : Int := s + spanI b (-32768 - s) (spanI (32768 - n) (-32768) 32767 - s)
def shiftR (x y w h dx dy : Int) : Rc := if rightB x y w h = true then ⟨slideI x w dx, slideI y h dy, w, h⟩ else zeroR
/-- Where a row begins of which some is taken off at both ends, and how long it is then. -/
def trimS (s n a : Int) : Int := spanI (s + spanI a 0 n) (-32768) 32767
def trimN (n a b : Int) : Int := n - spanI a 0 n - spanI b 0 (n - spanI a 0 n)
def insetR (x y w h l t r b : Int) : Rc := if rightB x y w h = true then ⟨trimS x w l, trimS y h t, trimN w l r, trimN h t b⟩ else zeroR
def keepR (x y w h x' y' w' h' : Int) : Rc :=
  if rightB x y w h = true ∧ rightB x' y' w' h' = true then shiftR x y w h (spanI x x' (x' + w' - w) - x) (spanI y y' (y' + h' - h) - y) else zeroR

theorem planeB_iff (s n : Int) : planeB s n = true ↔ (-32768 ≤ s ∧ s ≤ 32767 ∧ 0 ≤ n ∧ s + n ≤ 32768) := by unfold planeB; exact decide_eq_true_iff
theorem rightB_iff (x y w h : Int) : rightB x y w h = true ↔ (-32768 ≤ x ∧ x ≤ 32767 ∧ 0 ≤ w ∧ x + w ≤ 32768) ∧ (-32768 ≤ y ∧ y ≤ 32767 ∧ 0 ≤ h ∧ y + h ≤ 32768) := by
  unfold rightB; rw [Bool.and_eq_true, planeB_iff, planeB_iff]
theorem emptyB_iff (x y w h : Int) : emptyB x y w h = false ↔ (-32768 ≤ x ∧ x ≤ 32767 ∧ 1 ≤ w ∧ x + w ≤ 32768) ∧ (-32768 ≤ y ∧ y ≤ 32767 ∧ 1 ≤ h ∧ y + h ≤ 32768) := by
  unfold emptyB
  have := rightB_iff x y w h
  cases hr : rightB x y w h
  · simp; rw [hr] at this; simp at this; omega
  · rw [hr] at this; simp at this; simp; omega
theorem spanI_le (v a b : Int) : a ≤ spanI v a b := by unfold spanI; omega
theorem spanI_ge (v a b : Int) (h : a ≤ b) : spanI v a b ≤ b := by unfold spanI; omega
theorem emptyB_of_not_right {x y w h : Int} (hr : rightB x y w h = false) : emptyB x y w h = true := by unfold emptyB; simp [hr]
theorem hasB_of_right {x y w h : Int} (hr : rightB x y w h = true) (p q : Int) : hasB x y w h p q = decide (x ≤ p ∧ p < x + w ∧ y ≤ q ∧ q < y + h) := by
  rw [Bool.eq_iff_iff]; unfold hasB emptyB; rw [hr]; simp; omega
theorem interR_of {x y w h x' y' w' h' : Int} (h1 : emptyB x y w h = false) (h2 : emptyB x' y' w' h' = false) : interR x y w h x' y' w' h' = betweenR (max x x') (max y y') (min (x + w) (x' + w')) (min (y + h) (y' + h')) := by
  unfold interR; simp [h1, h2]
theorem hullR_of {x y w h x' y' w' h' : Int} (h1 : emptyB x y w h = false) (h2 : emptyB x' y' w' h' = false) : hullR x y w h x' y' w' h' = betweenR (min x x') (min y y') (max (x + w) (x' + w')) (max (y + h) (y' + h')) := by
  unfold hullR; simp [h1, h2]
end Go.Proofs.YtfdgpbdppenhmaaGreat
end
section
namespace Go.Proofs.YtfdgpbdppenhmaaGreat
open Go.RowKit

theorem nearest_c (v least most : Int) (w : World) :
    Calls Tryz.prog 160 #[.int .i64 v, .int .i64 least, .int .i64 most] w fun e w' => e = .returned (.int .i64 (spanI v least most)) ∧ w = w' := by
  go_enter Tryz.func160, Tryz.ntmps160
  go_wp2
  all_goals (go_ret; exact ⟨by unfold spanI; congr 2; simp; omega, rfl⟩)
theorem span_c (v least most : Int) (w : World) :
    Calls Tryz.prog 150 #[.int .i64 v, .int .i64 least, .int .i64 most] w fun e w' => e = .returned (.int .i64 (spanI v least most)) ∧ w = w' := by
  go_enter Tryz.func150, Tryz.ntmps150
  go_wp2_with (go_at_call 160; refine (nearest_c _ _ _ _).mono ?_; rintro e w' ⟨rfl, rfl⟩)
  go_ret
  exact ⟨rfl, rfl⟩
theorem clamp_c (v : Int) (w : World) :
    Calls Tryz.prog 132 #[.int .i64 v] w fun e w' => e = .returned (.int .i64 (spanI v (-32768) 32767)) ∧ w = w' := by
  go_enter Tryz.func132, Tryz.ntmps132
  go_wp2_with (go_at_call 150; refine (span_c _ _ _ _).mono ?_; rintro e w' ⟨rfl, rfl⟩)
  go_ret
  exact ⟨rfl, rfl⟩
theorem _root_.Go.RowKit.Below.on {B : Nat} {a w w1 : World} (h : Below w.heap.size w w1) (k : Below B a w) (hB : B ≤ w.heap.size) : Below B a w1 := k.trans (h.mono hB)
theorem ret_bool {a b : Bool} (h : a = b) : Ending.returned (.bool a) = .returned (.bool b) := by rw [h]
theorem ret_int {k : IntKind} {a b : Int} (h : a = b) : Ending.returned (.int k a) = .returned (.int k b) := by rw [h]
theorem bcell {W w1 : World} (hb : Below W.heap.size W w1) : (∀ b o, b < W.heap.size → w1.cell? ⟨b, o, none⟩ = W.cell? ⟨b, o, none⟩) ∧ (∀ b o, b < W.heap.size → w1.frozen? ⟨b, o, none⟩ = W.frozen? ⟨b, o, none⟩) :=
  ⟨fun b o h => hb.cell (p := ⟨b, o, none⟩) h, fun b o h => hb.frozen (p := ⟨b, o, none⟩) h⟩
theorem onPlane_c (s n : Int) (w : World) :
    Calls Tryz.prog 112 #[.int .i64 s, .int .i64 n] w fun e w' => e = .returned (.bool (planeB s n)) ∧ w = w' := by
  by_cases h1 : -32768 ≤ s ∧ s ≤ 32767
  · have hs : spanI s (-32768) 32767 = s := by unfold spanI; omega
    obtain ⟨h1, h2⟩ := h1
    go_enter Tryz.func112, Tryz.ntmps112
    go_wp2_with (go_at_call 132; refine (clamp_c _ _).mono ?_; rintro e w' ⟨rfl, rfl⟩)
    all_goals (go_ret; exact ⟨ret_bool (by rw [Bool.eq_iff_iff, planeB_iff]; simp; omega), rfl⟩)
  · have hs : (s == spanI s (-32768) 32767) = false := by rw [beq_eq_false_iff_ne]; unfold spanI; omega
    go_enter Tryz.func112, Tryz.ntmps112
    go_wp2_with (go_at_call 132; refine (clamp_c _ _).mono ?_; rintro e w' ⟨rfl, rfl⟩)
    go_ret
    exact ⟨ret_bool (by rw [Bool.eq_iff_iff, planeB_iff]; simp; omega), rfl⟩
theorem right_c (x y a b : Int) (w : World) :
    Calls Tryz.prog 81 #[.agg #[.int .i64 x, .int .i64 y, .int .i64 a, .int .i64 b]] w fun e w' => e = .returned (.bool (rightB x y a b)) ∧ Below w.heap.size w w' := by
  cases h1 : planeB x a
  all_goals
    go_enter Tryz.func81, Tryz.ntmps81
    go_wp2_with (go_at_call 112; refine (onPlane_c _ _ _).mono ?_; rintro e w' ⟨rfl, rfl⟩)
    go_ret
    exact ⟨ret_bool (by unfold rightB; simp [h1]), (Below.refl _ _).alloc (Nat.le_refl _) _⟩
theorem rright_c (x y a b : Int) (w : World) :
    Calls Tryz.prog 35 #[.agg #[.int .i64 x, .int .i64 y, .int .i64 a, .int .i64 b]] w fun e w' => e = .returned (.bool (rightB x y a b)) ∧ Below w.heap.size w w' := by
  go_enter Tryz.func35, Tryz.ntmps35
  go_wp2
  all_goals (go_ret; exact ⟨ret_bool (by rw [Bool.eq_iff_iff, rightB_iff]; simp; omega), (Below.refl _ _).alloc (Nat.le_refl _) _⟩)
theorem empty_c (x y a b : Int) (w : World) :
    Calls Tryz.prog 54 #[.agg #[.int .i64 x, .int .i64 y, .int .i64 a, .int .i64 b]] w fun e w' => e = .returned (.bool (emptyB x y a b)) ∧ Below w.heap.size w w' := by
  cases hR : rightB x y a b
  all_goals
    go_enter Tryz.func54, Tryz.ntmps54
    go_wp2_with (go_at_call 81; refine (right_c _ _ _ _ _).mono ?_; rintro e w1 ⟨rfl, hb⟩; obtain ⟨hc, hf⟩ := bcell hb)
    all_goals (go_ret; exact ⟨ret_bool (by rw [Bool.eq_iff_iff]; unfold emptyB; rw [hR]; simp <;> omega), ((Below.refl _ _).alloc (Nat.le_refl _) _).trans (hb.mono (by simp))⟩)
theorem rempty_c (x y a b : Int) (w : World) :
    Calls Tryz.prog 9 #[.agg #[.int .i64 x, .int .i64 y, .int .i64 a, .int .i64 b]] w fun e w' => e = .returned (.bool (emptyB x y a b)) ∧ Below w.heap.size w w' := by
  cases hR : rightB x y a b
  all_goals
    go_enter Tryz.func9, Tryz.ntmps9
    go_wp2_with (go_at_call 35; refine (rright_c _ _ _ _ _).mono ?_; rintro e w1 ⟨rfl, hb⟩; obtain ⟨hc, hf⟩ := bcell hb)
    all_goals (go_ret; exact ⟨ret_bool (by rw [Bool.eq_iff_iff]; unfold emptyB; rw [hR]; simp <;> omega), ((Below.refl _ _).alloc (Nat.le_refl _) _).trans (hb.mono (by simp))⟩)
end Go.Proofs.YtfdgpbdppenhmaaGreat
end
section
namespace Go.Proofs.YtfdgpbdppenhmaaGreat
open Go.RowKit
theorem ret_pt {a b c d : Int} (h1 : a = c) (h2 : b = d) : Ending.returned (.agg #[.int .i64 a, .int .i64 b]) = .returned (.agg #[.int .i64 c, .int .i64 d]) := by rw [h1, h2]
theorem ret_rc {a b c d : Int} {r : Rc} (h : r = ⟨a, b, c, d⟩) : Ending.returned (.agg #[.int .i64 a, .int .i64 b, .int .i64 c, .int .i64 d]) = .returned (.agg #[.int .i64 r.x, .int .i64 r.y, .int .i64 r.w, .int .i64 r.h]) := by rw [h]
theorem least_c (x y : Int) (w : World) : Calls Tryz.prog 113 #[.int .i64 x, .int .i64 y] w fun e w' => e = .returned (.int .i64 (min x y)) ∧ w = w' := by
  go_enter Tryz.func113, Tryz.ntmps113
  go_wp2
  all_goals (go_ret; exact ⟨ret_int (by omega), rfl⟩)
theorem most_c (x y : Int) (w : World) : Calls Tryz.prog 114 #[.int .i64 x, .int .i64 y] w fun e w' => e = .returned (.int .i64 (max x y)) ∧ w = w' := by
  go_enter Tryz.func114, Tryz.ntmps114
  go_wp2
  all_goals (go_ret; exact ⟨ret_int (by omega), rfl⟩)
end Go.Proofs.YtfdgpbdppenhmaaGreat
end
section
namespace Go.Proofs.YtfdgpbdppenhmaaGreat
open Go.RowKit
end Go.Proofs.YtfdgpbdppenhmaaGreat
end
section
namespace Go.Proofs.YtfdgpbdppenhmaaGreat
open Go.RowKit
/-- What a cell holds. -/
def cellOr (w : World) (b o : Nat) : Value := (w.cell? ⟨b, o, none⟩).getD undef
theorem cellOr_of {w : World} {b o : Nat} {v : Value} (h : w.cell? ⟨b, o, none⟩ = some v) : w.cell? ⟨b, o, none⟩ = some (cellOr w b o) := by unfold cellOr; rw [h]; rfl
/-- Two rectangles that lie in blocks n and n + 1, and a third block for what is answered: written out. -/
abbrev TwoS (n : Nat) (w0 : World) (x y a b x' y' a' b' : Int) (w : World) : Prop :=
  (w.cell? ⟨n, 0, none⟩ = some (.int .i64 x) ∧ w.cell? ⟨n, 1, none⟩ = some (.int .i64 y) ∧ w.cell? ⟨n, 2, none⟩ = some (.int .i64 a) ∧ w.cell? ⟨n, 3, none⟩ = some (.int .i64 b)) ∧
  (w.cell? ⟨n + 1, 0, none⟩ = some (.int .i64 x') ∧ w.cell? ⟨n + 1, 1, none⟩ = some (.int .i64 y') ∧ w.cell? ⟨n + 1, 2, none⟩ = some (.int .i64 a') ∧ w.cell? ⟨n + 1, 3, none⟩ = some (.int .i64 b')) ∧
  (w.cell? ⟨n + 1 + 1, 0, none⟩ = some (cellOr w (n + 1 + 1) 0) ∧ w.cell? ⟨n + 1 + 1, 1, none⟩ = some (cellOr w (n + 1 + 1) 1) ∧ w.cell? ⟨n + 1 + 1, 2, none⟩ = some (cellOr w (n + 1 + 1) 2) ∧ w.cell? ⟨n + 1 + 1, 3, none⟩ = some (cellOr w (n + 1 + 1) 3)) ∧
  (w.frozen? ⟨n + 1 + 1, 0, none⟩ = false ∧ w.frozen? ⟨n + 1 + 1, 1, none⟩ = false ∧ w.frozen? ⟨n + 1 + 1, 2, none⟩ = false ∧ w.frozen? ⟨n + 1 + 1, 3, none⟩ = false) ∧
  Below n w0 w ∧ n + 1 + 1 < w.heap.size
/-- The same, under one name. -/
def Two (n : Nat) (w0 : World) (x y a b x' y' a' b' : Int) (w : World) : Prop := TwoS n w0 x y a b x' y' a' b' w
section
variable {n : Nat} {w0 : World} {x y a b x' y' a' b' : Int} {w w1 : World}
theorem two_out (h : Two n w0 x y a b x' y' a' b' w) : TwoS n w0 x y a b x' y' a' b' w := h
theorem two_drew (h : Two n w0 x y a b x' y' a' b' w) : Two n w0 x y a b x' y' a' b' w.drew := by
  obtain ⟨h1, h2, h3, h4, h5, h6⟩ := h
  exact ⟨h1, h2, h3, h4, h5.drew, h6⟩
theorem two_next (hb : Below w.heap.size w w1) (h : Two n w0 x y a b x' y' a' b' w) : Two n w0 x y a b x' y' a' b' w1 := by
  obtain ⟨⟨a1, a2, a3, a4⟩, ⟨b1, b2, b3, b4⟩, ⟨c1, c2, c3, c4⟩, ⟨d1, d2, d3, d4⟩, h5, h6⟩ := h
  obtain ⟨hc, hf⟩ := bcell hb
  have hs := hb.size
  refine ⟨⟨?_, ?_, ?_, ?_⟩, ⟨?_, ?_, ?_, ?_⟩, ⟨cellOr_of ((hc _ _ (by omega)).trans c1), cellOr_of ((hc _ _ (by omega)).trans c2), cellOr_of ((hc _ _ (by omega)).trans c3), cellOr_of ((hc _ _ (by omega)).trans c4)⟩, ⟨?_, ?_, ?_, ?_⟩, h5.trans (hb.mono (by omega)), by omega⟩
  all_goals first | (rw [hc _ _ (by omega)]; assumption) | (rw [hf _ _ (by omega)]; assumption)
theorem two_set (h : Two n w0 x y a b x' y' a' b' w) (o : Nat) (v : Value) : Two n w0 x y a b x' y' a' b' (w.setCell ⟨n + 1 + 1, o, none⟩ v) := by
  obtain ⟨⟨a1, a2, a3, a4⟩, ⟨b1, b2, b3, b4⟩, ⟨c1, c2, c3, c4⟩, ⟨d1, d2, d3, d4⟩, h5, h6⟩ := h
  have hk (o' : Nat) (u : Value) (hu : w.cell? ⟨n + 1 + 1, o', none⟩ = some u) : (w.setCell ⟨n + 1 + 1, o, none⟩ v).cell? ⟨n + 1 + 1, o', none⟩ = some (cellOr (w.setCell ⟨n + 1 + 1, o, none⟩ v) (n + 1 + 1) o') := by
    obtain ⟨u', hu'⟩ := cell?_setCell_some (w := w) (p := ⟨n + 1 + 1, o, none⟩) (x := v) (q := ⟨n + 1 + 1, o', none⟩) (v := u) hu
    exact cellOr_of hu'
  refine ⟨⟨?_, ?_, ?_, ?_⟩, ⟨?_, ?_, ?_, ?_⟩, ⟨hk _ _ c1, hk _ _ c2, hk _ _ c3, hk _ _ c4⟩, ⟨?_, ?_, ?_, ?_⟩, h5.setCell (by simp; omega) _, by simpa using h6⟩
  all_goals (simp [go_sem, *])
theorem two_start (w : World) (x y a b x' y' a' b' : Int) (t t' t'' : TypeId) : Two w.heap.size w x y a b x' y' a' b' (((w.alloc (.cells #[.int .i64 x, .int .i64 y, .int .i64 a, .int .i64 b] t)).alloc (.cells #[.int .i64 x', .int .i64 y', .int .i64 a', .int .i64 b'] t')).alloc (.cells #[.int .i64 0, .int .i64 0, .int .i64 0, .int .i64 0] t'')) := by
  refine ⟨⟨?_, ?_, ?_, ?_⟩, ⟨?_, ?_, ?_, ?_⟩, ⟨cellOr_of (v := .int .i64 0) ?_, cellOr_of (v := .int .i64 0) ?_, cellOr_of (v := .int .i64 0) ?_, cellOr_of (v := .int .i64 0) ?_⟩, ⟨?_, ?_, ?_, ?_⟩, ?_, by simp⟩
  all_goals first | (simp [go_sem]; done) | (repeat' (first | (with_reducible exact Below.refl _ _) | (with_reducible assumption) | (with_reducible refine Below.alloc ?_ ?_ _) | (with_reducible refine Below.drew ?_) | (with_reducible refine Below.setCell ?_ ?_ _) | (with_reducible refine Below.on (by with_reducible assumption) ?_ ?_) | go_size))
end
end Go.Proofs.YtfdgpbdppenhmaaGreat
end
