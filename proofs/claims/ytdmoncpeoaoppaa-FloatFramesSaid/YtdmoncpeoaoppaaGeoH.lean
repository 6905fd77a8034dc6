import Derived.Test.YtdmoncpeoaoppaaGeoF
import Derived.Deep.RegionWith
namespace Go.Proofs.Ytdmoncpeoaoppaa
open Go.RowKit
/-- Two rectangles that lie in blocks n and n + 1. -/
abbrev BiS (n : Nat) (w0 : World) (x y a b x' y' a' b' : Int) (w : World) : Prop :=
  (w.cell? ⟨n, 0, none⟩ = some (.int .i64 x) ∧ w.cell? ⟨n, 1, none⟩ = some (.int .i64 y) ∧ w.cell? ⟨n, 2, none⟩ = some (.int .i64 a) ∧ w.cell? ⟨n, 3, none⟩ = some (.int .i64 b)) ∧
  (w.cell? ⟨n + 1, 0, none⟩ = some (.int .i64 x') ∧ w.cell? ⟨n + 1, 1, none⟩ = some (.int .i64 y') ∧ w.cell? ⟨n + 1, 2, none⟩ = some (.int .i64 a') ∧ w.cell? ⟨n + 1, 3, none⟩ = some (.int .i64 b')) ∧
  Below n w0 w ∧ n + 1 < w.heap.size
def Bi (n : Nat) (w0 : World) (x y a b x' y' a' b' : Int) (w : World) : Prop := BiS n w0 x y a b x' y' a' b' w
section
variable {n : Nat} {w0 : World} {x y a b x' y' a' b' : Int} {w w1 : World}
theorem bi_out (h : Bi n w0 x y a b x' y' a' b' w) : BiS n w0 x y a b x' y' a' b' w := h
theorem bi_drew (h : Bi n w0 x y a b x' y' a' b' w) : Bi n w0 x y a b x' y' a' b' w.drew := by
  obtain ⟨h1, h2, h5, h6⟩ := h
  exact ⟨h1, h2, h5.drew, h6⟩
theorem bi_next (hb : Below w.heap.size w w1) (h : Bi n w0 x y a b x' y' a' b' w) : Bi n w0 x y a b x' y' a' b' w1 := by
  obtain ⟨⟨a1, a2, a3, a4⟩, ⟨b1, b2, b3, b4⟩, h5, h6⟩ := h
  obtain ⟨hc, hf⟩ := bcell hb
  have hs := hb.size
  refine ⟨⟨?_, ?_, ?_, ?_⟩, ⟨?_, ?_, ?_, ?_⟩, h5.trans (hb.mono (by omega)), by omega⟩
  all_goals (rw [hc _ _ (by omega)]; assumption)
theorem bi_start (w : World) (x y a b x' y' a' b' : Int) (t t' : TypeId) : Bi w.heap.size w x y a b x' y' a' b' ((w.alloc (.cells #[.int .i64 x, .int .i64 y, .int .i64 a, .int .i64 b] t)).alloc (.cells #[.int .i64 x', .int .i64 y', .int .i64 a', .int .i64 b'] t')) := by
  refine ⟨⟨?_, ?_, ?_, ?_⟩, ⟨?_, ?_, ?_, ?_⟩, ?_, by simp⟩
  all_goals first | (simp [go_sem]; done) | (repeat' (first | (with_reducible exact Below.refl _ _) | (with_reducible assumption) | (with_reducible refine Below.alloc ?_ ?_ _) | (with_reducible refine Below.drew ?_) | (with_reducible refine Below.setCell ?_ ?_ _) | (with_reducible refine Below.on (by with_reducible assumption) ?_ ?_) | go_size))
end
def rcEq (a b c d a' b' c' d' : Int) : Bool := a == a' && (b == b' && (c == c' && d == d'))
theorem rcEq_iff (a b c d a' b' c' d' : Int) : rcEq a b c d a' b' c' d' = true ↔ (a = a' ∧ b = b' ∧ c = c' ∧ d = d') := by unfold rcEq; simp
theorem insideB_of {x y a b x' y' a' b' : Int} (hE : emptyB x y a b = false) :
    insideB x y a b x' y' a' b' = rcEq (interR x y a b x' y' a' b').x (interR x y a b x' y' a' b').y (interR x y a b x' y' a' b').w (interR x y a b x' y' a' b').h x y a b := by
  obtain ⟨⟨h1, h2, h3, h4⟩, h5, h6, h7, h8⟩ := (emptyB_iff x y a b).1 hE
  rw [Bool.eq_iff_iff, rcEq_iff]
  unfold insideB
  rw [hE]
  simp only [Bool.false_or, Bool.and_eq_true, decide_eq_true_eq, rightB_iff]
  cases hE' : emptyB x' y' a' b'
  · obtain ⟨⟨k1, k2, k3, k4⟩, k5, k6, k7, k8⟩ := (emptyB_iff x' y' a' b').1 hE'
    rw [interR_of hE hE']
    unfold betweenR
    split
    · simp only []; omega
    · simp only [zeroR]; omega
  · have hz : interR x y a b x' y' a' b' = zeroR := by unfold interR; rw [if_pos (Or.inr hE')]
    rw [hz]
    have hq : ¬ ((-32768 ≤ x' ∧ x' ≤ 32767 ∧ 1 ≤ a' ∧ x' + a' ≤ 32768) ∧ (-32768 ≤ y' ∧ y' ≤ 32767 ∧ 1 ≤ b' ∧ y' + b' ≤ 32768)) := by
      rw [← emptyB_iff, hE']; decide
    simp only [zeroR]
    omega
theorem eql_rect (a b c d a' b' c' d' : Int) (w : World) : (binOp .eql 23 (.agg #[.int .i64 a, .int .i64 b, .int .i64 c, .int .i64 d]) (.agg #[.int .i64 a', .int .i64 b', .int .i64 c', .int .i64 d'])).run Try.prog w = .ok (.bool (rcEq a b c d a' b' c' d')) w := by
  simp only [rcEq]
  by_cases h1 : a = a' <;> by_cases h2 : b = b' <;> by_cases h3 : c = c' <;> by_cases h4 : d = d' <;> simp [go_sem, h1, h2, h3, h4]
theorem neq_rect (a b c d a' b' c' d' : Int) (w : World) : (binOp .neq 23 (.agg #[.int .i64 a, .int .i64 b, .int .i64 c, .int .i64 d]) (.agg #[.int .i64 a', .int .i64 b', .int .i64 c', .int .i64 d'])).run Try.prog w = .ok (.bool (!rcEq a b c d a' b' c' d')) w := by
  simp only [rcEq]
  by_cases h1 : a = a' <;> by_cases h2 : b = b' <;> by_cases h3 : c = c' <;> by_cases h4 : d = d' <;> simp [go_sem, h1, h2, h3, h4]
attribute [local go_sem ↓] eql_rect neq_rect
end Go.Proofs.Ytdmoncpeoaoppaa
