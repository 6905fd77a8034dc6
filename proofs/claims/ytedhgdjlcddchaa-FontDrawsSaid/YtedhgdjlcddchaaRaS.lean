import Derived.Test.YtedhgdjlcddchaaRaR
import Derived.Test.YtedhgdjlcddchaaRaM
namespace Go.Proofs.Ytedhgdjlcddchaa
open Go.RowKit Go.Shelf
/-- May a picture be? -/
def picB (a b : Int) (n : Nat) : Bool := decide ((0 ≤ a ∧ a ≤ 1024) ∧ (0 ≤ b ∧ b ≤ 1024) ∧ (n : Int) = a * b)
theorem rright_pic (a b : Int) (p : Option Addr) (n c : Nat) (w : World) :
    Calls Try.prog 94 #[.agg #[.int .i64 a, .int .i64 b, .slice p n c]] w fun e w' => e = .returned (.bool (picB a b n)) ∧ Below w.heap.size w w' := by
  by_cases h1 : 0 ≤ a
  · by_cases h2 : a ≤ 1024
    · by_cases h3 : 0 ≤ b
      · by_cases h4 : b ≤ 1024
        · have g1 : 0 ≤ a * b := Int.mul_nonneg h1 h3
          have g2 : a * b ≤ 1048576 := Int.le_trans (Int.mul_le_mul h2 h4 h3 (by omega)) (by omega)
          have HR := Lib.hid (show picB a b n = ((n : Int) == a * b) by unfold picB; simp [h1, h2, h3, h4]; rfl)
          go_enter Try.func94, Try.ntmps94
          go_wp2
          go_ret
          exact ⟨by rw [HR.out]; rfl, by repeat' (first | (with_reducible exact Below.refl _ _) | (with_reducible assumption) | (with_reducible refine Below.alloc ?_ ?_ _) | (with_reducible refine Below.drew ?_) | (with_reducible refine Below.setCell ?_ ?_ _) | (with_reducible refine Below.on (by with_reducible assumption) ?_ ?_) | go_size)⟩
        · have HR := Lib.hid (show picB a b n = false by unfold picB; simp [h4])
          go_enter Try.func94, Try.ntmps94
          go_wp2
          go_ret
          exact ⟨by rw [HR.out]; rfl, by repeat' (first | (with_reducible exact Below.refl _ _) | (with_reducible assumption) | (with_reducible refine Below.alloc ?_ ?_ _) | (with_reducible refine Below.drew ?_) | (with_reducible refine Below.setCell ?_ ?_ _) | (with_reducible refine Below.on (by with_reducible assumption) ?_ ?_) | go_size)⟩
      · have HR := Lib.hid (show picB a b n = false by unfold picB; simp [h3])
        go_enter Try.func94, Try.ntmps94
        go_wp2
        go_ret
        exact ⟨by rw [HR.out]; rfl, by repeat' (first | (with_reducible exact Below.refl _ _) | (with_reducible assumption) | (with_reducible refine Below.alloc ?_ ?_ _) | (with_reducible refine Below.drew ?_) | (with_reducible refine Below.setCell ?_ ?_ _) | (with_reducible refine Below.on (by with_reducible assumption) ?_ ?_) | go_size)⟩
    · have HR := Lib.hid (show picB a b n = false by unfold picB; simp [h2])
      go_enter Try.func94, Try.ntmps94
      go_wp2
      go_ret
      exact ⟨by rw [HR.out]; rfl, by repeat' (first | (with_reducible exact Below.refl _ _) | (with_reducible assumption) | (with_reducible refine Below.alloc ?_ ?_ _) | (with_reducible refine Below.drew ?_) | (with_reducible refine Below.setCell ?_ ?_ _) | (with_reducible refine Below.on (by with_reducible assumption) ?_ ?_) | go_size)⟩
  · have HR := Lib.hid (show picB a b n = false by unfold picB; simp [h1])
    go_enter Try.func94, Try.ntmps94
    go_wp2
    go_ret
    exact ⟨by rw [HR.out]; rfl, by repeat' (first | (with_reducible exact Below.refl _ _) | (with_reducible assumption) | (with_reducible refine Below.alloc ?_ ?_ _) | (with_reducible refine Below.drew ?_) | (with_reducible refine Below.setCell ?_ ?_ _) | (with_reducible refine Below.on (by with_reducible assumption) ?_ ?_) | go_size)⟩
end Go.Proofs.Ytedhgdjlcddchaa
