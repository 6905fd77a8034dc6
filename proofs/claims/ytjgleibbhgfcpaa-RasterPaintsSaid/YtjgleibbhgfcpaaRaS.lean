import Derived.Test.YtjgleibbhgfcpaaRaR
import Derived.Test.YtjgleibbhgfcpaaRaM
namespace Go.Proofs.Ytjgleibbhgfcpaa
open Go.RowKit Go.Shelf
/-- May a picture be? -/
def picB (a b : Int) (n : Nat) : Bool := decide ((0 ≤ a ∧ a ≤ 1024) ∧ (0 ≤ b ∧ b ≤ 1024) ∧ (n : Int) = a * b)
theorem right_pic (a b : Int) (p : Option Addr) (n c : Nat) (w : World) :
    Calls Try.prog 35 #[.agg #[.int .i64 a, .int .i64 b, .slice p n c]] w fun e w' => e = .returned (.bool (picB a b n)) ∧ Below w.heap.size w w' := by
  have hA := fun W => mayBe_c a W
  have hB := fun W => mayBe_c b W
  by_cases ha : 0 ≤ a ∧ a ≤ 1024
  · rw [decide_eq_true ha] at hA
    have HA := Lib.hid hA
    by_cases hb : 0 ≤ b ∧ b ≤ 1024
    · rw [decide_eq_true hb] at hB
      have HB := Lib.hid hB
      have g1 : 0 ≤ a * b := Int.mul_nonneg ha.1 hb.1
      have g2 : a * b ≤ 1048576 := Int.le_trans (Int.mul_le_mul ha.2 hb.2 hb.1 (by omega)) (by omega)
      have HR := Lib.hid (show picB a b n = ((n : Int) == a * b) by unfold picB; simp [ha, hb]; rfl)
      clear hA hB
      go_enter Try.func35, Try.ntmps35
      go_wp2_with (first | (go_at_call 62; (with_reducible refine (HA.out _).mono ?_); rintro e w' ⟨rfl, rfl⟩) | (go_at_call 62; (with_reducible refine (HB.out _).mono ?_); rintro e w' ⟨rfl, rfl⟩))
      go_ret
      exact ⟨by rw [HR.out]; rfl, by repeat' (first | (with_reducible exact Below.refl _ _) | (with_reducible assumption) | (with_reducible refine Below.alloc ?_ ?_ _) | (with_reducible refine Below.drew ?_) | (with_reducible refine Below.setCell ?_ ?_ _) | (with_reducible refine Below.on (by with_reducible assumption) ?_ ?_) | go_size)⟩
    · rw [decide_eq_false hb] at hB
      have HB := Lib.hid hB
      have HR := Lib.hid (show picB a b n = false by unfold picB; simp [hb])
      clear hA hB hb ha
      go_enter Try.func35, Try.ntmps35
      go_wp2_with (first | (go_at_call 62; (with_reducible refine (HA.out _).mono ?_); rintro e w' ⟨rfl, rfl⟩) | (go_at_call 62; (with_reducible refine (HB.out _).mono ?_); rintro e w' ⟨rfl, rfl⟩))
      go_ret
      exact ⟨by rw [HR.out]; rfl, by repeat' (first | (with_reducible exact Below.refl _ _) | (with_reducible assumption) | (with_reducible refine Below.alloc ?_ ?_ _) | (with_reducible refine Below.drew ?_) | (with_reducible refine Below.setCell ?_ ?_ _) | (with_reducible refine Below.on (by with_reducible assumption) ?_ ?_) | go_size)⟩
  · rw [decide_eq_false ha] at hA
    have HA := Lib.hid hA
    have HR := Lib.hid (show picB a b n = false by unfold picB; simp [ha])
    clear hA hB ha
    go_enter Try.func35, Try.ntmps35
    go_wp2_with (go_at_call 62; (with_reducible refine (HA.out _).mono ?_); rintro e w' ⟨rfl, rfl⟩)
    go_ret
    exact ⟨by rw [HR.out]; rfl, by repeat' (first | (with_reducible exact Below.refl _ _) | (with_reducible assumption) | (with_reducible refine Below.alloc ?_ ?_ _) | (with_reducible refine Below.drew ?_) | (with_reducible refine Below.setCell ?_ ?_ _) | (with_reducible refine Below.on (by with_reducible assumption) ?_ ?_) | go_size)⟩
theorem rright_pic (a b : Int) (p : Option Addr) (n c : Nat) (w : World) :
    Calls Try.prog 36 #[.agg #[.int .i64 a, .int .i64 b, .slice p n c]] w fun e w' => e = .returned (.bool (picB a b n)) ∧ Below w.heap.size w w' := by
  by_cases h1 : 0 ≤ a
  · by_cases h2 : a ≤ 1024
    · by_cases h3 : 0 ≤ b
      · by_cases h4 : b ≤ 1024
        · have g1 : 0 ≤ a * b := Int.mul_nonneg h1 h3
          have g2 : a * b ≤ 1048576 := Int.le_trans (Int.mul_le_mul h2 h4 h3 (by omega)) (by omega)
          have HR := Lib.hid (show picB a b n = ((n : Int) == a * b) by unfold picB; simp [h1, h2, h3, h4]; rfl)
          go_enter Try.func36, Try.ntmps36
          go_wp2
          go_ret
          exact ⟨by rw [HR.out]; rfl, by repeat' (first | (with_reducible exact Below.refl _ _) | (with_reducible assumption) | (with_reducible refine Below.alloc ?_ ?_ _) | (with_reducible refine Below.drew ?_) | (with_reducible refine Below.setCell ?_ ?_ _) | (with_reducible refine Below.on (by with_reducible assumption) ?_ ?_) | go_size)⟩
        · have HR := Lib.hid (show picB a b n = false by unfold picB; simp [h4])
          go_enter Try.func36, Try.ntmps36
          go_wp2
          go_ret
          exact ⟨by rw [HR.out]; rfl, by repeat' (first | (with_reducible exact Below.refl _ _) | (with_reducible assumption) | (with_reducible refine Below.alloc ?_ ?_ _) | (with_reducible refine Below.drew ?_) | (with_reducible refine Below.setCell ?_ ?_ _) | (with_reducible refine Below.on (by with_reducible assumption) ?_ ?_) | go_size)⟩
      · have HR := Lib.hid (show picB a b n = false by unfold picB; simp [h3])
        go_enter Try.func36, Try.ntmps36
        go_wp2
        go_ret
        exact ⟨by rw [HR.out]; rfl, by repeat' (first | (with_reducible exact Below.refl _ _) | (with_reducible assumption) | (with_reducible refine Below.alloc ?_ ?_ _) | (with_reducible refine Below.drew ?_) | (with_reducible refine Below.setCell ?_ ?_ _) | (with_reducible refine Below.on (by with_reducible assumption) ?_ ?_) | go_size)⟩
    · have HR := Lib.hid (show picB a b n = false by unfold picB; simp [h2])
      go_enter Try.func36, Try.ntmps36
      go_wp2
      go_ret
      exact ⟨by rw [HR.out]; rfl, by repeat' (first | (with_reducible exact Below.refl _ _) | (with_reducible assumption) | (with_reducible refine Below.alloc ?_ ?_ _) | (with_reducible refine Below.drew ?_) | (with_reducible refine Below.setCell ?_ ?_ _) | (with_reducible refine Below.on (by with_reducible assumption) ?_ ?_) | go_size)⟩
  · have HR := Lib.hid (show picB a b n = false by unfold picB; simp [h1])
    go_enter Try.func36, Try.ntmps36
    go_wp2
    go_ret
    exact ⟨by rw [HR.out]; rfl, by repeat' (first | (with_reducible exact Below.refl _ _) | (with_reducible assumption) | (with_reducible refine Below.alloc ?_ ?_ _) | (with_reducible refine Below.drew ?_) | (with_reducible refine Below.setCell ?_ ?_ _) | (with_reducible refine Below.on (by with_reducible assumption) ?_ ?_) | go_size)⟩
end Go.Proofs.Ytjgleibbhgfcpaa
