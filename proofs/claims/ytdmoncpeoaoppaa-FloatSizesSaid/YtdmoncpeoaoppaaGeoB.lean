import Derived.Test.YtdmoncpeoaoppaaGeoA
namespace Go.Proofs.Ytdmoncpeoaoppaa
open Go.RowKit
theorem ret_pt {a b c d : Int} (h1 : a = c) (h2 : b = d) : Ending.returned (.agg #[.int .i64 a, .int .i64 b]) = .returned (.agg #[.int .i64 c, .int .i64 d]) := by rw [h1, h2]
theorem ret_rc {a b c d : Int} {r : Rc} (h : r = ⟨a, b, c, d⟩) : Ending.returned (.agg #[.int .i64 a, .int .i64 b, .int .i64 c, .int .i64 d]) = .returned (.agg #[.int .i64 r.x, .int .i64 r.y, .int .i64 r.w, .int .i64 r.h]) := by rw [h]
theorem leastOf_c (x y a b : Int) (w : World) :
    Calls Try.prog 56 #[.agg #[.int .i64 x, .int .i64 y], .agg #[.int .i64 a, .int .i64 b]] w fun e w' => e = .returned (.agg #[.int .i64 (min x a), .int .i64 (min y b)]) ∧ Below w.heap.size w w' := by
  go_enter Try.func56, Try.ntmps56
  go_wp2
  all_goals (go_returns; exact ⟨ret_pt (by omega) (by omega), by repeat' (first | (with_reducible exact Below.refl _ _) | (with_reducible assumption) | (with_reducible refine Below.alloc ?_ ?_ _) | (with_reducible refine Below.drew ?_) | (with_reducible refine Below.setCell ?_ ?_ _) | (with_reducible refine Below.on (by with_reducible assumption) ?_ ?_) | go_size)⟩)
theorem mostOf_c (x y a b : Int) (w : World) :
    Calls Try.prog 54 #[.agg #[.int .i64 x, .int .i64 y], .agg #[.int .i64 a, .int .i64 b]] w fun e w' => e = .returned (.agg #[.int .i64 (max x a), .int .i64 (max y b)]) ∧ Below w.heap.size w w' := by
  go_enter Try.func54, Try.ntmps54
  go_wp2
  all_goals (go_returns; exact ⟨ret_pt (by omega) (by omega), by repeat' (first | (with_reducible exact Below.refl _ _) | (with_reducible assumption) | (with_reducible refine Below.alloc ?_ ?_ _) | (with_reducible refine Below.drew ?_) | (with_reducible refine Below.setCell ?_ ?_ _) | (with_reducible refine Below.on (by with_reducible assumption) ?_ ?_) | go_size)⟩)
theorem least_c (x y : Int) (w : World) : Calls Try.prog 82 #[.int .i64 x, .int .i64 y] w fun e w' => e = .returned (.int .i64 (min x y)) ∧ w = w' := by
  go_enter Try.func82, Try.ntmps82
  go_wp2
  all_goals (go_ret; exact ⟨ret_int (by omega), rfl⟩)
theorem most_c (x y : Int) (w : World) : Calls Try.prog 83 #[.int .i64 x, .int .i64 y] w fun e w' => e = .returned (.int .i64 (max x y)) ∧ w = w' := by
  go_enter Try.func83, Try.ntmps83
  go_wp2
  all_goals (go_ret; exact ⟨ret_int (by omega), rfl⟩)
theorem reaches_c (a b : Int) (w : World) : Calls Try.prog 71 #[.int .i64 a, .int .i64 b] w fun e w' => e = .returned (.bool (decide (-32768 ≤ a ∧ a < b ∧ b ≤ 32768))) ∧ w = w' := by
  go_enter Try.func71, Try.ntmps71
  go_wp2
  all_goals (go_ret; exact ⟨ret_bool (by rw [Bool.eq_iff_iff]; simp; omega), rfl⟩)
theorem between_c (x y a b : Int) (w : World) :
    Calls Try.prog 53 #[.agg #[.int .i64 x, .int .i64 y], .agg #[.int .i64 a, .int .i64 b]] w fun e w' => e = .returned (.agg #[.int .i64 (betweenR x y a b).x, .int .i64 (betweenR x y a b).y, .int .i64 (betweenR x y a b).w, .int .i64 (betweenR x y a b).h]) ∧ Below w.heap.size w w' := by
  by_cases h1 : -32768 ≤ x ∧ x < a ∧ a ≤ 32768
  · by_cases h2 : -32768 ≤ y ∧ y < b ∧ b ≤ 32768
    · have e1 : decide (-32768 ≤ x ∧ x < a ∧ a ≤ 32768) = true := decide_eq_true h1
      have e2 : decide (-32768 ≤ y ∧ y < b ∧ b ≤ 32768) = true := decide_eq_true h2
      obtain ⟨h3, h4, h5⟩ := h1
      obtain ⟨h6, h7, h8⟩ := h2
      go_enter Try.func53, Try.ntmps53
      go_wp2_with (go_at_call 71; refine (reaches_c _ _ _).mono ?_; rintro e w' ⟨rfl, rfl⟩)
      all_goals (go_returns; exact ⟨ret_rc (by unfold betweenR; rw [if_pos (by omega)]), by repeat' (first | (with_reducible exact Below.refl _ _) | (with_reducible assumption) | (with_reducible refine Below.alloc ?_ ?_ _) | (with_reducible refine Below.drew ?_) | (with_reducible refine Below.setCell ?_ ?_ _) | (with_reducible refine Below.on (by with_reducible assumption) ?_ ?_) | go_size)⟩)
    · have e1 : decide (-32768 ≤ x ∧ x < a ∧ a ≤ 32768) = true := decide_eq_true h1
      have e2 : decide (-32768 ≤ y ∧ y < b ∧ b ≤ 32768) = false := decide_eq_false h2
      have h9 : ¬ (-32768 ≤ x ∧ x < a ∧ a ≤ 32768 ∧ -32768 ≤ y ∧ y < b ∧ b ≤ 32768) := by omega
      clear h1 h2
      have H9 := Lib.hid h9
      clear h9
      go_enter Try.func53, Try.ntmps53
      go_wp2_with (go_at_call 71; refine (reaches_c _ _ _).mono ?_; rintro e w' ⟨rfl, rfl⟩)
      all_goals (go_returns; exact ⟨ret_rc (by unfold betweenR; rw [if_neg H9.out]; rfl), by repeat' (first | (with_reducible exact Below.refl _ _) | (with_reducible assumption) | (with_reducible refine Below.alloc ?_ ?_ _) | (with_reducible refine Below.drew ?_) | (with_reducible refine Below.setCell ?_ ?_ _) | (with_reducible refine Below.on (by with_reducible assumption) ?_ ?_) | go_size)⟩)
  · have e1 : decide (-32768 ≤ x ∧ x < a ∧ a ≤ 32768) = false := decide_eq_false h1
    have h9 : ¬ (-32768 ≤ x ∧ x < a ∧ a ≤ 32768 ∧ -32768 ≤ y ∧ y < b ∧ b ≤ 32768) := by omega
    clear h1
    have H9 := Lib.hid h9
    clear h9
    go_enter Try.func53, Try.ntmps53
    go_wp2_with (go_at_call 71; refine (reaches_c _ _ _).mono ?_; rintro e w' ⟨rfl, rfl⟩)
    all_goals (go_returns; exact ⟨ret_rc (by unfold betweenR; rw [if_neg H9.out]; rfl), by repeat' (first | (with_reducible exact Below.refl _ _) | (with_reducible assumption) | (with_reducible refine Below.alloc ?_ ?_ _) | (with_reducible refine Below.drew ?_) | (with_reducible refine Below.setCell ?_ ?_ _) | (with_reducible refine Below.on (by with_reducible assumption) ?_ ?_) | go_size)⟩)
end Go.Proofs.Ytdmoncpeoaoppaa
