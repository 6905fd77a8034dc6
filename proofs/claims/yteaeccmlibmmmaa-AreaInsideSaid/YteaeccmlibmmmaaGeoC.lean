import Derived.Test.YteaeccmlibmmmaaGeoB
namespace Go.Proofs.Yteaeccmlibmmmaa
open Go.RowKit
theorem area_c (x y a b : Int) (w : World) :
    Calls Try.prog 24 #[.agg #[.int .i64 x, .int .i64 y, .int .i64 a, .int .i64 b]] w fun e w' => e = .returned (.int .i64 (areaI x y a b)) ∧ Below w.heap.size w w' := by
  cases hE : emptyB x y a b
  · obtain ⟨⟨h1, h2, h3, h4⟩, h5, h6, h7, h8⟩ := (emptyB_iff x y a b).1 hE
    have h9 : 0 ≤ a * b := Int.mul_nonneg (by omega) (by omega)
    have h10 : a * b ≤ 65536 * 65536 := Int.mul_le_mul (by omega) (by omega) (by omega) (by omega)
    go_enter Try.func24, Try.ntmps24
    go_wp2_with (go_at_call 27; refine (empty_c _ _ _ _ _).mono ?_; rintro e w1 ⟨rfl, hb⟩; obtain ⟨hc, hf⟩ := bcell hb)
    go_returns
    exact ⟨ret_int (by unfold areaI; rw [if_neg (by rw [hE]; decide)]), by repeat' (first | (with_reducible exact Below.refl _ _) | (with_reducible assumption) | (with_reducible refine Below.alloc ?_ ?_ _) | (with_reducible refine Below.drew ?_) | (with_reducible refine Below.setCell ?_ ?_ _) | (with_reducible refine Below.on (by with_reducible assumption) ?_ ?_) | go_size)⟩
  · go_enter Try.func24, Try.ntmps24
    go_wp2_with (go_at_call 27; refine (empty_c _ _ _ _ _).mono ?_; rintro e w1 ⟨rfl, hb⟩; obtain ⟨hc, hf⟩ := bcell hb)
    go_returns
    exact ⟨ret_int (by unfold areaI; rw [if_pos hE]), by repeat' (first | (with_reducible exact Below.refl _ _) | (with_reducible assumption) | (with_reducible refine Below.alloc ?_ ?_ _) | (with_reducible refine Below.drew ?_) | (with_reducible refine Below.setCell ?_ ?_ _) | (with_reducible refine Below.on (by with_reducible assumption) ?_ ?_) | go_size)⟩
theorem has_c (x y a b p q : Int) (w : World) :
    Calls Try.prog 23 #[.agg #[.int .i64 x, .int .i64 y, .int .i64 a, .int .i64 b], .agg #[.int .i64 p, .int .i64 q]] w fun e w' => e = .returned (.bool (hasB x y a b p q)) ∧ Below w.heap.size w w' := by
  cases hE : emptyB x y a b
  · obtain ⟨⟨h1, h2, h3, h4⟩, h5, h6, h7, h8⟩ := (emptyB_iff x y a b).1 hE
    go_enter Try.func23, Try.ntmps23
    go_wp2_with (go_at_call 27; refine (empty_c _ _ _ _ _).mono ?_; rintro e w1 ⟨rfl, hb⟩; obtain ⟨hc, hf⟩ := bcell hb)
    all_goals (go_returns; exact ⟨ret_bool (by rw [Bool.eq_iff_iff]; unfold hasB; rw [hE]; simp; omega), by repeat' (first | (with_reducible exact Below.refl _ _) | (with_reducible assumption) | (with_reducible refine Below.alloc ?_ ?_ _) | (with_reducible refine Below.drew ?_) | (with_reducible refine Below.setCell ?_ ?_ _) | (with_reducible refine Below.on (by with_reducible assumption) ?_ ?_) | go_size)⟩)
  · go_enter Try.func23, Try.ntmps23
    go_wp2_with (go_at_call 27; refine (empty_c _ _ _ _ _).mono ?_; rintro e w1 ⟨rfl, hb⟩; obtain ⟨hc, hf⟩ := bcell hb)
    all_goals (go_returns; exact ⟨ret_bool (by unfold hasB; simp [hE]), by repeat' (first | (with_reducible exact Below.refl _ _) | (with_reducible assumption) | (with_reducible refine Below.alloc ?_ ?_ _) | (with_reducible refine Below.drew ?_) | (with_reducible refine Below.setCell ?_ ?_ _) | (with_reducible refine Below.on (by with_reducible assumption) ?_ ?_) | go_size)⟩)
theorem rarea_c (x y a b : Int) (w : World) :
    Calls Try.prog 45 #[.agg #[.int .i64 x, .int .i64 y, .int .i64 a, .int .i64 b]] w fun e w' => e = .returned (.int .i64 (areaI x y a b)) ∧ Below w.heap.size w w' := by
  cases hE : emptyB x y a b
  · obtain ⟨⟨h1, h2, h3, h4⟩, h5, h6, h7, h8⟩ := (emptyB_iff x y a b).1 hE
    have h9 : 0 ≤ b * a := Int.mul_nonneg (by omega) (by omega)
    have h10 : b * a ≤ 65536 * 65536 := Int.mul_le_mul (by omega) (by omega) (by omega) (by omega)
    go_enter Try.func45, Try.ntmps45
    go_wp2_with (go_at_call 30; refine (rempty_c _ _ _ _ _).mono ?_; rintro e w1 ⟨rfl, hb⟩; obtain ⟨hc, hf⟩ := bcell hb)
    go_returns
    exact ⟨ret_int (by unfold areaI; rw [if_neg (by rw [hE]; decide), Int.mul_comm]), by repeat' (first | (with_reducible exact Below.refl _ _) | (with_reducible assumption) | (with_reducible refine Below.alloc ?_ ?_ _) | (with_reducible refine Below.drew ?_) | (with_reducible refine Below.setCell ?_ ?_ _) | (with_reducible refine Below.on (by with_reducible assumption) ?_ ?_) | go_size)⟩
  · go_enter Try.func45, Try.ntmps45
    go_wp2_with (go_at_call 30; refine (rempty_c _ _ _ _ _).mono ?_; rintro e w1 ⟨rfl, hb⟩; obtain ⟨hc, hf⟩ := bcell hb)
    go_returns
    exact ⟨ret_int (by unfold areaI; rw [if_pos hE]), by repeat' (first | (with_reducible exact Below.refl _ _) | (with_reducible assumption) | (with_reducible refine Below.alloc ?_ ?_ _) | (with_reducible refine Below.drew ?_) | (with_reducible refine Below.setCell ?_ ?_ _) | (with_reducible refine Below.on (by with_reducible assumption) ?_ ?_) | go_size)⟩
theorem rhas_c (x y a b p q : Int) (w : World) :
    Calls Try.prog 43 #[.agg #[.int .i64 x, .int .i64 y, .int .i64 a, .int .i64 b], .agg #[.int .i64 p, .int .i64 q]] w fun e w' => e = .returned (.bool (hasB x y a b p q)) ∧ Below w.heap.size w w' := by
  cases hR : rightB x y a b
  · go_enter Try.func43, Try.ntmps43
    go_wp2_with (go_at_call 44; refine (rright_c _ _ _ _ _).mono ?_; rintro e w1 ⟨rfl, hb⟩; obtain ⟨hc, hf⟩ := bcell hb)
    all_goals (go_returns; exact ⟨ret_bool (by unfold hasB; simp [emptyB_of_not_right hR]), by repeat' (first | (with_reducible exact Below.refl _ _) | (with_reducible assumption) | (with_reducible refine Below.alloc ?_ ?_ _) | (with_reducible refine Below.drew ?_) | (with_reducible refine Below.setCell ?_ ?_ _) | (with_reducible refine Below.on (by with_reducible assumption) ?_ ?_) | go_size)⟩)
  · obtain ⟨⟨h1, h2, h3, h4⟩, h5, h6, h7, h8⟩ := (rightB_iff x y a b).1 hR
    go_enter Try.func43, Try.ntmps43
    go_wp2_with (go_at_call 44; refine (rright_c _ _ _ _ _).mono ?_; rintro e w1 ⟨rfl, hb⟩; obtain ⟨hc, hf⟩ := bcell hb)
    all_goals (go_returns; exact ⟨ret_bool (by rw [hasB_of_right hR, Bool.eq_iff_iff]; simp; omega), by repeat' (first | (with_reducible exact Below.refl _ _) | (with_reducible assumption) | (with_reducible refine Below.alloc ?_ ?_ _) | (with_reducible refine Below.drew ?_) | (with_reducible refine Below.setCell ?_ ?_ _) | (with_reducible refine Below.on (by with_reducible assumption) ?_ ?_) | go_size)⟩)
end Go.Proofs.Yteaeccmlibmmmaa
