import Derived.Test.YtlbbjinkblgfiaaGeoB
namespace Go.Proofs.Ytlbbjinkblgfiaa
open Go.RowKit
theorem has_c (x y a b p q : Int) (w : World) :
    Calls Try.prog 62 #[.agg #[.int .i64 x, .int .i64 y, .int .i64 a, .int .i64 b], .agg #[.int .i64 p, .int .i64 q]] w fun e w' => e = .returned (.bool (hasB x y a b p q)) ∧ Below w.heap.size w w' := by
  cases hE : emptyB x y a b
  · obtain ⟨⟨h1, h2, h3, h4⟩, h5, h6, h7, h8⟩ := (emptyB_iff x y a b).1 hE
    go_enter Try.func62, Try.ntmps62
    go_wp2_with (go_at_call 30; refine (empty_c _ _ _ _ _).mono ?_; rintro e w1 ⟨rfl, hb⟩; obtain ⟨hc, hf⟩ := bcell hb)
    all_goals (go_returns; exact ⟨ret_bool (by rw [Bool.eq_iff_iff]; unfold hasB; rw [hE]; simp; omega), by repeat' (first | (with_reducible exact Below.refl _ _) | (with_reducible assumption) | (with_reducible refine Below.alloc ?_ ?_ _) | (with_reducible refine Below.drew ?_) | (with_reducible refine Below.setCell ?_ ?_ _) | (with_reducible refine Below.on (by with_reducible assumption) ?_ ?_) | go_size)⟩)
  · go_enter Try.func62, Try.ntmps62
    go_wp2_with (go_at_call 30; refine (empty_c _ _ _ _ _).mono ?_; rintro e w1 ⟨rfl, hb⟩; obtain ⟨hc, hf⟩ := bcell hb)
    all_goals (go_returns; exact ⟨ret_bool (by unfold hasB; simp [hE]), by repeat' (first | (with_reducible exact Below.refl _ _) | (with_reducible assumption) | (with_reducible refine Below.alloc ?_ ?_ _) | (with_reducible refine Below.drew ?_) | (with_reducible refine Below.setCell ?_ ?_ _) | (with_reducible refine Below.on (by with_reducible assumption) ?_ ?_) | go_size)⟩)
theorem rhas_c (x y a b p q : Int) (w : World) :
    Calls Try.prog 63 #[.agg #[.int .i64 x, .int .i64 y, .int .i64 a, .int .i64 b], .agg #[.int .i64 p, .int .i64 q]] w fun e w' => e = .returned (.bool (hasB x y a b p q)) ∧ Below w.heap.size w w' := by
  cases hR : rightB x y a b
  · go_enter Try.func63, Try.ntmps63
    go_wp2_with (go_at_call 31; refine (rright_c _ _ _ _ _).mono ?_; rintro e w1 ⟨rfl, hb⟩; obtain ⟨hc, hf⟩ := bcell hb)
    all_goals (go_returns; exact ⟨ret_bool (by unfold hasB; simp [emptyB_of_not_right hR]), by repeat' (first | (with_reducible exact Below.refl _ _) | (with_reducible assumption) | (with_reducible refine Below.alloc ?_ ?_ _) | (with_reducible refine Below.drew ?_) | (with_reducible refine Below.setCell ?_ ?_ _) | (with_reducible refine Below.on (by with_reducible assumption) ?_ ?_) | go_size)⟩)
  · obtain ⟨⟨h1, h2, h3, h4⟩, h5, h6, h7, h8⟩ := (rightB_iff x y a b).1 hR
    go_enter Try.func63, Try.ntmps63
    go_wp2_with (go_at_call 31; refine (rright_c _ _ _ _ _).mono ?_; rintro e w1 ⟨rfl, hb⟩; obtain ⟨hc, hf⟩ := bcell hb)
    all_goals (go_returns; exact ⟨ret_bool (by rw [hasB_of_right hR, Bool.eq_iff_iff]; simp; omega), by repeat' (first | (with_reducible exact Below.refl _ _) | (with_reducible assumption) | (with_reducible refine Below.alloc ?_ ?_ _) | (with_reducible refine Below.drew ?_) | (with_reducible refine Below.setCell ?_ ?_ _) | (with_reducible refine Below.on (by with_reducible assumption) ?_ ?_) | go_size)⟩)
end Go.Proofs.Ytlbbjinkblgfiaa
