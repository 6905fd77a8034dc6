import Derived.Test.YtdmoncpeoaoppaaProg
import Derived.Test.YtdmoncpeoaoppaaPlain
import Derived.WalkKit
import Derived.WalkSpells
import Derived.WalkLawsBesides
import Derived.ProofKit
import Derived.Lib.Hide
import Derived.Outline
import Derived.Laws.Pointers
import Derived.Deep.RegionHeld3
import Derived.Handy
import Derived.KernelRfl
namespace Go.Proofs.Ytdmoncpeoaoppaa
open Go.RowKit

theorem nearest_c (v least most : Int) (w : World) :
    Calls Try.prog 80 #[.int .i64 v, .int .i64 least, .int .i64 most] w fun e w' => e = .returned (.int .i64 (spanI v least most)) ∧ w = w' := by
  go_enter Try.func80, Try.ntmps80
  go_wp2
  all_goals (go_ret; exact ⟨by unfold spanI; congr 2; simp; omega, rfl⟩)
theorem span_c (v least most : Int) (w : World) :
    Calls Try.prog 60 #[.int .i64 v, .int .i64 least, .int .i64 most] w fun e w' => e = .returned (.int .i64 (spanI v least most)) ∧ w = w' := by
  go_enter Try.func60, Try.ntmps60
  go_wp2_with (go_at_call 80; refine (nearest_c _ _ _ _).mono ?_; rintro e w' ⟨rfl, rfl⟩)
  go_ret
  exact ⟨rfl, rfl⟩
theorem rspan_c (v least most : Int) (w : World) :
    Calls Try.prog 42 #[.int .i64 v, .int .i64 least, .int .i64 most] w fun e w' => e = .returned (.int .i64 (spanI v least most)) ∧ w = w' := by
  go_enter Try.func42, Try.ntmps42
  go_wp2
  all_goals (go_ret; exact ⟨by unfold spanI; congr 2; simp; omega, rfl⟩)
theorem clamp_c (v : Int) (w : World) :
    Calls Try.prog 70 #[.int .i64 v] w fun e w' => e = .returned (.int .i64 (spanI v (-32768) 32767)) ∧ w = w' := by
  go_enter Try.func70, Try.ntmps70
  go_wp2_with (go_at_call 60; refine (span_c _ _ _ _).mono ?_; rintro e w' ⟨rfl, rfl⟩)
  go_ret
  exact ⟨rfl, rfl⟩
theorem _root_.Go.RowKit.Below.on {B : Nat} {a w w1 : World} (h : Below w.heap.size w w1) (k : Below B a w) (hB : B ≤ w.heap.size) : Below B a w1 := k.trans (h.mono hB)
theorem ret_bool {a b : Bool} (h : a = b) : Ending.returned (.bool a) = .returned (.bool b) := by rw [h]
theorem ret_int {k : IntKind} {a b : Int} (h : a = b) : Ending.returned (.int k a) = .returned (.int k b) := by rw [h]
theorem bcell {W w1 : World} (hb : Below W.heap.size W w1) : (∀ b o, b < W.heap.size → w1.cell? ⟨b, o, none⟩ = W.cell? ⟨b, o, none⟩) ∧ (∀ b o, b < W.heap.size → w1.frozen? ⟨b, o, none⟩ = W.frozen? ⟨b, o, none⟩) :=
  ⟨fun b o h => hb.cell (p := ⟨b, o, none⟩) h, fun b o h => hb.frozen (p := ⟨b, o, none⟩) h⟩
theorem onPlane_c (s n : Int) (w : World) :
    Calls Try.prog 51 #[.int .i64 s, .int .i64 n] w fun e w' => e = .returned (.bool (planeB s n)) ∧ w = w' := by
  by_cases h1 : -32768 ≤ s ∧ s ≤ 32767
  · have hs : spanI s (-32768) 32767 = s := by unfold spanI; omega
    obtain ⟨h1, h2⟩ := h1
    go_enter Try.func51, Try.ntmps51
    go_wp2_with (go_at_call 70; refine (clamp_c _ _).mono ?_; rintro e w' ⟨rfl, rfl⟩)
    all_goals (go_ret; exact ⟨ret_bool (by rw [Bool.eq_iff_iff, planeB_iff]; simp; omega), rfl⟩)
  · have hs : (s == spanI s (-32768) 32767) = false := by rw [beq_eq_false_iff_ne]; unfold spanI; omega
    go_enter Try.func51, Try.ntmps51
    go_wp2_with (go_at_call 70; refine (clamp_c _ _).mono ?_; rintro e w' ⟨rfl, rfl⟩)
    go_ret
    exact ⟨ret_bool (by rw [Bool.eq_iff_iff, planeB_iff]; simp; omega), rfl⟩
theorem right_c (x y a b : Int) (w : World) :
    Calls Try.prog 22 #[.agg #[.int .i64 x, .int .i64 y, .int .i64 a, .int .i64 b]] w fun e w' => e = .returned (.bool (rightB x y a b)) ∧ Below w.heap.size w w' := by
  cases h1 : planeB x a
  all_goals
    go_enter Try.func22, Try.ntmps22
    go_wp2_with (go_at_call 51; refine (onPlane_c _ _ _).mono ?_; rintro e w' ⟨rfl, rfl⟩)
    go_ret
    exact ⟨ret_bool (by unfold rightB; simp [h1]), (Below.refl _ _).alloc (Nat.le_refl _) _⟩
theorem rright_c (x y a b : Int) (w : World) :
    Calls Try.prog 41 #[.agg #[.int .i64 x, .int .i64 y, .int .i64 a, .int .i64 b]] w fun e w' => e = .returned (.bool (rightB x y a b)) ∧ Below w.heap.size w w' := by
  go_enter Try.func41, Try.ntmps41
  go_wp2
  all_goals (go_ret; exact ⟨ret_bool (by rw [Bool.eq_iff_iff, rightB_iff]; simp; omega), (Below.refl _ _).alloc (Nat.le_refl _) _⟩)
theorem empty_c (x y a b : Int) (w : World) :
    Calls Try.prog 23 #[.agg #[.int .i64 x, .int .i64 y, .int .i64 a, .int .i64 b]] w fun e w' => e = .returned (.bool (emptyB x y a b)) ∧ Below w.heap.size w w' := by
  cases hR : rightB x y a b
  all_goals
    go_enter Try.func23, Try.ntmps23
    go_wp2_with (go_at_call 22; refine (right_c _ _ _ _ _).mono ?_; rintro e w1 ⟨rfl, hb⟩; obtain ⟨hc, hf⟩ := bcell hb)
    all_goals (go_ret; exact ⟨ret_bool (by rw [Bool.eq_iff_iff]; unfold emptyB; rw [hR]; simp <;> omega), ((Below.refl _ _).alloc (Nat.le_refl _) _).trans (hb.mono (by simp))⟩)
theorem rempty_c (x y a b : Int) (w : World) :
    Calls Try.prog 30 #[.agg #[.int .i64 x, .int .i64 y, .int .i64 a, .int .i64 b]] w fun e w' => e = .returned (.bool (emptyB x y a b)) ∧ Below w.heap.size w w' := by
  cases hR : rightB x y a b
  all_goals
    go_enter Try.func30, Try.ntmps30
    go_wp2_with (go_at_call 41; refine (rright_c _ _ _ _ _).mono ?_; rintro e w1 ⟨rfl, hb⟩; obtain ⟨hc, hf⟩ := bcell hb)
    all_goals (go_ret; exact ⟨ret_bool (by rw [Bool.eq_iff_iff]; unfold emptyB; rw [hR]; simp <;> omega), ((Below.refl _ _).alloc (Nat.le_refl _) _).trans (hb.mono (by simp))⟩)
theorem first_c (x y a b : Int) (w : World) :
    Calls Try.prog 55 #[.agg #[.int .i64 x, .int .i64 y, .int .i64 a, .int .i64 b]] w fun e w' => e = .returned (.agg #[.int .i64 x, .int .i64 y]) ∧ Below w.heap.size w w' := by
  go_enter Try.func55, Try.ntmps55
  go_wp2
  exact bodyPost_ret (v := .agg #[.int .i64 x, .int .i64 y]) (by simp [results, Try.results55, go_sem]) rfl ⟨rfl, ((((Below.refl _ _).alloc (Nat.le_refl _) _).alloc (by simp) _))⟩
theorem behind_c (x y a b : Int) (w : World) (h1 : -32768 ≤ x) (h2 : x ≤ 32767) (h3 : 0 ≤ a) (h4 : a ≤ 65536) (h5 : -32768 ≤ y) (h6 : y ≤ 32767) (h7 : 0 ≤ b) (h8 : b ≤ 65536) :
    Calls Try.prog 57 #[.agg #[.int .i64 x, .int .i64 y, .int .i64 a, .int .i64 b]] w fun e w' => e = .returned (.agg #[.int .i64 (x + a), .int .i64 (y + b)]) ∧ Below w.heap.size w w' := by
  go_enter Try.func57, Try.ntmps57
  go_wp2
  exact bodyPost_ret (v := .agg #[.int .i64 (x + a), .int .i64 (y + b)]) (by simp [results, Try.results57, go_sem]) rfl ⟨rfl, ((((Below.refl _ _).alloc (Nat.le_refl _) _).alloc (by simp) _))⟩
end Go.Proofs.Ytdmoncpeoaoppaa
