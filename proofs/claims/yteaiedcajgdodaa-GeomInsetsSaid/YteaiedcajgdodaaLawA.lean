import Derived.Test.YteaiedcajgdodaaGeoE
import Derived.Test.YteaiedcajgdodaaGeoG
import Derived.Test.YteaiedcajgdodaaGeoH
namespace Go.Proofs.Yteaiedcajgdodaa
open Go.RowKit
attribute [local go_sem ↓] eql_rect neq_rect
theorem _root_.Go.RowKit.Below.then1 {a w w1 : World} (h : Below w.heap.size w w1) (k : Below a.heap.size a w) : Below a.heap.size a w1 := k.trans (h.mono k.size)
set_option maxHeartbeats 2000000 in
theorem awake_c (w : World) : Calls Try.prog 18 #[] w fun e w' => e = .returned (.bool true) ∧ Below w.heap.size w w' := by
  have e1 : interR 0 0 4 4 2 2 4 4 = ⟨2, 2, 2, 2⟩ := by kernel_rfl
  have e2 : shiftR 0 0 4 4 40000 (-1) = ⟨32764, -1, 4, 4⟩ := by kernel_rfl
  have e3 : insetR 0 0 4 4 1 0 9 0 = ⟨1, 0, 0, 4⟩ := by kernel_rfl
  have e4 : keepR 9 9 4 4 0 0 10 10 = ⟨6, 6, 4, 4⟩ := by kernel_rfl
  have r1 : rcEq 2 2 2 2 2 2 2 2 = true := by kernel_rfl
  have r2 : rcEq 32764 (-1) 4 4 32764 (-1) 4 4 = true := by kernel_rfl
  have r3 : rcEq 1 0 0 4 1 0 0 4 = true := by kernel_rfl
  have r4 : rcEq 6 6 4 4 6 6 4 4 = true := by kernel_rfl
  go_enter Try.func18, Try.ntmps18
  go_wp2_with (first | (go_at_call 55; refine (rect_c _ _ _ _ _).mono ?_; rintro e w1 ⟨rfl, hb⟩) | (go_at_call 29; refine (inter_c _ _ _ _ _ _ _ _ _).mono ?_; rintro e w1 ⟨rfl, hb⟩) | (go_at_call 35; refine (shift_c _ _ _ _ _ _ _).mono ?_; rintro e w1 ⟨rfl, hb⟩) | (go_at_call 37; refine (inset_c _ _ _ _ _ _ _ _ _).mono ?_; rintro e w1 ⟨rfl, hb⟩) | (go_at_call 39; refine (keep_c _ _ _ _ _ _ _ _ _).mono ?_; rintro e w1 ⟨rfl, hb⟩))
  go_ret
  exact ⟨rfl, by repeat' (first | (with_reducible exact Below.refl _ _) | (with_reducible assumption) | (with_reducible refine Below.alloc ?_ ?_ _) | (with_reducible refine Below.drew ?_) | (with_reducible refine Below.setCell ?_ ?_ _) | (with_reducible refine Below.then1 (by with_reducible assumption) ?_) | go_size)⟩
theorem spans_w (v l m : Int) (w : World) : Calls Try.prog 3 #[.int .i64 v, .int .i64 l, .int .i64 m] w fun e w' => e = .returned (.bool true) ∧ Below w.heap.size w w' := by
  go_enter Try.func3, Try.ntmps3
  go_wp2_with (first | (go_at_call 15; refine (span_c _ _ _ _).mono ?_; rintro e w' ⟨rfl, rfl⟩) | (go_at_call 16; refine (rspan_c _ _ _ _).mono ?_; rintro e w' ⟨rfl, rfl⟩) | (go_at_call 17; refine (clamp_c _ _).mono ?_; rintro e w' ⟨rfl, rfl⟩) | (go_at_call 18; refine (awake_c _).mono ?_; rintro e w1 ⟨rfl, hb⟩))
  go_ret
  exact ⟨rfl, by repeat' (first | (with_reducible exact Below.refl _ _) | (with_reducible assumption) | (with_reducible refine Below.alloc ?_ ?_ _) | (with_reducible refine Below.drew ?_) | (with_reducible refine Below.setCell ?_ ?_ _) | (with_reducible refine Below.then1 (by with_reducible assumption) ?_) | go_size)⟩
end Go.Proofs.Yteaiedcajgdodaa
