import Derived.Test.YtdmoncpeoaoppaaGeoF
namespace Go.Proofs.Ytdmoncpeoaoppaa
open Go.RowKit
set_option maxHeartbeats 2000000 in
theorem keep_c (x y a b x' y' a' b' : Int) (w : World) :
    Calls Try.prog 28 #[.agg #[.int .i64 x, .int .i64 y, .int .i64 a, .int .i64 b], .agg #[.int .i64 x', .int .i64 y', .int .i64 a', .int .i64 b']] w fun e w' => e = .returned (.agg #[.int .i64 (keepR x y a b x' y' a' b').x, .int .i64 (keepR x y a b x' y' a' b').y, .int .i64 (keepR x y a b x' y' a' b').w, .int .i64 (keepR x y a b x' y' a' b').h]) ∧ Below w.heap.size w w' := by
  cases hR : rightB x y a b
  · go_enter Try.func28, Try.ntmps28
    go_wp2_with (go_at_call 22; refine (right_c _ _ _ _ _).mono ?_; rintro e w1 ⟨rfl, hb⟩; have hS : Two w.heap.size w x y a b x' y' a' b' w1 := two_next hb (by first | assumption | exact two_start _ _ _ _ _ _ _ _ _ _ _ _); clear hb; obtain ⟨⟨ca0, ca1, ca2, ca3⟩, ⟨cb0, cb1, cb2, cb3⟩, ⟨cr0, cr1, cr2, cr3⟩, ⟨cf0, cf1, cf2, cf3⟩, hB, hz⟩ := two_out hS)
    refine bodyPost_ret (by simp [results, Try.results28, go_sem, cr0, cr1, cr2, cr3]; try rfl) rfl ?_
    exact ⟨ret_rc (by unfold keepR; simp [hR, zeroR]), by repeat' (first | (with_reducible exact Below.refl _ _) | (with_reducible assumption) | (with_reducible refine Below.alloc ?_ ?_ _) | (with_reducible refine Below.drew ?_) | (with_reducible refine Below.setCell ?_ ?_ _) | (with_reducible refine Below.on (by with_reducible assumption) ?_ ?_) | go_size)⟩
  · cases hR' : rightB x' y' a' b'
    · go_enter Try.func28, Try.ntmps28
      go_wp2_with (go_at_call 22; refine (right_c _ _ _ _ _).mono ?_; rintro e w1 ⟨rfl, hb⟩; have hS : Two w.heap.size w x y a b x' y' a' b' w1 := two_next hb (by first | assumption | exact two_start _ _ _ _ _ _ _ _ _ _ _ _); clear hb; obtain ⟨⟨ca0, ca1, ca2, ca3⟩, ⟨cb0, cb1, cb2, cb3⟩, ⟨cr0, cr1, cr2, cr3⟩, ⟨cf0, cf1, cf2, cf3⟩, hB, hz⟩ := two_out hS)
      refine bodyPost_ret (by simp [results, Try.results28, go_sem, cr0, cr1, cr2, cr3]; try rfl) rfl ?_
      exact ⟨ret_rc (by unfold keepR; simp [hR', zeroR]), by repeat' (first | (with_reducible exact Below.refl _ _) | (with_reducible assumption) | (with_reducible refine Below.alloc ?_ ?_ _) | (with_reducible refine Below.drew ?_) | (with_reducible refine Below.setCell ?_ ?_ _) | (with_reducible refine Below.on (by with_reducible assumption) ?_ ?_) | go_size)⟩
    · obtain ⟨⟨h1, h2, h3, h4⟩, h5, h6, h7, h8⟩ := (rightB_iff x y a b).1 hR
      obtain ⟨⟨k1, k2, k3, k4⟩, k5, k6, k7, k8⟩ := (rightB_iff x' y' a' b').1 hR'
      have g1 := spanI_le x x' (x' + a' - a)
      have g2 : spanI x x' (x' + a' - a) ≤ 70000 := by unfold spanI; omega
      have g3 := spanI_le y y' (y' + b' - b)
      have g4 : spanI y y' (y' + b' - b) ≤ 70000 := by unfold spanI; omega
      go_enter Try.func28, Try.ntmps28
      go_wp2_with (first | (go_at_call 22; refine (right_c _ _ _ _ _).mono ?_; rintro e w1 ⟨rfl, hb⟩; have hS : Two w.heap.size w x y a b x' y' a' b' w1 := two_next hb (by first | assumption | exact two_start _ _ _ _ _ _ _ _ _ _ _ _); clear hb; obtain ⟨⟨ca0, ca1, ca2, ca3⟩, ⟨cb0, cb1, cb2, cb3⟩, ⟨cr0, cr1, cr2, cr3⟩, ⟨cf0, cf1, cf2, cf3⟩, hB, hz⟩ := two_out hS) | (go_at_call 60; refine (span_c _ _ _ _).mono ?_; rintro e w1 ⟨rfl, rfl⟩) | (go_at_call 24; refine (shift_c _ _ _ _ _ _ _).mono ?_; rintro e w1 ⟨rfl, hb⟩; have hS : Two w.heap.size w x y a b x' y' a' b' w1 := two_next hb (by first | assumption | exact two_start _ _ _ _ _ _ _ _ _ _ _ _); clear hb; obtain ⟨⟨ca0, ca1, ca2, ca3⟩, ⟨cb0, cb1, cb2, cb3⟩, ⟨cr0, cr1, cr2, cr3⟩, ⟨cf0, cf1, cf2, cf3⟩, hB, hz⟩ := two_out hS))
      refine bodyPost_ret (by simp [results, Try.results28, go_sem, cr0, cr1, cr2, cr3]; try rfl) rfl ?_
      exact ⟨ret_rc (by unfold keepR; rw [if_pos ⟨hR, hR'⟩]), by repeat' (first | (with_reducible exact Below.refl _ _) | (with_reducible assumption) | (with_reducible refine Below.alloc ?_ ?_ _) | (with_reducible refine Below.drew ?_) | (with_reducible refine Below.setCell ?_ ?_ _) | (with_reducible refine Below.on (by with_reducible assumption) ?_ ?_) | go_size)⟩
set_option maxHeartbeats 2000000 in
theorem rkeep_c (x y a b x' y' a' b' : Int) (w : World) :
    Calls Try.prog 35 #[.agg #[.int .i64 x, .int .i64 y, .int .i64 a, .int .i64 b], .agg #[.int .i64 x', .int .i64 y', .int .i64 a', .int .i64 b']] w fun e w' => e = .returned (.agg #[.int .i64 (keepR x y a b x' y' a' b').x, .int .i64 (keepR x y a b x' y' a' b').y, .int .i64 (keepR x y a b x' y' a' b').w, .int .i64 (keepR x y a b x' y' a' b').h]) ∧ Below w.heap.size w w' := by
  cases hR : rightB x y a b
  · go_enter Try.func35, Try.ntmps35
    go_wp2_with (go_at_call 41; refine (rright_c _ _ _ _ _).mono ?_; rintro e w1 ⟨rfl, hb⟩; have hS : Two w.heap.size w x y a b x' y' a' b' w1 := two_next hb (by first | assumption | exact two_start _ _ _ _ _ _ _ _ _ _ _ _); clear hb; obtain ⟨⟨ca0, ca1, ca2, ca3⟩, ⟨cb0, cb1, cb2, cb3⟩, ⟨cr0, cr1, cr2, cr3⟩, ⟨cf0, cf1, cf2, cf3⟩, hB, hz⟩ := two_out hS)
    refine bodyPost_ret (by simp [results, Try.results35, go_sem, cr0, cr1, cr2, cr3]; try rfl) rfl ?_
    exact ⟨ret_rc (by unfold keepR; simp [hR, zeroR]), by repeat' (first | (with_reducible exact Below.refl _ _) | (with_reducible assumption) | (with_reducible refine Below.alloc ?_ ?_ _) | (with_reducible refine Below.drew ?_) | (with_reducible refine Below.setCell ?_ ?_ _) | (with_reducible refine Below.on (by with_reducible assumption) ?_ ?_) | go_size)⟩
  · cases hR' : rightB x' y' a' b'
    · go_enter Try.func35, Try.ntmps35
      go_wp2_with (go_at_call 41; refine (rright_c _ _ _ _ _).mono ?_; rintro e w1 ⟨rfl, hb⟩; have hS : Two w.heap.size w x y a b x' y' a' b' w1 := two_next hb (by first | assumption | exact two_start _ _ _ _ _ _ _ _ _ _ _ _); clear hb; obtain ⟨⟨ca0, ca1, ca2, ca3⟩, ⟨cb0, cb1, cb2, cb3⟩, ⟨cr0, cr1, cr2, cr3⟩, ⟨cf0, cf1, cf2, cf3⟩, hB, hz⟩ := two_out hS)
      refine bodyPost_ret (by simp [results, Try.results35, go_sem, cr0, cr1, cr2, cr3]; try rfl) rfl ?_
      exact ⟨ret_rc (by unfold keepR; simp [hR', zeroR]), by repeat' (first | (with_reducible exact Below.refl _ _) | (with_reducible assumption) | (with_reducible refine Below.alloc ?_ ?_ _) | (with_reducible refine Below.drew ?_) | (with_reducible refine Below.setCell ?_ ?_ _) | (with_reducible refine Below.on (by with_reducible assumption) ?_ ?_) | go_size)⟩
    · obtain ⟨⟨h1, h2, h3, h4⟩, h5, h6, h7, h8⟩ := (rightB_iff x y a b).1 hR
      obtain ⟨⟨k1, k2, k3, k4⟩, k5, k6, k7, k8⟩ := (rightB_iff x' y' a' b').1 hR'
      have g1 := spanI_le x x' (x' + a' - a)
      have g2 : spanI x x' (x' + a' - a) ≤ 70000 := by unfold spanI; omega
      have g3 := spanI_le y y' (y' + b' - b)
      have g4 : spanI y y' (y' + b' - b) ≤ 70000 := by unfold spanI; omega
      have hw1 : IntKind.i64.wrap (spanI x x' (x' + a' - a) - x) = spanI x x' (x' + a' - a) - x := IntWalk.i64_in _ (by omega)
      have hw2 : IntKind.i64.wrap (spanI y y' (y' + b' - b) - y) = spanI y y' (y' + b' - b) - y := IntWalk.i64_in _ (by omega)
      go_enter Try.func35, Try.ntmps35
      go_wp2_with (first | (go_at_call 41; refine (rright_c _ _ _ _ _).mono ?_; rintro e w1 ⟨rfl, hb⟩; have hS : Two w.heap.size w x y a b x' y' a' b' w1 := two_next hb (by first | assumption | exact two_start _ _ _ _ _ _ _ _ _ _ _ _); clear hb; obtain ⟨⟨ca0, ca1, ca2, ca3⟩, ⟨cb0, cb1, cb2, cb3⟩, ⟨cr0, cr1, cr2, cr3⟩, ⟨cf0, cf1, cf2, cf3⟩, hB, hz⟩ := two_out hS) | (go_at_call 63; refine (into_c _ _ _ _ _ (by omega) (by omega) (by omega) (by omega) (by omega) (by omega) (by omega) (by omega)).mono ?_; rintro e w1 ⟨rfl, rfl⟩) | (go_at_call 38; refine (rshift_c _ _ _ _ _ _ _).mono ?_; rintro e w1 ⟨rfl, hb⟩; have hS : Two w.heap.size w x y a b x' y' a' b' w1 := two_next hb (by first | assumption | exact two_start _ _ _ _ _ _ _ _ _ _ _ _); clear hb; obtain ⟨⟨ca0, ca1, ca2, ca3⟩, ⟨cb0, cb1, cb2, cb3⟩, ⟨cr0, cr1, cr2, cr3⟩, ⟨cf0, cf1, cf2, cf3⟩, hB, hz⟩ := two_out hS))
      go_region_held3 (fun wx => (wx.cell? ⟨w.heap.size, 0, none⟩ = some (.int .i64 x) ∧ wx.cell? ⟨w.heap.size, 1, none⟩ = some (.int .i64 y) ∧ wx.cell? ⟨w.heap.size, 2, none⟩ = some (.int .i64 a) ∧ wx.cell? ⟨w.heap.size, 3, none⟩ = some (.int .i64 b)) ∧ (wx.cell? ⟨w.heap.size + 1, 0, none⟩ = some (.int .i64 x') ∧ wx.cell? ⟨w.heap.size + 1, 1, none⟩ = some (.int .i64 y') ∧ wx.cell? ⟨w.heap.size + 1, 2, none⟩ = some (.int .i64 a') ∧ wx.cell? ⟨w.heap.size + 1, 3, none⟩ = some (.int .i64 b')) ∧ (wx.cell? ⟨w.heap.size + 1 + 1, 0, none⟩ = some (cellOr wx (w.heap.size + 1 + 1) 0) ∧ wx.cell? ⟨w.heap.size + 1 + 1, 1, none⟩ = some (cellOr wx (w.heap.size + 1 + 1) 1) ∧ wx.cell? ⟨w.heap.size + 1 + 1, 2, none⟩ = some (cellOr wx (w.heap.size + 1 + 1) 2) ∧ wx.cell? ⟨w.heap.size + 1 + 1, 3, none⟩ = some (cellOr wx (w.heap.size + 1 + 1) 3)) ∧ (wx.frozen? ⟨w.heap.size + 1 + 1, 0, none⟩ = false ∧ wx.frozen? ⟨w.heap.size + 1 + 1, 1, none⟩ = false ∧ wx.frozen? ⟨w.heap.size + 1 + 1, 2, none⟩ = false ∧ wx.frozen? ⟨w.heap.size + 1 + 1, 3, none⟩ = false) ∧ Below w.heap.size w wx ∧ w.heap.size + 1 + 1 < wx.heap.size)
        ((show Two w.heap.size w x y a b x' y' a' b' _; first | (with_reducible exact two_drew hS) | (refine two_next hb ?_; assumption) | ((with_reducible refine two_drew (two_set (two_set (two_set (two_set ?_ _ _) _ _) _ _) _ _)); exact hS) | ((with_reducible refine two_set (two_set (two_set (two_set ?_ _ _) _ _) _ _) _ _); assumption) | assumption))
        (first | (go_at_call 63; refine (into_c _ _ _ _ _ (by omega) (by omega) (by omega) (by omega) (by omega) (by omega) (by omega) (by omega)).mono ?_; rintro e w1 ⟨rfl, rfl⟩) | (go_at_call 38; refine (rshift_c _ _ _ _ _ _ _).mono ?_; rintro e w1 ⟨rfl, hb⟩; have hT : Two w.heap.size w x y a b x' y' a' b' w1 := two_next hb (by assumption)))
      obtain ⟨⟨ca0, ca1, ca2, ca3⟩, ⟨cb0, cb1, cb2, cb3⟩, ⟨cr0, cr1, cr2, cr3⟩, ⟨cf0, cf1, cf2, cf3⟩, hB, hz⟩ := two_out hT
      go_wp2
      refine bodyPost_ret (by simp [results, Try.results35, go_sem, cr0, cr1, cr2, cr3]; try rfl) rfl ?_
      exact ⟨ret_rc (by unfold keepR; rw [if_pos ⟨hR, hR'⟩]), by repeat' (first | (with_reducible exact Below.refl _ _) | (with_reducible assumption) | (with_reducible refine Below.alloc ?_ ?_ _) | (with_reducible refine Below.drew ?_) | (with_reducible refine Below.setCell ?_ ?_ _) | (with_reducible refine Below.on (by with_reducible assumption) ?_ ?_) | go_size)⟩
end Go.Proofs.Ytdmoncpeoaoppaa
