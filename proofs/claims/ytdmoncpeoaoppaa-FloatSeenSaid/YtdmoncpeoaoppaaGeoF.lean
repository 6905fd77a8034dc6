import Derived.Test.YtdmoncpeoaoppaaGeoD
namespace Go.Proofs.Ytdmoncpeoaoppaa
open Go.RowKit
theorem slide_c (s n b : Int) (w : World) (h1 : -32768 ≤ s) (h2 : s ≤ 32767) (h3 : 0 ≤ n) (h4 : s + n ≤ 32768) :
    Calls Try.prog 52 #[.int .i64 s, .int .i64 n, .int .i64 b] w fun e w' => e = .returned (.int .i64 (slideI s n b)) ∧ w = w' := by
  have g1 := spanI_le (32768 - n) (-32768) 32767
  have g2 := spanI_ge (32768 - n) (-32768) 32767 (by omega)
  have g3 := spanI_le b (-32768 - s) (spanI (32768 - n) (-32768) 32767 - s)
  have g4 : spanI b (-32768 - s) (spanI (32768 - n) (-32768) 32767 - s) ≤ 70000 := by unfold spanI; omega
  go_enter Try.func52, Try.ntmps52
  go_wp2_with (first | (go_at_call 70; refine (clamp_c _ _).mono ?_; rintro e w' ⟨rfl, rfl⟩) | (go_at_call 60; refine (span_c _ _ _ _).mono ?_; rintro e w' ⟨rfl, rfl⟩))
  go_ret
  exact ⟨rfl, rfl⟩
theorem rslide_c (s n b : Int) (w : World) (h1 : -32768 ≤ s) (h2 : s ≤ 32767) (h3 : 0 ≤ n) (h4 : s + n ≤ 32768) :
    Calls Try.prog 64 #[.int .i64 s, .int .i64 n, .int .i64 b] w fun e w' => e = .returned (.int .i64 (slideI s n b)) ∧ w = w' := by
  go_enter Try.func64, Try.ntmps64
  go_wp2_with (first | (go_at_call 82; refine (least_c _ _ _).mono ?_; rintro e w' ⟨rfl, rfl⟩) | (go_at_call 83; refine (most_c _ _ _).mono ?_; rintro e w' ⟨rfl, rfl⟩))
  all_goals (go_ret; exact ⟨ret_int (by unfold slideI spanI; omega), rfl⟩)
theorem trim_c (s n a b : Int) (w : World) (h1 : -32768 ≤ s) (h2 : s ≤ 32767) (h3 : 0 ≤ n) (h4 : s + n ≤ 32768) :
    Calls Try.prog 66 #[.int .i64 s, .int .i64 n, .int .i64 a, .int .i64 b] w fun e w' => e = .returned (.tuple #[.int .i64 (trimS s n a), .int .i64 (trimN n a b)]) ∧ w = w' := by
  have g1 := spanI_le a 0 n
  have g2 := spanI_ge a 0 n h3
  have g3 := spanI_le b 0 (n - spanI a 0 n)
  have g4 := spanI_ge b 0 (n - spanI a 0 n) (by omega)
  go_enter Try.func66, Try.ntmps66
  go_wp2_with (first | (go_at_call 70; refine (clamp_c _ _).mono ?_; rintro e w' ⟨rfl, rfl⟩) | (go_at_call 60; refine (span_c _ _ _ _).mono ?_; rintro e w' ⟨rfl, rfl⟩))
  go_ret2
  exact ⟨rfl, rfl⟩
theorem row_c (s n a b : Int) (w : World) (h1 : -32768 ≤ s) (h2 : s ≤ 32767) (h3 : 0 ≤ n) (h4 : s + n ≤ 32768) :
    Calls Try.prog 67 #[.int .i64 s, .int .i64 n, .int .i64 a, .int .i64 b] w fun e w' => e = .returned (.tuple #[.int .i64 (trimS s n a), .int .i64 (trimN n a b)]) ∧ w = w' := by
  have g1 := spanI_le a 0 n
  have g2 := spanI_ge a 0 n h3
  have g3 := spanI_le b 0 (n - spanI a 0 n)
  have g4 := spanI_ge b 0 (n - spanI a 0 n) (by omega)
  have g5 : trimS s n a = min 32767 (s + spanI a 0 n) := by unfold trimS; generalize spanI a 0 n = k at *; unfold spanI; omega
  have G5 := Lib.hid g5
  clear g5
  go_enter Try.func67, Try.ntmps67
  go_wp2_with (first | (go_at_call 82; refine (least_c _ _ _).mono ?_; rintro e w' ⟨rfl, rfl⟩) | (go_at_call 42; refine (rspan_c _ _ _ _).mono ?_; rintro e w' ⟨rfl, rfl⟩))
  go_ret2
  exact ⟨by rw [G5.out]; rfl, rfl⟩
theorem into_c (s n t m : Int) (w : World) (h1 : -32768 ≤ s) (h2 : s ≤ 32767) (h3 : 0 ≤ n) (h4 : s + n ≤ 32768) (k1 : -32768 ≤ t) (k2 : t ≤ 32767) (_k3 : 0 ≤ m) (k4 : t + m ≤ 32768) :
    Calls Try.prog 63 #[.int .i64 s, .int .i64 n, .int .i64 t, .int .i64 m] w fun e w' => e = .returned (.int .i64 (spanI s t (t + m - n))) ∧ w = w' := by
  go_enter Try.func63, Try.ntmps63
  go_wp2
  all_goals (go_ret; exact ⟨ret_int (by unfold spanI; omega), rfl⟩)

/-- A rectangle in block n, and block n + 1 for what is answered. -/
abbrev OneS (n : Nat) (w0 : World) (x y a b : Int) (w : World) : Prop :=
  (w.cell? ⟨n, 0, none⟩ = some (.int .i64 x) ∧ w.cell? ⟨n, 1, none⟩ = some (.int .i64 y) ∧ w.cell? ⟨n, 2, none⟩ = some (.int .i64 a) ∧ w.cell? ⟨n, 3, none⟩ = some (.int .i64 b)) ∧
  (w.frozen? ⟨n, 0, none⟩ = false ∧ w.frozen? ⟨n, 1, none⟩ = false ∧ w.frozen? ⟨n, 2, none⟩ = false ∧ w.frozen? ⟨n, 3, none⟩ = false) ∧
  (w.cell? ⟨n + 1, 0, none⟩ = some (cellOr w (n + 1) 0) ∧ w.cell? ⟨n + 1, 1, none⟩ = some (cellOr w (n + 1) 1) ∧ w.cell? ⟨n + 1, 2, none⟩ = some (cellOr w (n + 1) 2) ∧ w.cell? ⟨n + 1, 3, none⟩ = some (cellOr w (n + 1) 3)) ∧
  (w.frozen? ⟨n + 1, 0, none⟩ = false ∧ w.frozen? ⟨n + 1, 1, none⟩ = false ∧ w.frozen? ⟨n + 1, 2, none⟩ = false ∧ w.frozen? ⟨n + 1, 3, none⟩ = false) ∧
  Below n w0 w ∧ n + 1 < w.heap.size
def One (n : Nat) (w0 : World) (x y a b : Int) (w : World) : Prop := OneS n w0 x y a b w
section
variable {n : Nat} {w0 : World} {x y a b : Int} {w w1 : World}
theorem one_out (h : One n w0 x y a b w) : OneS n w0 x y a b w := h
theorem one_drew (h : One n w0 x y a b w) : One n w0 x y a b w.drew := by
  obtain ⟨h1, h2, h3, h4, h5, h6⟩ := h
  exact ⟨h1, h2, h3, h4, h5.drew, h6⟩
theorem one_next (hb : Below w.heap.size w w1) (h : One n w0 x y a b w) : One n w0 x y a b w1 := by
  obtain ⟨⟨a1, a2, a3, a4⟩, ⟨b1, b2, b3, b4⟩, ⟨c1, c2, c3, c4⟩, ⟨d1, d2, d3, d4⟩, h5, h6⟩ := h
  obtain ⟨hc, hf⟩ := bcell hb
  have hs := hb.size
  refine ⟨⟨?_, ?_, ?_, ?_⟩, ⟨?_, ?_, ?_, ?_⟩, ⟨cellOr_of ((hc _ _ (by omega)).trans c1), cellOr_of ((hc _ _ (by omega)).trans c2), cellOr_of ((hc _ _ (by omega)).trans c3), cellOr_of ((hc _ _ (by omega)).trans c4)⟩, ⟨?_, ?_, ?_, ?_⟩, h5.trans (hb.mono (by omega)), by omega⟩
  all_goals first | (rw [hc _ _ (by omega)]; assumption) | (rw [hf _ _ (by omega)]; assumption)
theorem one_set (h : One n w0 x y a b w) (o : Nat) (v : Value) : One n w0 x y a b (w.setCell ⟨n + 1, o, none⟩ v) := by
  obtain ⟨⟨a1, a2, a3, a4⟩, ⟨b1, b2, b3, b4⟩, ⟨c1, c2, c3, c4⟩, ⟨d1, d2, d3, d4⟩, h5, h6⟩ := h
  have hk (o' : Nat) (u : Value) (hu : w.cell? ⟨n + 1, o', none⟩ = some u) : (w.setCell ⟨n + 1, o, none⟩ v).cell? ⟨n + 1, o', none⟩ = some (cellOr (w.setCell ⟨n + 1, o, none⟩ v) (n + 1) o') := by
    obtain ⟨u', hu'⟩ := cell?_setCell_some (w := w) (p := ⟨n + 1, o, none⟩) (x := v) (q := ⟨n + 1, o', none⟩) (v := u) hu
    exact cellOr_of hu'
  refine ⟨⟨?_, ?_, ?_, ?_⟩, ⟨?_, ?_, ?_, ?_⟩, ⟨hk _ _ c1, hk _ _ c2, hk _ _ c3, hk _ _ c4⟩, ⟨?_, ?_, ?_, ?_⟩, h5.setCell (by simp) _, by simpa using h6⟩
  all_goals (simp [go_sem, *])
theorem one_start (w : World) (x y a b : Int) (t t' : TypeId) : One w.heap.size w x y a b ((w.alloc (.cells #[.int .i64 x, .int .i64 y, .int .i64 a, .int .i64 b] t)).alloc (.cells #[.int .i64 0, .int .i64 0, .int .i64 0, .int .i64 0] t')) := by
  refine ⟨⟨?_, ?_, ?_, ?_⟩, ⟨?_, ?_, ?_, ?_⟩, ⟨cellOr_of (v := .int .i64 0) ?_, cellOr_of (v := .int .i64 0) ?_, cellOr_of (v := .int .i64 0) ?_, cellOr_of (v := .int .i64 0) ?_⟩, ⟨?_, ?_, ?_, ?_⟩, ?_, by simp⟩
  all_goals first | (simp [go_sem]; done) | (repeat' (first | (with_reducible exact Below.refl _ _) | (with_reducible assumption) | (with_reducible refine Below.alloc ?_ ?_ _) | (with_reducible refine Below.drew ?_) | (with_reducible refine Below.setCell ?_ ?_ _) | (with_reducible refine Below.on (by with_reducible assumption) ?_ ?_) | go_size))
end
set_option maxHeartbeats 1000000 in
theorem shift_c (x y a b dx dy : Int) (w : World) :
    Calls Try.prog 24 #[.agg #[.int .i64 x, .int .i64 y, .int .i64 a, .int .i64 b], .int .i64 dx, .int .i64 dy] w fun e w' => e = .returned (.agg #[.int .i64 (shiftR x y a b dx dy).x, .int .i64 (shiftR x y a b dx dy).y, .int .i64 (shiftR x y a b dx dy).w, .int .i64 (shiftR x y a b dx dy).h]) ∧ Below w.heap.size w w' := by
  cases hR : rightB x y a b
  · go_enter Try.func24, Try.ntmps24
    go_wp2_with (go_at_call 22; refine (right_c _ _ _ _ _).mono ?_; rintro e w1 ⟨rfl, hb⟩; have hS : One w.heap.size w x y a b w1 := one_next hb (by first | assumption | exact one_start _ _ _ _ _ _ _); clear hb; obtain ⟨⟨ca0, ca1, ca2, ca3⟩, ⟨fa0, fa1, fa2, fa3⟩, ⟨cr0, cr1, cr2, cr3⟩, ⟨cf0, cf1, cf2, cf3⟩, hB, hz⟩ := one_out hS)
    refine bodyPost_ret (by simp [results, Try.results24, go_sem, cr0, cr1, cr2, cr3]; try rfl) rfl ?_
    exact ⟨ret_rc (by unfold shiftR; simp [hR, zeroR]), by repeat' (first | (with_reducible exact Below.refl _ _) | (with_reducible assumption) | (with_reducible refine Below.alloc ?_ ?_ _) | (with_reducible refine Below.drew ?_) | (with_reducible refine Below.setCell ?_ ?_ _) | (with_reducible refine Below.on (by with_reducible assumption) ?_ ?_) | go_size)⟩
  · obtain ⟨⟨h1, h2, h3, h4⟩, h5, h6, h7, h8⟩ := (rightB_iff x y a b).1 hR
    go_enter Try.func24, Try.ntmps24
    go_wp2_with (first | (go_at_call 22; refine (right_c _ _ _ _ _).mono ?_; rintro e w1 ⟨rfl, hb⟩; have hS : One w.heap.size w x y a b w1 := one_next hb (by first | assumption | exact one_start _ _ _ _ _ _ _); clear hb; obtain ⟨⟨ca0, ca1, ca2, ca3⟩, ⟨fa0, fa1, fa2, fa3⟩, ⟨cr0, cr1, cr2, cr3⟩, ⟨cf0, cf1, cf2, cf3⟩, hB, hz⟩ := one_out hS) | (go_at_call 52; refine (slide_c _ _ _ _ (by omega) (by omega) (by omega) (by omega)).mono ?_; rintro e w1 ⟨rfl, rfl⟩))
    refine bodyPost_ret (by simp [results, Try.results24, go_sem, cr0, cr1, cr2, cr3]; try rfl) rfl ?_
    exact ⟨ret_rc (by unfold shiftR; rw [if_pos hR]), by repeat' (first | (with_reducible exact Below.refl _ _) | (with_reducible assumption) | (with_reducible refine Below.alloc ?_ ?_ _) | (with_reducible refine Below.drew ?_) | (with_reducible refine Below.setCell ?_ ?_ _) | (with_reducible refine Below.on (by with_reducible assumption) ?_ ?_) | go_size)⟩
theorem two_fz (w w1 : World) (x y a b x' y' a' b' : Int) (t t' t'' : TypeId) (hb : Below ((((w.alloc (.cells #[.int .i64 x, .int .i64 y, .int .i64 a, .int .i64 b] t)).alloc (.cells #[.int .i64 x', .int .i64 y', .int .i64 a', .int .i64 b'] t')).alloc (.cells #[.int .i64 0, .int .i64 0, .int .i64 0, .int .i64 0] t'')).heap.size) (((w.alloc (.cells #[.int .i64 x, .int .i64 y, .int .i64 a, .int .i64 b] t)).alloc (.cells #[.int .i64 x', .int .i64 y', .int .i64 a', .int .i64 b'] t')).alloc (.cells #[.int .i64 0, .int .i64 0, .int .i64 0, .int .i64 0] t'')) w1) :
    w1.frozen? ⟨w.heap.size, 0, none⟩ = false ∧ w1.frozen? ⟨w.heap.size, 1, none⟩ = false ∧ w1.frozen? ⟨w.heap.size, 2, none⟩ = false ∧ w1.frozen? ⟨w.heap.size, 3, none⟩ = false := by
  obtain ⟨hc, hf⟩ := bcell hb
  refine ⟨?_, ?_, ?_, ?_⟩
  all_goals (rw [hf _ _ (by simp; omega)]; simp [go_sem])
set_option maxHeartbeats 2000000 in
theorem inset_c (x y a b x' y' a' b' : Int) (w : World) :
    Calls Try.prog 46 #[.agg #[.int .i64 x, .int .i64 y, .int .i64 a, .int .i64 b], .agg #[.int .i64 x', .int .i64 y', .int .i64 a', .int .i64 b']] w fun e w' => e = .returned (.agg #[.int .i64 (insetR x y a b x' y' a' b').x, .int .i64 (insetR x y a b x' y' a' b').y, .int .i64 (insetR x y a b x' y' a' b').w, .int .i64 (insetR x y a b x' y' a' b').h]) ∧ Below w.heap.size w w' := by
  cases hR : rightB x y a b
  · go_enter Try.func46, Try.ntmps46
    go_wp2_with (go_at_call 22; refine (right_c _ _ _ _ _).mono ?_; rintro e w1 ⟨rfl, hb⟩; have hS : Two w.heap.size w x y a b x' y' a' b' w1 := two_next hb (by first | assumption | exact two_start _ _ _ _ _ _ _ _ _ _ _ _); clear hb; obtain ⟨⟨ca0, ca1, ca2, ca3⟩, ⟨cb0, cb1, cb2, cb3⟩, ⟨cr0, cr1, cr2, cr3⟩, ⟨cf0, cf1, cf2, cf3⟩, hB, hz⟩ := two_out hS)
    refine bodyPost_ret (by simp [results, Try.results46, go_sem, cr0, cr1, cr2, cr3]; try rfl) rfl ?_
    exact ⟨ret_rc (by unfold insetR; simp [hR, zeroR]), by repeat' (first | (with_reducible exact Below.refl _ _) | (with_reducible assumption) | (with_reducible refine Below.alloc ?_ ?_ _) | (with_reducible refine Below.drew ?_) | (with_reducible refine Below.setCell ?_ ?_ _) | (with_reducible refine Below.on (by with_reducible assumption) ?_ ?_) | go_size)⟩
  · obtain ⟨⟨h1, h2, h3, h4⟩, h5, h6, h7, h8⟩ := (rightB_iff x y a b).1 hR
    go_enter Try.func46, Try.ntmps46
    go_wp2_with (first | (go_at_call 22; refine (right_c _ _ _ _ _).mono ?_; rintro e w1 ⟨rfl, hb⟩; obtain ⟨fa0, fa1, fa2, fa3⟩ := two_fz _ _ _ _ _ _ _ _ _ _ _ _ _ hb; have hS : Two w.heap.size w x y a b x' y' a' b' w1 := two_next hb (two_start _ _ _ _ _ _ _ _ _ _ _ _); clear hb; obtain ⟨⟨ca0, ca1, ca2, ca3⟩, ⟨cb0, cb1, cb2, cb3⟩, ⟨cr0, cr1, cr2, cr3⟩, ⟨cf0, cf1, cf2, cf3⟩, hB, hz⟩ := two_out hS) | (go_at_call 66; refine (trim_c _ _ _ _ _ (by omega) (by omega) (by omega) (by omega)).mono ?_; rintro e w1 ⟨rfl, rfl⟩))
    refine bodyPost_ret (by simp [results, Try.results46, go_sem, cr0, cr1, cr2, cr3]; try rfl) rfl ?_
    exact ⟨ret_rc (by unfold insetR; rw [if_pos hR]), by repeat' (first | (with_reducible exact Below.refl _ _) | (with_reducible assumption) | (with_reducible refine Below.alloc ?_ ?_ _) | (with_reducible refine Below.drew ?_) | (with_reducible refine Below.setCell ?_ ?_ _) | (with_reducible refine Below.on (by with_reducible assumption) ?_ ?_) | go_size)⟩
set_option maxHeartbeats 1000000 in
theorem rshift_c (x y a b dx dy : Int) (w : World) :
    Calls Try.prog 38 #[.agg #[.int .i64 x, .int .i64 y, .int .i64 a, .int .i64 b], .int .i64 dx, .int .i64 dy] w fun e w' => e = .returned (.agg #[.int .i64 (shiftR x y a b dx dy).x, .int .i64 (shiftR x y a b dx dy).y, .int .i64 (shiftR x y a b dx dy).w, .int .i64 (shiftR x y a b dx dy).h]) ∧ Below w.heap.size w w' := by
  cases hR : rightB x y a b
  · go_enter Try.func38, Try.ntmps38
    go_wp2_with (go_at_call 41; refine (rright_c _ _ _ _ _).mono ?_; rintro e w1 ⟨rfl, hb⟩; have hS : One w.heap.size w x y a b w1 := one_next hb (by first | assumption | exact one_start _ _ _ _ _ _ _); clear hb; obtain ⟨⟨ca0, ca1, ca2, ca3⟩, ⟨fa0, fa1, fa2, fa3⟩, ⟨cr0, cr1, cr2, cr3⟩, ⟨cf0, cf1, cf2, cf3⟩, hB, hz⟩ := one_out hS)
    refine bodyPost_ret (by simp [results, Try.results38, go_sem, cr0, cr1, cr2, cr3]; try rfl) rfl ?_
    exact ⟨ret_rc (by unfold shiftR; simp [hR, zeroR]), by repeat' (first | (with_reducible exact Below.refl _ _) | (with_reducible assumption) | (with_reducible refine Below.alloc ?_ ?_ _) | (with_reducible refine Below.drew ?_) | (with_reducible refine Below.setCell ?_ ?_ _) | (with_reducible refine Below.on (by with_reducible assumption) ?_ ?_) | go_size)⟩
  · obtain ⟨⟨h1, h2, h3, h4⟩, h5, h6, h7, h8⟩ := (rightB_iff x y a b).1 hR
    go_enter Try.func38, Try.ntmps38
    go_wp2_with (first | (go_at_call 41; refine (rright_c _ _ _ _ _).mono ?_; rintro e w1 ⟨rfl, hb⟩; have hS : One w.heap.size w x y a b w1 := one_next hb (by first | assumption | exact one_start _ _ _ _ _ _ _); clear hb; obtain ⟨⟨ca0, ca1, ca2, ca3⟩, ⟨fa0, fa1, fa2, fa3⟩, ⟨cr0, cr1, cr2, cr3⟩, ⟨cf0, cf1, cf2, cf3⟩, hB, hz⟩ := one_out hS) | (go_at_call 64; refine (rslide_c _ _ _ _ (by omega) (by omega) (by omega) (by omega)).mono ?_; rintro e w1 ⟨rfl, rfl⟩))
    go_region_held3 (fun wx => (wx.cell? ⟨w.heap.size, 0, none⟩ = some (.int .i64 x) ∧ wx.cell? ⟨w.heap.size, 1, none⟩ = some (.int .i64 y) ∧ wx.cell? ⟨w.heap.size, 2, none⟩ = some (.int .i64 a) ∧ wx.cell? ⟨w.heap.size, 3, none⟩ = some (.int .i64 b)) ∧ (wx.frozen? ⟨w.heap.size, 0, none⟩ = false ∧ wx.frozen? ⟨w.heap.size, 1, none⟩ = false ∧ wx.frozen? ⟨w.heap.size, 2, none⟩ = false ∧ wx.frozen? ⟨w.heap.size, 3, none⟩ = false) ∧ (wx.cell? ⟨w.heap.size + 1, 0, none⟩ = some (cellOr wx (w.heap.size + 1) 0) ∧ wx.cell? ⟨w.heap.size + 1, 1, none⟩ = some (cellOr wx (w.heap.size + 1) 1) ∧ wx.cell? ⟨w.heap.size + 1, 2, none⟩ = some (cellOr wx (w.heap.size + 1) 2) ∧ wx.cell? ⟨w.heap.size + 1, 3, none⟩ = some (cellOr wx (w.heap.size + 1) 3)) ∧ (wx.frozen? ⟨w.heap.size + 1, 0, none⟩ = false ∧ wx.frozen? ⟨w.heap.size + 1, 1, none⟩ = false ∧ wx.frozen? ⟨w.heap.size + 1, 2, none⟩ = false ∧ wx.frozen? ⟨w.heap.size + 1, 3, none⟩ = false) ∧ Below w.heap.size w wx ∧ w.heap.size + 1 < wx.heap.size)
      ((show One w.heap.size w x y a b _; first | (with_reducible exact one_drew hS) | (refine one_next hb ?_; assumption) | ((with_reducible refine one_drew (one_set (one_set (one_set (one_set ?_ _ _) _ _) _ _) _ _)); exact hS) | ((with_reducible refine one_set (one_set (one_set (one_set ?_ _ _) _ _) _ _) _ _); assumption) | assumption))
      (first | (go_at_call 64; refine (rslide_c _ _ _ _ (by omega) (by omega) (by omega) (by omega)).mono ?_; rintro e w1 ⟨rfl, rfl⟩))
    go_wp2
    refine bodyPost_ret (by simp [results, Try.results38, go_sem, cr0, cr1, cr2, cr3]; try rfl) rfl ?_
    exact ⟨ret_rc (by unfold shiftR; rw [if_pos hR]), by repeat' (first | (with_reducible exact Below.refl _ _) | (with_reducible assumption) | (with_reducible refine Below.alloc ?_ ?_ _) | (with_reducible refine Below.drew ?_) | (with_reducible refine Below.setCell ?_ ?_ _) | (with_reducible refine Below.on (by with_reducible assumption) ?_ ?_) | go_size)⟩
set_option maxHeartbeats 1000000 in
theorem rinset_c (x y a b x' y' a' b' : Int) (w : World) :
    Calls Try.prog 47 #[.agg #[.int .i64 x, .int .i64 y, .int .i64 a, .int .i64 b], .int .i64 x', .int .i64 y', .int .i64 a', .int .i64 b'] w fun e w' => e = .returned (.agg #[.int .i64 (insetR x y a b x' y' a' b').x, .int .i64 (insetR x y a b x' y' a' b').y, .int .i64 (insetR x y a b x' y' a' b').w, .int .i64 (insetR x y a b x' y' a' b').h]) ∧ Below w.heap.size w w' := by
  cases hR : rightB x y a b
  · go_enter Try.func47, Try.ntmps47
    go_wp2_with (go_at_call 41; refine (rright_c _ _ _ _ _).mono ?_; rintro e w1 ⟨rfl, hb⟩; have hS : One w.heap.size w x y a b w1 := one_next hb (by first | assumption | exact one_start _ _ _ _ _ _ _); clear hb; obtain ⟨⟨ca0, ca1, ca2, ca3⟩, ⟨fa0, fa1, fa2, fa3⟩, ⟨cr0, cr1, cr2, cr3⟩, ⟨cf0, cf1, cf2, cf3⟩, hB, hz⟩ := one_out hS)
    refine bodyPost_ret (by simp [results, Try.results47, go_sem, cr0, cr1, cr2, cr3]; try rfl) rfl ?_
    exact ⟨ret_rc (by unfold insetR; simp [hR, zeroR]), by repeat' (first | (with_reducible exact Below.refl _ _) | (with_reducible assumption) | (with_reducible refine Below.alloc ?_ ?_ _) | (with_reducible refine Below.drew ?_) | (with_reducible refine Below.setCell ?_ ?_ _) | (with_reducible refine Below.on (by with_reducible assumption) ?_ ?_) | go_size)⟩
  · obtain ⟨⟨h1, h2, h3, h4⟩, h5, h6, h7, h8⟩ := (rightB_iff x y a b).1 hR
    go_enter Try.func47, Try.ntmps47
    go_wp2_with (first | (go_at_call 41; refine (rright_c _ _ _ _ _).mono ?_; rintro e w1 ⟨rfl, hb⟩; have hS : One w.heap.size w x y a b w1 := one_next hb (by first | assumption | exact one_start _ _ _ _ _ _ _); clear hb; obtain ⟨⟨ca0, ca1, ca2, ca3⟩, ⟨fa0, fa1, fa2, fa3⟩, ⟨cr0, cr1, cr2, cr3⟩, ⟨cf0, cf1, cf2, cf3⟩, hB, hz⟩ := one_out hS) | (go_at_call 67; refine (row_c _ _ _ _ _ (by omega) (by omega) (by omega) (by omega)).mono ?_; rintro e w1 ⟨rfl, rfl⟩))
    refine bodyPost_ret (by simp [results, Try.results47, go_sem, cr0, cr1, cr2, cr3]; try rfl) rfl ?_
    exact ⟨ret_rc (by unfold insetR; rw [if_pos hR]), by repeat' (first | (with_reducible exact Below.refl _ _) | (with_reducible assumption) | (with_reducible refine Below.alloc ?_ ?_ _) | (with_reducible refine Below.drew ?_) | (with_reducible refine Below.setCell ?_ ?_ _) | (with_reducible refine Below.on (by with_reducible assumption) ?_ ?_) | go_size)⟩
end Go.Proofs.Ytdmoncpeoaoppaa
