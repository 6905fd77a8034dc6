import Derived.Test.YtkciaedhocackaaLawA
namespace Go.Proofs.Ytkciaedhocackaa
open Go.RowKit
attribute [local go_sem ↓] eql_rect neq_rect
theorem rcEq_self2 (a b c d : Int) : rcEq a b c d a b c d = true := by rw [rcEq_iff]; exact ⟨rfl, rfl, rfl, rfl⟩
attribute [local go_sem] rcEq_self2
/-- What a drawn region keeps: blocks n, n + 1, .. hold these numbers. -/
def Rre (n : Nat) (w0 : World) (x y a b x' y' a' b' l t r m : Int) (w : World) : Prop :=
  (w.cell? ⟨n, 0, none⟩ = some (.int .i64 x) ∧ w.cell? ⟨n, 1, none⟩ = some (.int .i64 y) ∧ w.cell? ⟨n, 2, none⟩ = some (.int .i64 a) ∧ w.cell? ⟨n, 3, none⟩ = some (.int .i64 b)) ∧ (w.cell? ⟨n + 1, 0, none⟩ = some (.int .i64 x') ∧ w.cell? ⟨n + 1, 1, none⟩ = some (.int .i64 y') ∧ w.cell? ⟨n + 1, 2, none⟩ = some (.int .i64 a') ∧ w.cell? ⟨n + 1, 3, none⟩ = some (.int .i64 b')) ∧ (w.cell? ⟨n + 1 + 1, 0, none⟩ = some (.int .i64 l) ∧ w.cell? ⟨n + 1 + 1, 1, none⟩ = some (.int .i64 t) ∧ w.cell? ⟨n + 1 + 1, 2, none⟩ = some (.int .i64 r) ∧ w.cell? ⟨n + 1 + 1, 3, none⟩ = some (.int .i64 m)) ∧ Below n w0 w ∧ n + 1 + 1 < w.heap.size
section
variable {n : Nat} {w0 : World} {x y a b x' y' a' b' l t r m : Int} {w w1 : World}
theorem rre_out (h : Rre n w0 x y a b x' y' a' b' l t r m w) : (w.cell? ⟨n, 0, none⟩ = some (.int .i64 x) ∧ w.cell? ⟨n, 1, none⟩ = some (.int .i64 y) ∧ w.cell? ⟨n, 2, none⟩ = some (.int .i64 a) ∧ w.cell? ⟨n, 3, none⟩ = some (.int .i64 b)) ∧ (w.cell? ⟨n + 1, 0, none⟩ = some (.int .i64 x') ∧ w.cell? ⟨n + 1, 1, none⟩ = some (.int .i64 y') ∧ w.cell? ⟨n + 1, 2, none⟩ = some (.int .i64 a') ∧ w.cell? ⟨n + 1, 3, none⟩ = some (.int .i64 b')) ∧ (w.cell? ⟨n + 1 + 1, 0, none⟩ = some (.int .i64 l) ∧ w.cell? ⟨n + 1 + 1, 1, none⟩ = some (.int .i64 t) ∧ w.cell? ⟨n + 1 + 1, 2, none⟩ = some (.int .i64 r) ∧ w.cell? ⟨n + 1 + 1, 3, none⟩ = some (.int .i64 m)) ∧ Below n w0 w ∧ n + 1 + 1 < w.heap.size := h
theorem rre_drew (h : Rre n w0 x y a b x' y' a' b' l t r m w) : Rre n w0 x y a b x' y' a' b' l t r m w.drew := by
  obtain ⟨h0, h1, h2, hB, hz⟩ := h
  exact ⟨h0, h1, h2, hB.drew, hz⟩
theorem rre_next (hb : Below w.heap.size w w1) (h : Rre n w0 x y a b x' y' a' b' l t r m w) : Rre n w0 x y a b x' y' a' b' l t r m w1 := by
  obtain ⟨⟨c00, c01, c02, c03⟩, ⟨c10, c11, c12, c13⟩, ⟨c20, c21, c22, c23⟩, hB, hz⟩ := h
  obtain ⟨hc, _⟩ := bcell hb
  have hs := hb.size
  exact ⟨⟨(hc _ _ (by omega)).trans c00, (hc _ _ (by omega)).trans c01, (hc _ _ (by omega)).trans c02, (hc _ _ (by omega)).trans c03⟩, ⟨(hc _ _ (by omega)).trans c10, (hc _ _ (by omega)).trans c11, (hc _ _ (by omega)).trans c12, (hc _ _ (by omega)).trans c13⟩, ⟨(hc _ _ (by omega)).trans c20, (hc _ _ (by omega)).trans c21, (hc _ _ (by omega)).trans c22, (hc _ _ (by omega)).trans c23⟩, hB.trans (hb.mono (by omega)), by omega⟩
theorem rre_start (w : World) (x y a b x' y' a' b' l t r m : Int) (t0 t1 t2 : TypeId) : Rre w.heap.size w x y a b x' y' a' b' l t r m (((w.alloc (.cells #[.int .i64 x, .int .i64 y, .int .i64 a, .int .i64 b] t0)).alloc (.cells #[.int .i64 x', .int .i64 y', .int .i64 a', .int .i64 b'] t1)).alloc (.cells #[.int .i64 l, .int .i64 t, .int .i64 r, .int .i64 m] t2)) := by
  refine ⟨⟨?_, ?_, ?_, ?_⟩, ⟨?_, ?_, ?_, ?_⟩, ⟨?_, ?_, ?_, ?_⟩, ?_, by simp⟩
  all_goals first | (simp [go_sem]; done) | (repeat' (first | (with_reducible exact Below.refl _ _) | (with_reducible assumption) | (with_reducible refine Below.alloc ?_ ?_ _) | (with_reducible refine Below.drew ?_) | (with_reducible refine Below.setCell ?_ ?_ _) | (with_reducible refine Below.on (by with_reducible assumption) ?_ ?_) | go_size))
end
set_option maxHeartbeats 8000000 in
theorem moves_w (x y a b x' y' a' b' l t r m dx dy : Int) (w : World) : Calls Try.prog 6 #[.agg #[.int .i64 x, .int .i64 y, .int .i64 a, .int .i64 b], .agg #[.int .i64 x', .int .i64 y', .int .i64 a', .int .i64 b'], .agg #[.int .i64 l, .int .i64 t, .int .i64 r, .int .i64 m], .int .i64 dx, .int .i64 dy] w fun e w' => e = .returned (.bool true) ∧ Below w.heap.size w w' := by
  have HS := Lib.hid (rre_start w x y a b x' y' a' b' l t r m 27 27 39)
  go_enter Try.func6, Try.ntmps6
  go_wp2
  have hS := HS.out
  go_region_held3 (fun wx => (wx.cell? ⟨w.heap.size, 0, none⟩ = some (.int .i64 x) ∧ wx.cell? ⟨w.heap.size, 1, none⟩ = some (.int .i64 y) ∧ wx.cell? ⟨w.heap.size, 2, none⟩ = some (.int .i64 a) ∧ wx.cell? ⟨w.heap.size, 3, none⟩ = some (.int .i64 b)) ∧ (wx.cell? ⟨w.heap.size + 1, 0, none⟩ = some (.int .i64 x') ∧ wx.cell? ⟨w.heap.size + 1, 1, none⟩ = some (.int .i64 y') ∧ wx.cell? ⟨w.heap.size + 1, 2, none⟩ = some (.int .i64 a') ∧ wx.cell? ⟨w.heap.size + 1, 3, none⟩ = some (.int .i64 b')) ∧ (wx.cell? ⟨w.heap.size + 1 + 1, 0, none⟩ = some (.int .i64 l) ∧ wx.cell? ⟨w.heap.size + 1 + 1, 1, none⟩ = some (.int .i64 t) ∧ wx.cell? ⟨w.heap.size + 1 + 1, 2, none⟩ = some (.int .i64 r) ∧ wx.cell? ⟨w.heap.size + 1 + 1, 3, none⟩ = some (.int .i64 m)) ∧ Below w.heap.size w wx ∧ w.heap.size + 1 + 1 < wx.heap.size)
    ((show Rre w.heap.size w x y a b x' y' a' b' l t r m _; first | (with_reducible exact rre_drew hS) | (refine rre_next hb ?_; assumption) | assumption))
    (first | (go_at_call 31; refine (shift_c _ _ _ _ _ _ _).mono ?_; rintro e w1 ⟨rfl, hb⟩) | (go_at_call 32; refine (rshift_c _ _ _ _ _ _ _).mono ?_; rintro e w1 ⟨rfl, hb⟩) | (go_at_call 33; refine (inset_c _ _ _ _ _ _ _ _ _).mono ?_; rintro e w1 ⟨rfl, hb⟩) | (go_at_call 34; refine (rinset_c _ _ _ _ _ _ _ _ _).mono ?_; rintro e w1 ⟨rfl, hb⟩) | (go_at_call 35; refine (keep_c _ _ _ _ _ _ _ _ _).mono ?_; rintro e w1 ⟨rfl, hb⟩) | (go_at_call 36; refine (rkeep_c _ _ _ _ _ _ _ _ _).mono ?_; rintro e w1 ⟨rfl, hb⟩) | (go_at_call 14; refine (awake_c _).mono ?_; rintro e w1 ⟨rfl, hb⟩; have hT : Rre w.heap.size w x y a b x' y' a' b' l t r m w1 := rre_next hb (by assumption)))
  go_wp2
  go_ret
  exact ⟨rfl, (rre_out hT).2.2.2.1⟩
end Go.Proofs.Ytkciaedhocackaa
