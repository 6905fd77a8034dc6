import Derived.Test.YtkciaedhocackaaLawA
namespace Go.Proofs.Ytkciaedhocackaa
open Go.RowKit
attribute [local go_sem ↓] eql_rect neq_rect
theorem rcEq_self (a b c d : Int) : rcEq a b c d a b c d = true := by rw [rcEq_iff]; exact ⟨rfl, rfl, rfl, rfl⟩
attribute [local go_sem] rcEq_self
/-- What a drawn region keeps: blocks n, n + 1, .. hold these numbers. -/
def Rrpp (n : Nat) (w0 : World) (x y a b x' y' a' b' p q p' q' : Int) (w : World) : Prop :=
  (w.cell? ⟨n, 0, none⟩ = some (.int .i64 x) ∧ w.cell? ⟨n, 1, none⟩ = some (.int .i64 y) ∧ w.cell? ⟨n, 2, none⟩ = some (.int .i64 a) ∧ w.cell? ⟨n, 3, none⟩ = some (.int .i64 b)) ∧ (w.cell? ⟨n + 1, 0, none⟩ = some (.int .i64 x') ∧ w.cell? ⟨n + 1, 1, none⟩ = some (.int .i64 y') ∧ w.cell? ⟨n + 1, 2, none⟩ = some (.int .i64 a') ∧ w.cell? ⟨n + 1, 3, none⟩ = some (.int .i64 b')) ∧ (w.cell? ⟨n + 1 + 1, 0, none⟩ = some (.int .i64 p) ∧ w.cell? ⟨n + 1 + 1, 1, none⟩ = some (.int .i64 q)) ∧ (w.cell? ⟨n + 1 + 1 + 1, 0, none⟩ = some (.int .i64 p') ∧ w.cell? ⟨n + 1 + 1 + 1, 1, none⟩ = some (.int .i64 q')) ∧ Below n w0 w ∧ n + 1 + 1 + 1 < w.heap.size
section
variable {n : Nat} {w0 : World} {x y a b x' y' a' b' p q p' q' : Int} {w w1 : World}
theorem rrpp_out (h : Rrpp n w0 x y a b x' y' a' b' p q p' q' w) : (w.cell? ⟨n, 0, none⟩ = some (.int .i64 x) ∧ w.cell? ⟨n, 1, none⟩ = some (.int .i64 y) ∧ w.cell? ⟨n, 2, none⟩ = some (.int .i64 a) ∧ w.cell? ⟨n, 3, none⟩ = some (.int .i64 b)) ∧ (w.cell? ⟨n + 1, 0, none⟩ = some (.int .i64 x') ∧ w.cell? ⟨n + 1, 1, none⟩ = some (.int .i64 y') ∧ w.cell? ⟨n + 1, 2, none⟩ = some (.int .i64 a') ∧ w.cell? ⟨n + 1, 3, none⟩ = some (.int .i64 b')) ∧ (w.cell? ⟨n + 1 + 1, 0, none⟩ = some (.int .i64 p) ∧ w.cell? ⟨n + 1 + 1, 1, none⟩ = some (.int .i64 q)) ∧ (w.cell? ⟨n + 1 + 1 + 1, 0, none⟩ = some (.int .i64 p') ∧ w.cell? ⟨n + 1 + 1 + 1, 1, none⟩ = some (.int .i64 q')) ∧ Below n w0 w ∧ n + 1 + 1 + 1 < w.heap.size := h
theorem rrpp_drew (h : Rrpp n w0 x y a b x' y' a' b' p q p' q' w) : Rrpp n w0 x y a b x' y' a' b' p q p' q' w.drew := by
  obtain ⟨h0, h1, h2, h3, hB, hz⟩ := h
  exact ⟨h0, h1, h2, h3, hB.drew, hz⟩
theorem rrpp_next (hb : Below w.heap.size w w1) (h : Rrpp n w0 x y a b x' y' a' b' p q p' q' w) : Rrpp n w0 x y a b x' y' a' b' p q p' q' w1 := by
  obtain ⟨⟨c00, c01, c02, c03⟩, ⟨c10, c11, c12, c13⟩, ⟨c20, c21⟩, ⟨c30, c31⟩, hB, hz⟩ := h
  obtain ⟨hc, _⟩ := bcell hb
  have hs := hb.size
  exact ⟨⟨(hc _ _ (by omega)).trans c00, (hc _ _ (by omega)).trans c01, (hc _ _ (by omega)).trans c02, (hc _ _ (by omega)).trans c03⟩, ⟨(hc _ _ (by omega)).trans c10, (hc _ _ (by omega)).trans c11, (hc _ _ (by omega)).trans c12, (hc _ _ (by omega)).trans c13⟩, ⟨(hc _ _ (by omega)).trans c20, (hc _ _ (by omega)).trans c21⟩, ⟨(hc _ _ (by omega)).trans c30, (hc _ _ (by omega)).trans c31⟩, hB.trans (hb.mono (by omega)), by omega⟩
theorem rrpp_start (w : World) (x y a b x' y' a' b' p q p' q' : Int) (t0 t1 t2 t3 : TypeId) : Rrpp w.heap.size w x y a b x' y' a' b' p q p' q' ((((w.alloc (.cells #[.int .i64 x, .int .i64 y, .int .i64 a, .int .i64 b] t0)).alloc (.cells #[.int .i64 x', .int .i64 y', .int .i64 a', .int .i64 b'] t1)).alloc (.cells #[.int .i64 p, .int .i64 q] t2)).alloc (.cells #[.int .i64 p', .int .i64 q'] t3)) := by
  refine ⟨⟨?_, ?_, ?_, ?_⟩, ⟨?_, ?_, ?_, ?_⟩, ⟨?_, ?_⟩, ⟨?_, ?_⟩, ?_, by simp⟩
  all_goals first | (simp [go_sem]; done) | (repeat' (first | (with_reducible exact Below.refl _ _) | (with_reducible assumption) | (with_reducible refine Below.alloc ?_ ?_ _) | (with_reducible refine Below.drew ?_) | (with_reducible refine Below.setCell ?_ ?_ _) | (with_reducible refine Below.on (by with_reducible assumption) ?_ ?_) | go_size))
end
set_option maxHeartbeats 8000000 in
theorem meets_w (x y a b x' y' a' b' p q p' q' : Int) (w : World) : Calls Try.prog 5 #[.agg #[.int .i64 x, .int .i64 y, .int .i64 a, .int .i64 b], .agg #[.int .i64 x', .int .i64 y', .int .i64 a', .int .i64 b'], .agg #[.int .i64 p, .int .i64 q], .agg #[.int .i64 p', .int .i64 q']] w fun e w' => e = .returned (.bool true) ∧ Below w.heap.size w w' := by
  have HS := Lib.hid (rrpp_start w x y a b x' y' a' b' p q p' q' 27 27 29 29)
  go_enter Try.func5, Try.ntmps5
  go_wp2
  have hS := HS.out
  go_region_held3 (fun wx => (wx.cell? ⟨w.heap.size, 0, none⟩ = some (.int .i64 x) ∧ wx.cell? ⟨w.heap.size, 1, none⟩ = some (.int .i64 y) ∧ wx.cell? ⟨w.heap.size, 2, none⟩ = some (.int .i64 a) ∧ wx.cell? ⟨w.heap.size, 3, none⟩ = some (.int .i64 b)) ∧ (wx.cell? ⟨w.heap.size + 1, 0, none⟩ = some (.int .i64 x') ∧ wx.cell? ⟨w.heap.size + 1, 1, none⟩ = some (.int .i64 y') ∧ wx.cell? ⟨w.heap.size + 1, 2, none⟩ = some (.int .i64 a') ∧ wx.cell? ⟨w.heap.size + 1, 3, none⟩ = some (.int .i64 b')) ∧ (wx.cell? ⟨w.heap.size + 1 + 1, 0, none⟩ = some (.int .i64 p) ∧ wx.cell? ⟨w.heap.size + 1 + 1, 1, none⟩ = some (.int .i64 q)) ∧ (wx.cell? ⟨w.heap.size + 1 + 1 + 1, 0, none⟩ = some (.int .i64 p') ∧ wx.cell? ⟨w.heap.size + 1 + 1 + 1, 1, none⟩ = some (.int .i64 q')) ∧ Below w.heap.size w wx ∧ w.heap.size + 1 + 1 + 1 < wx.heap.size)
    ((show Rrpp w.heap.size w x y a b x' y' a' b' p q p' q' _; first | (with_reducible exact rrpp_drew hS) | (refine rrpp_next hb ?_; assumption) | assumption))
    (first | (go_at_call 23; refine (between_c _ _ _ _ _).mono ?_; rintro e w1 ⟨rfl, hb⟩) | (go_at_call 24; refine (from_c _ _ _ _ _).mono ?_; rintro e w1 ⟨rfl, hb⟩) | (go_at_call 25; refine (inter_c _ _ _ _ _ _ _ _ _).mono ?_; rintro e w1 ⟨rfl, hb⟩) | (go_at_call 26; refine (rinter_c _ _ _ _ _ _ _ _ _).mono ?_; rintro e w1 ⟨rfl, hb⟩) | (go_at_call 27; refine (hull_c _ _ _ _ _ _ _ _ _).mono ?_; rintro e w1 ⟨rfl, hb⟩) | (go_at_call 28; refine (rhull_c _ _ _ _ _ _ _ _ _).mono ?_; rintro e w1 ⟨rfl, hb⟩) | (go_at_call 29; refine (inside_c _ _ _ _ _ _ _ _ _).mono ?_; rintro e w1 ⟨rfl, hb⟩) | (go_at_call 30; refine (rinside_c _ _ _ _ _ _ _ _ _).mono ?_; rintro e w1 ⟨rfl, hb⟩) | (go_at_call 14; refine (awake_c _).mono ?_; rintro e w1 ⟨rfl, hb⟩; have hT : Rrpp w.heap.size w x y a b x' y' a' b' p q p' q' w1 := rrpp_next hb (by assumption)))
  go_wp2
  go_ret
  exact ⟨rfl, (rrpp_out hT).2.2.2.2.1⟩
end Go.Proofs.Ytkciaedhocackaa
