import Derived.Test.YtkciaedhocackaaLawA
namespace Go.Proofs.Ytkciaedhocackaa
open Go.RowKit
attribute [local go_sem ↓] eql_rect neq_rect
/-- What a drawn region keeps: blocks n, n + 1, .. hold these numbers. -/
def Rp (n : Nat) (w0 : World) (x y a b p q : Int) (w : World) : Prop :=
  (w.cell? ⟨n, 0, none⟩ = some (.int .i64 x) ∧ w.cell? ⟨n, 1, none⟩ = some (.int .i64 y) ∧ w.cell? ⟨n, 2, none⟩ = some (.int .i64 a) ∧ w.cell? ⟨n, 3, none⟩ = some (.int .i64 b)) ∧ (w.cell? ⟨n + 1, 0, none⟩ = some (.int .i64 p) ∧ w.cell? ⟨n + 1, 1, none⟩ = some (.int .i64 q)) ∧ Below n w0 w ∧ n + 1 < w.heap.size
section
variable {n : Nat} {w0 : World} {x y a b p q : Int} {w w1 : World}
theorem rp_out (h : Rp n w0 x y a b p q w) : (w.cell? ⟨n, 0, none⟩ = some (.int .i64 x) ∧ w.cell? ⟨n, 1, none⟩ = some (.int .i64 y) ∧ w.cell? ⟨n, 2, none⟩ = some (.int .i64 a) ∧ w.cell? ⟨n, 3, none⟩ = some (.int .i64 b)) ∧ (w.cell? ⟨n + 1, 0, none⟩ = some (.int .i64 p) ∧ w.cell? ⟨n + 1, 1, none⟩ = some (.int .i64 q)) ∧ Below n w0 w ∧ n + 1 < w.heap.size := h
theorem rp_drew (h : Rp n w0 x y a b p q w) : Rp n w0 x y a b p q w.drew := by
  obtain ⟨h0, h1, hB, hz⟩ := h
  exact ⟨h0, h1, hB.drew, hz⟩
theorem rp_next (hb : Below w.heap.size w w1) (h : Rp n w0 x y a b p q w) : Rp n w0 x y a b p q w1 := by
  obtain ⟨⟨c00, c01, c02, c03⟩, ⟨c10, c11⟩, hB, hz⟩ := h
  obtain ⟨hc, _⟩ := bcell hb
  have hs := hb.size
  exact ⟨⟨(hc _ _ (by omega)).trans c00, (hc _ _ (by omega)).trans c01, (hc _ _ (by omega)).trans c02, (hc _ _ (by omega)).trans c03⟩, ⟨(hc _ _ (by omega)).trans c10, (hc _ _ (by omega)).trans c11⟩, hB.trans (hb.mono (by omega)), by omega⟩
theorem rp_start (w : World) (x y a b p q : Int) (t0 t1 : TypeId) : Rp w.heap.size w x y a b p q ((w.alloc (.cells #[.int .i64 x, .int .i64 y, .int .i64 a, .int .i64 b] t0)).alloc (.cells #[.int .i64 p, .int .i64 q] t1)) := by
  refine ⟨⟨?_, ?_, ?_, ?_⟩, ⟨?_, ?_⟩, ?_, by simp⟩
  all_goals first | (simp [go_sem]; done) | (repeat' (first | (with_reducible exact Below.refl _ _) | (with_reducible assumption) | (with_reducible refine Below.alloc ?_ ?_ _) | (with_reducible refine Below.drew ?_) | (with_reducible refine Below.setCell ?_ ?_ _) | (with_reducible refine Below.on (by with_reducible assumption) ?_ ?_) | go_size))
end

set_option maxHeartbeats 8000000 in
theorem rects_w (x y a b p q : Int) (w : World) : Calls Try.prog 4 #[.agg #[.int .i64 x, .int .i64 y, .int .i64 a, .int .i64 b], .agg #[.int .i64 p, .int .i64 q]] w fun e w' => e = .returned (.bool true) ∧ Below w.heap.size w w' := by
  have HS := Lib.hid (rp_start w x y a b p q 27 29)
  go_enter Try.func4, Try.ntmps4
  go_wp2
  have hS := HS.out
  go_region_held3 (fun wx => (wx.cell? ⟨w.heap.size, 0, none⟩ = some (.int .i64 x) ∧ wx.cell? ⟨w.heap.size, 1, none⟩ = some (.int .i64 y) ∧ wx.cell? ⟨w.heap.size, 2, none⟩ = some (.int .i64 a) ∧ wx.cell? ⟨w.heap.size, 3, none⟩ = some (.int .i64 b)) ∧ (wx.cell? ⟨w.heap.size + 1, 0, none⟩ = some (.int .i64 p) ∧ wx.cell? ⟨w.heap.size + 1, 1, none⟩ = some (.int .i64 q)) ∧ Below w.heap.size w wx ∧ w.heap.size + 1 < wx.heap.size)
    ((show Rp w.heap.size w x y a b p q _; first | (with_reducible exact rp_drew hS) | (refine rp_next hb ?_; assumption) | assumption))
    (first | (go_at_call 15; refine (right_c _ _ _ _ _).mono ?_; rintro e w1 ⟨rfl, hb⟩) | (go_at_call 16; refine (rright_c _ _ _ _ _).mono ?_; rintro e w1 ⟨rfl, hb⟩) | (go_at_call 17; refine (empty_c _ _ _ _ _).mono ?_; rintro e w1 ⟨rfl, hb⟩) | (go_at_call 18; refine (rempty_c _ _ _ _ _).mono ?_; rintro e w1 ⟨rfl, hb⟩) | (go_at_call 19; refine (area_c _ _ _ _ _).mono ?_; rintro e w1 ⟨rfl, hb⟩) | (go_at_call 20; refine (rarea_c _ _ _ _ _).mono ?_; rintro e w1 ⟨rfl, hb⟩) | (go_at_call 21; refine (has_c _ _ _ _ _ _ _).mono ?_; rintro e w1 ⟨rfl, hb⟩) | (go_at_call 22; refine (rhas_c _ _ _ _ _ _ _).mono ?_; rintro e w1 ⟨rfl, hb⟩) | (go_at_call 14; refine (awake_c _).mono ?_; rintro e w1 ⟨rfl, hb⟩; have hT : Rp w.heap.size w x y a b p q w1 := rp_next hb (by assumption)))
  go_wp2
  go_ret
  exact ⟨rfl, hT.2.2.1⟩
end Go.Proofs.Ytkciaedhocackaa
