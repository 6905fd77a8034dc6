import Derived.Test.YthppjmhocmppfaaDoorGeoD
namespace Go.Proofs.YthppjmhocmppfaaDoor
open Go.RowKit
/-- A rectangle in block n, and block n + 1 for what is answered. -/
abbrev OneS (n : Nat) (w0 : World) (x y a b : Int) (w : World) : Prop :=
  (w.cell? ⟨n, 0, none⟩ = some (.int .i64 x) ∧ w.cell? ⟨n, 1, none⟩ = some (.int .i64 y) ∧ w.cell? ⟨n, 2, none⟩ = some (.int .i64 a) ∧ w.cell? ⟨n, 3, none⟩ = some (.int .i64 b)) ∧
  (w.frozen? ⟨n, 0, none⟩ = false ∧ w.frozen? ⟨n, 1, none⟩ = false ∧ w.frozen? ⟨n, 2, none⟩ = false ∧ w.frozen? ⟨n, 3, none⟩ = false) ∧
  (w.cell? ⟨n + 1, 0, none⟩ = some (cellOr w (n + 1) 0) ∧ w.cell? ⟨n + 1, 1, none⟩ = some (cellOr w (n + 1) 1) ∧ w.cell? ⟨n + 1, 2, none⟩ = some (cellOr w (n + 1) 2) ∧ w.cell? ⟨n + 1, 3, none⟩ = some (cellOr w (n + 1) 3)) ∧
  (w.frozen? ⟨n + 1, 0, none⟩ = false ∧ w.frozen? ⟨n + 1, 1, none⟩ = false ∧ w.frozen? ⟨n + 1, 2, none⟩ = false ∧ w.frozen? ⟨n + 1, 3, none⟩ = false) ∧
  Below n w0 w ∧ n + 1 < w.heap.size
def One (n : Nat) (w0 : World) (x y a b : Int) (w : World) : Prop := OneS n w0 x y a b w
section
variable {n : Nat} {w0 : World} {x y a b : Int} {w w1 : World}
theorem one_out (h : One n w0 x y a b w) : OneS n w0 x y a b w := h
theorem one_drew (h : One n w0 x y a b w) : One n w0 x y a b w.drew := by
  obtain ⟨h1, h2, h3, h4, h5, h6⟩ := h
  exact ⟨h1, h2, h3, h4, h5.drew, h6⟩
theorem one_next (hb : Below w.heap.size w w1) (h : One n w0 x y a b w) : One n w0 x y a b w1 := by
  obtain ⟨⟨a1, a2, a3, a4⟩, ⟨b1, b2, b3, b4⟩, ⟨c1, c2, c3, c4⟩, ⟨d1, d2, d3, d4⟩, h5, h6⟩ := h
  obtain ⟨hc, hf⟩ := bcell hb
  have hs := hb.size
  refine ⟨⟨?_, ?_, ?_, ?_⟩, ⟨?_, ?_, ?_, ?_⟩, ⟨cellOr_of ((hc _ _ (by omega)).trans c1), cellOr_of ((hc _ _ (by omega)).trans c2), cellOr_of ((hc _ _ (by omega)).trans c3), cellOr_of ((hc _ _ (by omega)).trans c4)⟩, ⟨?_, ?_, ?_, ?_⟩, h5.trans (hb.mono (by omega)), by omega⟩
  all_goals first | (rw [hc _ _ (by omega)]; assumption) | (rw [hf _ _ (by omega)]; assumption)
theorem one_set (h : One n w0 x y a b w) (o : Nat) (v : Value) : One n w0 x y a b (w.setCell ⟨n + 1, o, none⟩ v) := by
  obtain ⟨⟨a1, a2, a3, a4⟩, ⟨b1, b2, b3, b4⟩, ⟨c1, c2, c3, c4⟩, ⟨d1, d2, d3, d4⟩, h5, h6⟩ := h
  have hk (o' : Nat) (u : Value) (hu : w.cell? ⟨n + 1, o', none⟩ = some u) : (w.setCell ⟨n + 1, o, none⟩ v).cell? ⟨n + 1, o', none⟩ = some (cellOr (w.setCell ⟨n + 1, o, none⟩ v) (n + 1) o') := by
    obtain ⟨u', hu'⟩ := cell?_setCell_some (w := w) (p := ⟨n + 1, o, none⟩) (x := v) (q := ⟨n + 1, o', none⟩) (v := u) hu
    exact cellOr_of hu'
  refine ⟨⟨?_, ?_, ?_, ?_⟩, ⟨?_, ?_, ?_, ?_⟩, ⟨hk _ _ c1, hk _ _ c2, hk _ _ c3, hk _ _ c4⟩, ⟨?_, ?_, ?_, ?_⟩, h5.setCell (by simp) _, by simpa using h6⟩
  all_goals (simp [go_sem, *])
theorem one_start (w : World) (x y a b : Int) (t t' : TypeId) : One w.heap.size w x y a b ((w.alloc (.cells #[.int .i64 x, .int .i64 y, .int .i64 a, .int .i64 b] t)).alloc (.cells #[.int .i64 0, .int .i64 0, .int .i64 0, .int .i64 0] t')) := by
  refine ⟨⟨?_, ?_, ?_, ?_⟩, ⟨?_, ?_, ?_, ?_⟩, ⟨cellOr_of (v := .int .i64 0) ?_, cellOr_of (v := .int .i64 0) ?_, cellOr_of (v := .int .i64 0) ?_, cellOr_of (v := .int .i64 0) ?_⟩, ⟨?_, ?_, ?_, ?_⟩, ?_, by simp⟩
  all_goals first | (simp [go_sem]; done) | (repeat' (first | (with_reducible exact Below.refl _ _) | (with_reducible assumption) | (with_reducible refine Below.alloc ?_ ?_ _) | (with_reducible refine Below.drew ?_) | (with_reducible refine Below.setCell ?_ ?_ _) | (with_reducible refine Below.on (by with_reducible assumption) ?_ ?_) | go_size))
end
theorem two_fz (w w1 : World) (x y a b x' y' a' b' : Int) (t t' t'' : TypeId) (hb : Below ((((w.alloc (.cells #[.int .i64 x, .int .i64 y, .int .i64 a, .int .i64 b] t)).alloc (.cells #[.int .i64 x', .int .i64 y', .int .i64 a', .int .i64 b'] t')).alloc (.cells #[.int .i64 0, .int .i64 0, .int .i64 0, .int .i64 0] t'')).heap.size) (((w.alloc (.cells #[.int .i64 x, .int .i64 y, .int .i64 a, .int .i64 b] t)).alloc (.cells #[.int .i64 x', .int .i64 y', .int .i64 a', .int .i64 b'] t')).alloc (.cells #[.int .i64 0, .int .i64 0, .int .i64 0, .int .i64 0] t'')) w1) :
    w1.frozen? ⟨w.heap.size, 0, none⟩ = false ∧ w1.frozen? ⟨w.heap.size, 1, none⟩ = false ∧ w1.frozen? ⟨w.heap.size, 2, none⟩ = false ∧ w1.frozen? ⟨w.heap.size, 3, none⟩ = false := by
  obtain ⟨hc, hf⟩ := bcell hb
  refine ⟨?_, ?_, ?_, ?_⟩
  all_goals (rw [hf _ _ (by simp; omega)]; simp [go_sem])
end Go.Proofs.YthppjmhocmppfaaDoor
