import Derived.Test.YtdmoncpeoaoppaaGeoC
namespace Go.Proofs.Ytdmoncpeoaoppaa
open Go.RowKit
/-- What a cell holds. -/
def cellOr (w : World) (b o : Nat) : Value := (w.cell? ⟨b, o, none⟩).getD undef
theorem cellOr_of {w : World} {b o : Nat} {v : Value} (h : w.cell? ⟨b, o, none⟩ = some v) : w.cell? ⟨b, o, none⟩ = some (cellOr w b o) := by unfold cellOr; rw [h]; rfl
/-- Two rectangles that lie in blocks n and n + 1, and a third block for what is answered: written out. -/
abbrev TwoS (n : Nat) (w0 : World) (x y a b x' y' a' b' : Int) (w : World) : Prop :=
  (w.cell? ⟨n, 0, none⟩ = some (.int .i64 x) ∧ w.cell? ⟨n, 1, none⟩ = some (.int .i64 y) ∧ w.cell? ⟨n, 2, none⟩ = some (.int .i64 a) ∧ w.cell? ⟨n, 3, none⟩ = some (.int .i64 b)) ∧
  (w.cell? ⟨n + 1, 0, none⟩ = some (.int .i64 x') ∧ w.cell? ⟨n + 1, 1, none⟩ = some (.int .i64 y') ∧ w.cell? ⟨n + 1, 2, none⟩ = some (.int .i64 a') ∧ w.cell? ⟨n + 1, 3, none⟩ = some (.int .i64 b')) ∧
  (w.cell? ⟨n + 1 + 1, 0, none⟩ = some (cellOr w (n + 1 + 1) 0) ∧ w.cell? ⟨n + 1 + 1, 1, none⟩ = some (cellOr w (n + 1 + 1) 1) ∧ w.cell? ⟨n + 1 + 1, 2, none⟩ = some (cellOr w (n + 1 + 1) 2) ∧ w.cell? ⟨n + 1 + 1, 3, none⟩ = some (cellOr w (n + 1 + 1) 3)) ∧
  (w.frozen? ⟨n + 1 + 1, 0, none⟩ = false ∧ w.frozen? ⟨n + 1 + 1, 1, none⟩ = false ∧ w.frozen? ⟨n + 1 + 1, 2, none⟩ = false ∧ w.frozen? ⟨n + 1 + 1, 3, none⟩ = false) ∧
  Below n w0 w ∧ n + 1 + 1 < w.heap.size
/-- The same, under one name. -/
def Two (n : Nat) (w0 : World) (x y a b x' y' a' b' : Int) (w : World) : Prop := TwoS n w0 x y a b x' y' a' b' w
section
variable {n : Nat} {w0 : World} {x y a b x' y' a' b' : Int} {w w1 : World}
theorem two_out (h : Two n w0 x y a b x' y' a' b' w) : TwoS n w0 x y a b x' y' a' b' w := h
theorem two_drew (h : Two n w0 x y a b x' y' a' b' w) : Two n w0 x y a b x' y' a' b' w.drew := by
  obtain ⟨h1, h2, h3, h4, h5, h6⟩ := h
  exact ⟨h1, h2, h3, h4, h5.drew, h6⟩
theorem two_next (hb : Below w.heap.size w w1) (h : Two n w0 x y a b x' y' a' b' w) : Two n w0 x y a b x' y' a' b' w1 := by
  obtain ⟨⟨a1, a2, a3, a4⟩, ⟨b1, b2, b3, b4⟩, ⟨c1, c2, c3, c4⟩, ⟨d1, d2, d3, d4⟩, h5, h6⟩ := h
  obtain ⟨hc, hf⟩ := bcell hb
  have hs := hb.size
  refine ⟨⟨?_, ?_, ?_, ?_⟩, ⟨?_, ?_, ?_, ?_⟩, ⟨cellOr_of ((hc _ _ (by omega)).trans c1), cellOr_of ((hc _ _ (by omega)).trans c2), cellOr_of ((hc _ _ (by omega)).trans c3), cellOr_of ((hc _ _ (by omega)).trans c4)⟩, ⟨?_, ?_, ?_, ?_⟩, h5.trans (hb.mono (by omega)), by omega⟩
  all_goals first | (rw [hc _ _ (by omega)]; assumption) | (rw [hf _ _ (by omega)]; assumption)
theorem two_set (h : Two n w0 x y a b x' y' a' b' w) (o : Nat) (v : Value) : Two n w0 x y a b x' y' a' b' (w.setCell ⟨n + 1 + 1, o, none⟩ v) := by
  obtain ⟨⟨a1, a2, a3, a4⟩, ⟨b1, b2, b3, b4⟩, ⟨c1, c2, c3, c4⟩, ⟨d1, d2, d3, d4⟩, h5, h6⟩ := h
  have hk (o' : Nat) (u : Value) (hu : w.cell? ⟨n + 1 + 1, o', none⟩ = some u) : (w.setCell ⟨n + 1 + 1, o, none⟩ v).cell? ⟨n + 1 + 1, o', none⟩ = some (cellOr (w.setCell ⟨n + 1 + 1, o, none⟩ v) (n + 1 + 1) o') := by
    obtain ⟨u', hu'⟩ := cell?_setCell_some (w := w) (p := ⟨n + 1 + 1, o, none⟩) (x := v) (q := ⟨n + 1 + 1, o', none⟩) (v := u) hu
    exact cellOr_of hu'
  refine ⟨⟨?_, ?_, ?_, ?_⟩, ⟨?_, ?_, ?_, ?_⟩, ⟨hk _ _ c1, hk _ _ c2, hk _ _ c3, hk _ _ c4⟩, ⟨?_, ?_, ?_, ?_⟩, h5.setCell (by simp; omega) _, by simpa using h6⟩
  all_goals (simp [go_sem, *])
theorem two_start (w : World) (x y a b x' y' a' b' : Int) (t t' t'' : TypeId) : Two w.heap.size w x y a b x' y' a' b' (((w.alloc (.cells #[.int .i64 x, .int .i64 y, .int .i64 a, .int .i64 b] t)).alloc (.cells #[.int .i64 x', .int .i64 y', .int .i64 a', .int .i64 b'] t')).alloc (.cells #[.int .i64 0, .int .i64 0, .int .i64 0, .int .i64 0] t'')) := by
  refine ⟨⟨?_, ?_, ?_, ?_⟩, ⟨?_, ?_, ?_, ?_⟩, ⟨cellOr_of (v := .int .i64 0) ?_, cellOr_of (v := .int .i64 0) ?_, cellOr_of (v := .int .i64 0) ?_, cellOr_of (v := .int .i64 0) ?_⟩, ⟨?_, ?_, ?_, ?_⟩, ?_, by simp⟩
  all_goals first | (simp [go_sem]; done) | (repeat' (first | (with_reducible exact Below.refl _ _) | (with_reducible assumption) | (with_reducible refine Below.alloc ?_ ?_ _) | (with_reducible refine Below.drew ?_) | (with_reducible refine Below.setCell ?_ ?_ _) | (with_reducible refine Below.on (by with_reducible assumption) ?_ ?_) | go_size))
end
set_option maxHeartbeats 1000000 in
theorem inter_c (x y a b x' y' a' b' : Int) (w : World) :
    Calls Try.prog 25 #[.agg #[.int .i64 x, .int .i64 y, .int .i64 a, .int .i64 b], .agg #[.int .i64 x', .int .i64 y', .int .i64 a', .int .i64 b']] w fun e w' => e = .returned (.agg #[.int .i64 (interR x y a b x' y' a' b').x, .int .i64 (interR x y a b x' y' a' b').y, .int .i64 (interR x y a b x' y' a' b').w, .int .i64 (interR x y a b x' y' a' b').h]) ∧ Below w.heap.size w w' := by
  cases hE : emptyB x y a b
  · cases hE' : emptyB x' y' a' b'
    · obtain ⟨⟨h1, h2, h3, h4⟩, h5, h6, h7, h8⟩ := (emptyB_iff x y a b).1 hE
      obtain ⟨⟨k1, k2, k3, k4⟩, k5, k6, k7, k8⟩ := (emptyB_iff x' y' a' b').1 hE'
      rw [interR_of hE hE']
      go_enter Try.func25, Try.ntmps25
      go_wp2_with (go_at_call 23; refine (empty_c _ _ _ _ _).mono ?_; rintro e w1 ⟨rfl, hb⟩; have hS : Two w.heap.size w x y a b x' y' a' b' w1 := two_next hb (by first | assumption | exact two_start _ _ _ _ _ _ _ _ _ _ _ _); clear hb; obtain ⟨⟨ca0, ca1, ca2, ca3⟩, ⟨cb0, cb1, cb2, cb3⟩, ⟨cr0, cr1, cr2, cr3⟩, ⟨cf0, cf1, cf2, cf3⟩, hB, hz⟩ := two_out hS)
      go_region_held3 (fun wx => (wx.cell? ⟨w.heap.size, 0, none⟩ = some (.int .i64 x) ∧ wx.cell? ⟨w.heap.size, 1, none⟩ = some (.int .i64 y) ∧ wx.cell? ⟨w.heap.size, 2, none⟩ = some (.int .i64 a) ∧ wx.cell? ⟨w.heap.size, 3, none⟩ = some (.int .i64 b)) ∧ (wx.cell? ⟨w.heap.size + 1, 0, none⟩ = some (.int .i64 x') ∧ wx.cell? ⟨w.heap.size + 1, 1, none⟩ = some (.int .i64 y') ∧ wx.cell? ⟨w.heap.size + 1, 2, none⟩ = some (.int .i64 a') ∧ wx.cell? ⟨w.heap.size + 1, 3, none⟩ = some (.int .i64 b')) ∧ (wx.cell? ⟨w.heap.size + 1 + 1, 0, none⟩ = some (cellOr wx (w.heap.size + 1 + 1) 0) ∧ wx.cell? ⟨w.heap.size + 1 + 1, 1, none⟩ = some (cellOr wx (w.heap.size + 1 + 1) 1) ∧ wx.cell? ⟨w.heap.size + 1 + 1, 2, none⟩ = some (cellOr wx (w.heap.size + 1 + 1) 2) ∧ wx.cell? ⟨w.heap.size + 1 + 1, 3, none⟩ = some (cellOr wx (w.heap.size + 1 + 1) 3)) ∧ (wx.frozen? ⟨w.heap.size + 1 + 1, 0, none⟩ = false ∧ wx.frozen? ⟨w.heap.size + 1 + 1, 1, none⟩ = false ∧ wx.frozen? ⟨w.heap.size + 1 + 1, 2, none⟩ = false ∧ wx.frozen? ⟨w.heap.size + 1 + 1, 3, none⟩ = false) ∧ Below w.heap.size w wx ∧ w.heap.size + 1 + 1 < wx.heap.size)
        ((show Two w.heap.size w x y a b x' y' a' b' _; first | (with_reducible exact two_drew hS) | (refine two_next hb ?_; assumption) | (refine two_set (two_set (two_set (two_set ?_ _ _) _ _) _ _) _ _; assumption)))
        (first | (go_at_call 55; refine (first_c _ _ _ _ _).mono ?_; rintro e w1 ⟨rfl, hb⟩) | (go_at_call 57; refine (behind_c _ _ _ _ _ (by omega) (by omega) (by omega) (by omega) (by omega) (by omega) (by omega) (by omega)).mono ?_; rintro e w1 ⟨rfl, hb⟩) | (go_at_call 56; refine (leastOf_c _ _ _ _ _).mono ?_; rintro e w1 ⟨rfl, hb⟩) | (go_at_call 54; refine (mostOf_c _ _ _ _ _).mono ?_; rintro e w1 ⟨rfl, hb⟩) | (go_at_call 53; refine (between_c _ _ _ _ _).mono ?_; rintro e w1 ⟨rfl, hb⟩; have hT : Two w.heap.size w x y a b x' y' a' b' w1 := two_next hb (by assumption)))
      obtain ⟨⟨ca0, ca1, ca2, ca3⟩, ⟨cb0, cb1, cb2, cb3⟩, ⟨cr0, cr1, cr2, cr3⟩, ⟨cf0, cf1, cf2, cf3⟩, hB, hz⟩ := two_out hT
      go_wp2
      refine bodyPost_ret (by simp [results, Try.results25, go_sem, cr0, cr1, cr2, cr3]; try rfl) rfl ?_
      exact ⟨rfl, by repeat' (first | (with_reducible exact Below.refl _ _) | (with_reducible assumption) | (with_reducible refine Below.alloc ?_ ?_ _) | (with_reducible refine Below.drew ?_) | (with_reducible refine Below.setCell ?_ ?_ _) | (with_reducible refine Below.on (by with_reducible assumption) ?_ ?_) | go_size)⟩
    · go_enter Try.func25, Try.ntmps25
      go_wp2_with (go_at_call 23; refine (empty_c _ _ _ _ _).mono ?_; rintro e w1 ⟨rfl, hb⟩; have hS : Two w.heap.size w x y a b x' y' a' b' w1 := two_next hb (by first | assumption | exact two_start _ _ _ _ _ _ _ _ _ _ _ _); clear hb; obtain ⟨⟨ca0, ca1, ca2, ca3⟩, ⟨cb0, cb1, cb2, cb3⟩, ⟨cr0, cr1, cr2, cr3⟩, ⟨cf0, cf1, cf2, cf3⟩, hB, hz⟩ := two_out hS)
      refine bodyPost_ret (by simp [results, Try.results25, go_sem, cr0, cr1, cr2, cr3]; try rfl) rfl ?_
      exact ⟨ret_rc (by unfold interR; rw [if_pos (Or.inr hE')]; rfl), by repeat' (first | (with_reducible exact Below.refl _ _) | (with_reducible assumption) | (with_reducible refine Below.alloc ?_ ?_ _) | (with_reducible refine Below.drew ?_) | (with_reducible refine Below.setCell ?_ ?_ _) | (with_reducible refine Below.on (by with_reducible assumption) ?_ ?_) | go_size)⟩
  · go_enter Try.func25, Try.ntmps25
    go_wp2_with (go_at_call 23; refine (empty_c _ _ _ _ _).mono ?_; rintro e w1 ⟨rfl, hb⟩; have hS : Two w.heap.size w x y a b x' y' a' b' w1 := two_next hb (by first | assumption | exact two_start _ _ _ _ _ _ _ _ _ _ _ _); clear hb; obtain ⟨⟨ca0, ca1, ca2, ca3⟩, ⟨cb0, cb1, cb2, cb3⟩, ⟨cr0, cr1, cr2, cr3⟩, ⟨cf0, cf1, cf2, cf3⟩, hB, hz⟩ := two_out hS)
    refine bodyPost_ret (by simp [results, Try.results25, go_sem, cr0, cr1, cr2, cr3]; try rfl) rfl ?_
    exact ⟨ret_rc (by unfold interR; rw [if_pos (Or.inl hE)]; rfl), by repeat' (first | (with_reducible exact Below.refl _ _) | (with_reducible assumption) | (with_reducible refine Below.alloc ?_ ?_ _) | (with_reducible refine Below.drew ?_) | (with_reducible refine Below.setCell ?_ ?_ _) | (with_reducible refine Below.on (by with_reducible assumption) ?_ ?_) | go_size)⟩
end Go.Proofs.Ytdmoncpeoaoppaa
