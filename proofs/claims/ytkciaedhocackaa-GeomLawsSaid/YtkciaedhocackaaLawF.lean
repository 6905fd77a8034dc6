import Derived.Test.YtkciaedhocackaaLawA
import Derived.Test.YtkciaedhocackaaPlainB
namespace Go.Proofs.Ytkciaedhocackaa
open Go.RowKit
attribute [local go_sem ↓] eql_rect neq_rect
/-- What a drawn region keeps: blocks n, n + 1, .. hold these numbers. -/
def Rrr (n : Nat) (w0 : World) (x y a b x' y' a' b' x2 y2 a2 b2 : Int) (w : World) : Prop :=
  (w.cell? ⟨n, 0, none⟩ = some (.int .i64 x) ∧ w.cell? ⟨n, 1, none⟩ = some (.int .i64 y) ∧ w.cell? ⟨n, 2, none⟩ = some (.int .i64 a) ∧ w.cell? ⟨n, 3, none⟩ = some (.int .i64 b)) ∧ (w.cell? ⟨n + 1, 0, none⟩ = some (.int .i64 x') ∧ w.cell? ⟨n + 1, 1, none⟩ = some (.int .i64 y') ∧ w.cell? ⟨n + 1, 2, none⟩ = some (.int .i64 a') ∧ w.cell? ⟨n + 1, 3, none⟩ = some (.int .i64 b')) ∧ (w.cell? ⟨n + 1 + 1, 0, none⟩ = some (.int .i64 x2) ∧ w.cell? ⟨n + 1 + 1, 1, none⟩ = some (.int .i64 y2) ∧ w.cell? ⟨n + 1 + 1, 2, none⟩ = some (.int .i64 a2) ∧ w.cell? ⟨n + 1 + 1, 3, none⟩ = some (.int .i64 b2)) ∧ Below n w0 w ∧ n + 1 + 1 < w.heap.size
section
variable {n : Nat} {w0 : World} {x y a b x' y' a' b' x2 y2 a2 b2 : Int} {w w1 : World}
theorem rrr_out (h : Rrr n w0 x y a b x' y' a' b' x2 y2 a2 b2 w) : (w.cell? ⟨n, 0, none⟩ = some (.int .i64 x) ∧ w.cell? ⟨n, 1, none⟩ = some (.int .i64 y) ∧ w.cell? ⟨n, 2, none⟩ = some (.int .i64 a) ∧ w.cell? ⟨n, 3, none⟩ = some (.int .i64 b)) ∧ (w.cell? ⟨n + 1, 0, none⟩ = some (.int .i64 x') ∧ w.cell? ⟨n + 1, 1, none⟩ = some (.int .i64 y') ∧ w.cell? ⟨n + 1, 2, none⟩ = some (.int .i64 a') ∧ w.cell? ⟨n + 1, 3, none⟩ = some (.int .i64 b')) ∧ (w.cell? ⟨n + 1 + 1, 0, none⟩ = some (.int .i64 x2) ∧ w.cell? ⟨n + 1 + 1, 1, none⟩ = some (.int .i64 y2) ∧ w.cell? ⟨n + 1 + 1, 2, none⟩ = some (.int .i64 a2) ∧ w.cell? ⟨n + 1 + 1, 3, none⟩ = some (.int .i64 b2)) ∧ Below n w0 w ∧ n + 1 + 1 < w.heap.size := h
theorem rrr_drew (h : Rrr n w0 x y a b x' y' a' b' x2 y2 a2 b2 w) : Rrr n w0 x y a b x' y' a' b' x2 y2 a2 b2 w.drew := by
  obtain ⟨h0, h1, h2, hB, hz⟩ := h
  exact ⟨h0, h1, h2, hB.drew, hz⟩
theorem rrr_next (hb : Below w.heap.size w w1) (h : Rrr n w0 x y a b x' y' a' b' x2 y2 a2 b2 w) : Rrr n w0 x y a b x' y' a' b' x2 y2 a2 b2 w1 := by
  obtain ⟨⟨c00, c01, c02, c03⟩, ⟨c10, c11, c12, c13⟩, ⟨c20, c21, c22, c23⟩, hB, hz⟩ := h
  obtain ⟨hc, _⟩ := bcell hb
  have hs := hb.size
  exact ⟨⟨(hc _ _ (by omega)).trans c00, (hc _ _ (by omega)).trans c01, (hc _ _ (by omega)).trans c02, (hc _ _ (by omega)).trans c03⟩, ⟨(hc _ _ (by omega)).trans c10, (hc _ _ (by omega)).trans c11, (hc _ _ (by omega)).trans c12, (hc _ _ (by omega)).trans c13⟩, ⟨(hc _ _ (by omega)).trans c20, (hc _ _ (by omega)).trans c21, (hc _ _ (by omega)).trans c22, (hc _ _ (by omega)).trans c23⟩, hB.trans (hb.mono (by omega)), by omega⟩
theorem rrr_start (w : World) (x y a b x' y' a' b' x2 y2 a2 b2 : Int) (t0 t1 t2 : TypeId) : Rrr w.heap.size w x y a b x' y' a' b' x2 y2 a2 b2 (((w.alloc (.cells #[.int .i64 x, .int .i64 y, .int .i64 a, .int .i64 b] t0)).alloc (.cells #[.int .i64 x', .int .i64 y', .int .i64 a', .int .i64 b'] t1)).alloc (.cells #[.int .i64 x2, .int .i64 y2, .int .i64 a2, .int .i64 b2] t2)) := by
  refine ⟨⟨?_, ?_, ?_, ?_⟩, ⟨?_, ?_, ?_, ?_⟩, ⟨?_, ?_, ?_, ?_⟩, ?_, by simp⟩
  all_goals first | (simp [go_sem]; done) | (repeat' (first | (with_reducible exact Below.refl _ _) | (with_reducible assumption) | (with_reducible refine Below.alloc ?_ ?_ _) | (with_reducible refine Below.drew ?_) | (with_reducible refine Below.setCell ?_ ?_ _) | (with_reducible refine Below.on (by with_reducible assumption) ?_ ?_) | go_size))
end
theorem rcEq_one (a b c d : Int) : rcEq a b c d a b c d = true := by rw [rcEq_iff]; exact ⟨rfl, rfl, rfl, rfl⟩
attribute [local go_sem] rcEq_one
theorem inter_k {x y a b x' y' a' b' kx ky kw kh : Int} (hK : interR x y a b x' y' a' b' = ⟨kx, ky, kw, kh⟩) (w : World) :
    Calls Try.prog 25 #[.agg #[.int .i64 x, .int .i64 y, .int .i64 a, .int .i64 b], .agg #[.int .i64 x', .int .i64 y', .int .i64 a', .int .i64 b']] w fun e w' => e = .returned (.agg #[.int .i64 kx, .int .i64 ky, .int .i64 kw, .int .i64 kh]) ∧ Below w.heap.size w w' := by
  have h := inter_c x y a b x' y' a' b' w
  rw [hK] at h
  exact h
theorem hull_k {x y a b x' y' a' b' kx ky kw kh : Int} (hK : hullR x y a b x' y' a' b' = ⟨kx, ky, kw, kh⟩) (w : World) :
    Calls Try.prog 27 #[.agg #[.int .i64 x, .int .i64 y, .int .i64 a, .int .i64 b], .agg #[.int .i64 x', .int .i64 y', .int .i64 a', .int .i64 b']] w fun e w' => e = .returned (.agg #[.int .i64 kx, .int .i64 ky, .int .i64 kw, .int .i64 kh]) ∧ Below w.heap.size w w' := by
  have h := hull_c x y a b x' y' a' b' w
  rw [hK] at h
  exact h
set_option maxHeartbeats 8000000 in
theorem laws_k (x y a b x' y' a' b' x2 y2 a2 b2 i1 i2 i3 i4 j1 j2 j3 j4 k1 k2 k3 k4 : Int) (w : World) (h12 : interR x y a b x' y' a' b' = ⟨i1, i2, i3, i4⟩) (h21 : interR x' y' a' b' x y a b = ⟨i1, i2, i3, i4⟩) (hj1 : interR i1 i2 i3 i4 x2 y2 a2 b2 = ⟨j1, j2, j3, j4⟩) (hk : interR x' y' a' b' x2 y2 a2 b2 = ⟨k1, k2, k3, k4⟩) (hj2 : interR x y a b k1 k2 k3 k4 = ⟨j1, j2, j3, j4⟩) (hf : emptyB x y a b = false → emptyB x' y' a' b' = false → emptyB x2 y2 a2 b2 = false → ∃ h1 h2 h3 h4 g1 g2 g3 g4 l1 l2 l3 l4 : Int, hullR x y a b x' y' a' b' = ⟨h1, h2, h3, h4⟩ ∧ hullR x' y' a' b' x y a b = ⟨h1, h2, h3, h4⟩ ∧ hullR h1 h2 h3 h4 x2 y2 a2 b2 = ⟨g1, g2, g3, g4⟩ ∧ hullR x' y' a' b' x2 y2 a2 b2 = ⟨l1, l2, l3, l4⟩ ∧ hullR x y a b l1 l2 l3 l4 = ⟨g1, g2, g3, g4⟩ ∧ insideB x y a b h1 h2 h3 h4 = true ∧ insideB i1 i2 i3 i4 x y a b = true) : Calls Try.prog 8 #[.agg #[.int .i64 x, .int .i64 y, .int .i64 a, .int .i64 b], .agg #[.int .i64 x', .int .i64 y', .int .i64 a', .int .i64 b'], .agg #[.int .i64 x2, .int .i64 y2, .int .i64 a2, .int .i64 b2]] w fun e w' => e = .returned (.bool true) ∧ Below w.heap.size w w' := by
  have HS := Lib.hid (rrr_start w x y a b x' y' a' b' x2 y2 a2 b2 27 27 27)
  have H12 := Lib.hid h12
  have H21 := Lib.hid h21
  have Hj1 := Lib.hid hj1
  have Hk := Lib.hid hk
  have Hj2 := Lib.hid hj2
  have HF := Lib.hid hf
  clear h12 h21 hj1 hk hj2 hf
  go_enter Try.func8, Try.ntmps8
  go_wp2
  have hS := HS.out
  refine wp_region_noPanic ?_
  refine wp_region_held_drew (S := fun wx => (wx.cell? ⟨w.heap.size, 0, none⟩ = some (.int .i64 x) ∧ wx.cell? ⟨w.heap.size, 1, none⟩ = some (.int .i64 y) ∧ wx.cell? ⟨w.heap.size, 2, none⟩ = some (.int .i64 a) ∧ wx.cell? ⟨w.heap.size, 3, none⟩ = some (.int .i64 b)) ∧ (wx.cell? ⟨w.heap.size + 1, 0, none⟩ = some (.int .i64 x') ∧ wx.cell? ⟨w.heap.size + 1, 1, none⟩ = some (.int .i64 y') ∧ wx.cell? ⟨w.heap.size + 1, 2, none⟩ = some (.int .i64 a') ∧ wx.cell? ⟨w.heap.size + 1, 3, none⟩ = some (.int .i64 b')) ∧ (wx.cell? ⟨w.heap.size + 1 + 1, 0, none⟩ = some (.int .i64 x2) ∧ wx.cell? ⟨w.heap.size + 1 + 1, 1, none⟩ = some (.int .i64 y2) ∧ wx.cell? ⟨w.heap.size + 1 + 1, 2, none⟩ = some (.int .i64 a2) ∧ wx.cell? ⟨w.heap.size + 1 + 1, 3, none⟩ = some (.int .i64 b2)) ∧ Below w.heap.size w wx ∧ w.heap.size + 1 + 1 < wx.heap.size) (by kernel_rfl) (by (show Rrr w.heap.size w x y a b x' y' a' b' x2 y2 a2 b2 _; first | (with_reducible exact rrr_drew hS) | (refine rrr_next hb ?_; assumption) | assumption)) (fun hHeld => ?_)
  refine wpAnyH_take (i := 0) (v := ?v0) rfl (by kernel_rfl) (by kernel_rfl) (by kernel_rfl) (fun _ _ _ h => h) (Or.inl ⟨by kernel_rfl, ?y0⟩) (by assumption) ?r0
  case y0 => (intro wq hSw; (try dsimp only at hSw); go_simp; (try with_reducible rfl))
  (try simp only [Act.put, List.getElem_toArray, List.getElem_cons_zero, List.setIfInBounds_toArray, List.set_cons_zero, List.set_cons_succ])
  refine wpAnyH_take (i := 1) (v := ?v1) rfl (by kernel_rfl) (by kernel_rfl) (by kernel_rfl) (fun _ _ _ h => h) (Or.inl ⟨by kernel_rfl, ?y1⟩) (by assumption) ?r1
  case y1 => (intro wq hSw; (try dsimp only at hSw); go_simp; (try with_reducible rfl))
  (try simp only [Act.put, List.getElem_toArray, List.getElem_cons_succ, List.getElem_cons_zero, List.setIfInBounds_toArray, List.set_cons_zero, List.set_cons_succ])
  refine wpAnyH_take (i := 3) (v := ?v3) rfl (by kernel_rfl) (by kernel_rfl) (by kernel_rfl) (fun _ _ _ h => h) (Or.inl ⟨by kernel_rfl, ?y3⟩) (by assumption) ?r3
  case y3 => (intro wq hSw; (try dsimp only at hSw); go_simp; (try with_reducible rfl))
  (try simp only [Act.put, List.getElem_toArray, List.getElem_cons_succ, List.getElem_cons_zero, List.setIfInBounds_toArray, List.set_cons_zero, List.set_cons_succ])
  refine wpAnyH_take (i := 4) (v := ?v4) rfl (by kernel_rfl) (by kernel_rfl) (by kernel_rfl) (fun _ _ _ h => h) (Or.inl ⟨by kernel_rfl, ?y4⟩) (by assumption) ?r4
  case y4 => (intro wq hSw; (try dsimp only at hSw); go_simp; (try with_reducible rfl))
  (try simp only [Act.put, List.getElem_toArray, List.getElem_cons_succ, List.getElem_cons_zero, List.setIfInBounds_toArray, List.set_cons_zero, List.set_cons_succ])
  refine wpAnyH_ready (rs := [2]) (by kernel_rfl) (by simp) ?_
  refine AllReadyH.cons rfl (fun K hK => ?_) AllReadyH.nil
  go_simp
  refine (inter_k H12.out _).mono ?_
  rintro e w1 ⟨rfl, hb⟩
  (try dsimp only)
  refine hK.out _ _ (by (show Rrr w.heap.size w x y a b x' y' a' b' x2 y2 a2 b2 _; first | (with_reducible exact rrr_drew hS) | (refine rrr_next hb ?_; assumption) | assumption)) (fun hHeld => ?_)
  clear hK K
  (try simp only [Act.put, List.getElem_toArray, List.getElem_cons_succ, List.getElem_cons_zero, List.setIfInBounds_toArray, List.set_cons_zero, List.set_cons_succ])
  refine wpAnyH_ready (rs := [5]) (by kernel_rfl) (by simp) ?_
  refine AllReadyH.cons rfl (fun K hK => ?_) AllReadyH.nil
  go_simp
  refine (inter_k H21.out _).mono ?_
  rintro e w1 ⟨rfl, hb⟩
  (try dsimp only)
  refine hK.out _ _ (by (show Rrr w.heap.size w x y a b x' y' a' b' x2 y2 a2 b2 _; first | (with_reducible exact rrr_drew hS) | (refine rrr_next hb ?_; assumption) | assumption)) (fun hHeld => ?_)
  clear hK K
  (try simp only [Act.put, List.getElem_toArray, List.getElem_cons_succ, List.getElem_cons_zero, List.setIfInBounds_toArray, List.set_cons_zero, List.set_cons_succ])
  refine wpAnyH_take (i := 6) (v := ?v6) rfl (by kernel_rfl) (by kernel_rfl) (by kernel_rfl) (fun _ _ _ h => h) (Or.inl ⟨by kernel_rfl, ?y6⟩) (by assumption) ?r6
  case y6 => (intro wq hSw; (try dsimp only at hSw); go_simp; (try with_reducible rfl))
  (try simp only [Act.put, List.getElem_toArray, List.getElem_cons_succ, List.getElem_cons_zero, List.setIfInBounds_toArray, List.set_cons_zero, List.set_cons_succ])
  refine wpAnyH_take (i := 7) (v := ?v7) rfl (by kernel_rfl) (by kernel_rfl) (by kernel_rfl) (fun _ _ _ h => h) (Or.inl ⟨by kernel_rfl, ?y7⟩) (by assumption) ?r7
  case y7 => (intro wq hSw; (try dsimp only at hSw); go_simp; (try with_reducible rfl))
  (try simp only [Act.put, List.getElem_toArray, List.getElem_cons_succ, List.getElem_cons_zero, List.setIfInBounds_toArray, List.set_cons_zero, List.set_cons_succ])
  refine wpAnyH_take (i := 8) (v := ?v8) rfl (by kernel_rfl) (by kernel_rfl) (by kernel_rfl) (fun _ _ _ h => h) (Or.inl ⟨by kernel_rfl, ?y8⟩) (by assumption) ?r8
  case y8 => (intro wq hSw; (try dsimp only at hSw); go_simp; (try with_reducible rfl))
  (try simp only [Act.put, List.getElem_toArray, List.getElem_cons_succ, List.getElem_cons_zero, List.setIfInBounds_toArray, List.set_cons_zero, List.set_cons_succ])
  refine wpAnyH_take (i := 9) (v := ?v9) rfl (by kernel_rfl) (by kernel_rfl) (by kernel_rfl) (fun _ _ _ h => h) (Or.inl ⟨by kernel_rfl, ?y9⟩) (by assumption) ?r9
  case y9 => (intro wq hSw; (try dsimp only at hSw); go_simp; (try with_reducible rfl))
  (try simp only [Act.put, List.getElem_toArray, List.getElem_cons_succ, List.getElem_cons_zero, List.setIfInBounds_toArray, List.set_cons_zero, List.set_cons_succ])
  refine wpAnyH_take (i := 11) (v := ?v11) rfl (by kernel_rfl) (by kernel_rfl) (by kernel_rfl) (fun _ _ _ h => h) (Or.inl ⟨by kernel_rfl, ?y11⟩) (by assumption) ?r11
  case y11 => (intro wq hSw; (try dsimp only at hSw); go_simp; (try with_reducible rfl))
  (try simp only [Act.put, List.getElem_toArray, List.getElem_cons_succ, List.getElem_cons_zero, List.setIfInBounds_toArray, List.set_cons_zero, List.set_cons_succ])
  refine wpAnyH_take (i := 13) (v := ?v13) rfl (by kernel_rfl) (by kernel_rfl) (by kernel_rfl) (fun _ _ _ h => h) (Or.inl ⟨by kernel_rfl, ?y13⟩) (by assumption) ?r13
  case y13 => (intro wq hSw; (try dsimp only at hSw); go_simp; (try with_reducible rfl))
  (try simp only [Act.put, List.getElem_toArray, List.getElem_cons_succ, List.getElem_cons_zero, List.setIfInBounds_toArray, List.set_cons_zero, List.set_cons_succ])
  refine wpAnyH_take (i := 14) (v := ?v14) rfl (by kernel_rfl) (by kernel_rfl) (by kernel_rfl) (fun _ _ _ h => h) (Or.inl ⟨by kernel_rfl, ?y14⟩) (by assumption) ?r14
  case y14 => (intro wq hSw; (try dsimp only at hSw); go_simp; (try with_reducible rfl))
  (try simp only [Act.put, List.getElem_toArray, List.getElem_cons_succ, List.getElem_cons_zero, List.setIfInBounds_toArray, List.set_cons_zero, List.set_cons_succ])
  refine wpAnyH_take (i := 15) (v := ?v15) rfl (by kernel_rfl) (by kernel_rfl) (by kernel_rfl) (fun _ _ _ h => h) (Or.inl ⟨by kernel_rfl, ?y15⟩) (by assumption) ?r15
  case y15 => (intro wq hSw; (try dsimp only at hSw); go_simp; (try with_reducible rfl))
  (try simp only [Act.put, List.getElem_toArray, List.getElem_cons_succ, List.getElem_cons_zero, List.setIfInBounds_toArray, List.set_cons_zero, List.set_cons_succ])
  refine wpAnyH_ready (rs := [10]) (by kernel_rfl) (by simp) ?_
  refine AllReadyH.cons rfl (fun K hK => ?_) AllReadyH.nil
  go_simp
  refine (inter_k H12.out _).mono ?_
  rintro e w1 ⟨rfl, hb⟩
  (try dsimp only)
  refine hK.out _ _ (by (show Rrr w.heap.size w x y a b x' y' a' b' x2 y2 a2 b2 _; first | (with_reducible exact rrr_drew hS) | (refine rrr_next hb ?_; assumption) | assumption)) (fun hHeld => ?_)
  clear hK K
  (try simp only [Act.put, List.getElem_toArray, List.getElem_cons_succ, List.getElem_cons_zero, List.setIfInBounds_toArray, List.set_cons_zero, List.set_cons_succ])
  refine wpAnyH_ready (rs := [12]) (by kernel_rfl) (by simp) ?_
  refine AllReadyH.cons rfl (fun K hK => ?_) AllReadyH.nil
  go_simp
  refine (inter_k Hj1.out _).mono ?_
  rintro e w1 ⟨rfl, hb⟩
  (try dsimp only)
  refine hK.out _ _ (by (show Rrr w.heap.size w x y a b x' y' a' b' x2 y2 a2 b2 _; first | (with_reducible exact rrr_drew hS) | (refine rrr_next hb ?_; assumption) | assumption)) (fun hHeld => ?_)
  clear hK K
  (try simp only [Act.put, List.getElem_toArray, List.getElem_cons_succ, List.getElem_cons_zero, List.setIfInBounds_toArray, List.set_cons_zero, List.set_cons_succ])
  refine wpAnyH_ready (rs := [16]) (by kernel_rfl) (by simp) ?_
  refine AllReadyH.cons rfl (fun K hK => ?_) AllReadyH.nil
  go_simp
  refine (inter_k Hk.out _).mono ?_
  rintro e w1 ⟨rfl, hb⟩
  (try dsimp only)
  refine hK.out _ _ (by (show Rrr w.heap.size w x y a b x' y' a' b' x2 y2 a2 b2 _; first | (with_reducible exact rrr_drew hS) | (refine rrr_next hb ?_; assumption) | assumption)) (fun hHeld => ?_)
  clear hK K
  (try simp only [Act.put, List.getElem_toArray, List.getElem_cons_succ, List.getElem_cons_zero, List.setIfInBounds_toArray, List.set_cons_zero, List.set_cons_succ])
  refine wpAnyH_ready (rs := [17]) (by kernel_rfl) (by simp) ?_
  refine AllReadyH.cons rfl (fun K hK => ?_) AllReadyH.nil
  go_simp
  refine (inter_k Hj2.out _).mono ?_
  rintro e w1 ⟨rfl, hb⟩; have hT : Rrr w.heap.size w x y a b x' y' a' b' x2 y2 a2 b2 w1 := rrr_next hb (by assumption)
  (try dsimp only)
  refine hK.out _ _ (by (show Rrr w.heap.size w x y a b x' y' a' b' x2 y2 a2 b2 _; first | (with_reducible exact rrr_drew hS) | (refine rrr_next hb ?_; assumption) | assumption)) (fun hHeld => ?_)
  clear hK K
  (try simp only [Act.put, List.getElem_toArray, List.getElem_cons_succ, List.getElem_cons_zero, List.setIfInBounds_toArray, List.set_cons_zero, List.set_cons_succ])
  refine wpAnyH_take (i := 18) (v := ?v18) rfl (by kernel_rfl) (by kernel_rfl) (by kernel_rfl) (fun _ _ _ h => h) (Or.inl ⟨by kernel_rfl, ?y18⟩) (by assumption) ?r18
  case y18 => (intro wq hSw; (try dsimp only at hSw); go_simp; (try with_reducible rfl))
  (try simp only [Act.put, List.getElem_toArray, List.getElem_cons_succ, List.getElem_cons_zero, List.setIfInBounds_toArray, List.set_cons_zero, List.set_cons_succ])
  refine wpAnyH_take (i := 19) (v := ?v19) rfl (by kernel_rfl) (by kernel_rfl) (by kernel_rfl) (fun _ _ _ h => h) (Or.inl ⟨by kernel_rfl, ?y19⟩) (by assumption) ?r19
  case y19 => (intro wq hSw; (try dsimp only at hSw); go_simp; (try with_reducible rfl))
  (try simp only [Act.put, List.getElem_toArray, List.getElem_cons_succ, List.getElem_cons_zero, List.setIfInBounds_toArray, List.set_cons_zero, List.set_cons_succ])
  refine wpAnyH_done (by kernel_rfl) ?_ _
  refine NoPanic.normal ?_
  clear hS
  have hS := hT
  obtain ⟨⟨c00, c01, c02, c03⟩, ⟨c10, c11, c12, c13⟩, ⟨c20, c21, c22, c23⟩, hB, hz⟩ := rrr_out hT
  clear hT hHeld
  cases h1 : emptyB x y a b
  · cases h2 : emptyB x' y' a' b'
    · cases h3 : emptyB x2 y2 a2 b2
      · obtain ⟨h1, h2, h3, h4, g1, g2, g3, g4, l1, l2, l3, l4, g12, g21, gg1, gl, gg2, q5, q6⟩ := HF.out h1 h2 h3
        have G12 := Lib.hid g12
        have G21 := Lib.hid g21
        have Gg1 := Lib.hid gg1
        have Gl := Lib.hid gl
        have Gg2 := Lib.hid gg2
        clear g12 g21 gg1 gl gg2
        go_wp2_with (first | (go_at_call 17; refine (empty_c _ _ _ _ _).mono ?_; rintro e w1 ⟨rfl, hb⟩; have hS : Rrr w.heap.size w x y a b x' y' a' b' x2 y2 a2 b2 w1 := rrr_next hb (by first | assumption | exact rrr_drew (by assumption)); clear hb; obtain ⟨⟨c00, c01, c02, c03⟩, ⟨c10, c11, c12, c13⟩, ⟨c20, c21, c22, c23⟩, hB, hz⟩ := rrr_out hS) | (go_at_call 14; refine (awake_c _).mono ?_; rintro e w1 ⟨rfl, hb⟩; have hS : Rrr w.heap.size w x y a b x' y' a' b' x2 y2 a2 b2 w1 := rrr_next hb (by first | assumption | exact rrr_drew (by assumption)); clear hb; obtain ⟨⟨c00, c01, c02, c03⟩, ⟨c10, c11, c12, c13⟩, ⟨c20, c21, c22, c23⟩, hB, hz⟩ := rrr_out hS))
        refine wp_region_noPanic ?_
        refine wp_region_held_drew (S := fun wx => (wx.cell? ⟨w.heap.size, 0, none⟩ = some (.int .i64 x) ∧ wx.cell? ⟨w.heap.size, 1, none⟩ = some (.int .i64 y) ∧ wx.cell? ⟨w.heap.size, 2, none⟩ = some (.int .i64 a) ∧ wx.cell? ⟨w.heap.size, 3, none⟩ = some (.int .i64 b)) ∧ (wx.cell? ⟨w.heap.size + 1, 0, none⟩ = some (.int .i64 x') ∧ wx.cell? ⟨w.heap.size + 1, 1, none⟩ = some (.int .i64 y') ∧ wx.cell? ⟨w.heap.size + 1, 2, none⟩ = some (.int .i64 a') ∧ wx.cell? ⟨w.heap.size + 1, 3, none⟩ = some (.int .i64 b')) ∧ (wx.cell? ⟨w.heap.size + 1 + 1, 0, none⟩ = some (.int .i64 x2) ∧ wx.cell? ⟨w.heap.size + 1 + 1, 1, none⟩ = some (.int .i64 y2) ∧ wx.cell? ⟨w.heap.size + 1 + 1, 2, none⟩ = some (.int .i64 a2) ∧ wx.cell? ⟨w.heap.size + 1 + 1, 3, none⟩ = some (.int .i64 b2)) ∧ Below w.heap.size w wx ∧ w.heap.size + 1 + 1 < wx.heap.size) (by kernel_rfl) (by (show Rrr w.heap.size w x y a b x' y' a' b' x2 y2 a2 b2 _; first | (with_reducible exact rrr_drew hS) | (refine rrr_next hb ?_; assumption) | assumption)) (fun hHeld => ?_)
        refine wpAnyH_take (i := 0) (v := ?vq0) rfl (by kernel_rfl) (by kernel_rfl) (by kernel_rfl) (fun _ _ _ h => h) (Or.inl ⟨by kernel_rfl, ?yq0⟩) (by assumption) ?rq0
        case yq0 => (intro wq hSw; (try dsimp only at hSw); go_simp; (try with_reducible rfl))
        (try simp only [Act.put, List.getElem_toArray, List.getElem_cons_zero, List.setIfInBounds_toArray, List.set_cons_zero, List.set_cons_succ])
        refine wpAnyH_take (i := 1) (v := ?vq1) rfl (by kernel_rfl) (by kernel_rfl) (by kernel_rfl) (fun _ _ _ h => h) (Or.inl ⟨by kernel_rfl, ?yq1⟩) (by assumption) ?rq1
        case yq1 => (intro wq hSw; (try dsimp only at hSw); go_simp; (try with_reducible rfl))
        (try simp only [Act.put, List.getElem_toArray, List.getElem_cons_succ, List.getElem_cons_zero, List.setIfInBounds_toArray, List.set_cons_zero, List.set_cons_succ])
        refine wpAnyH_take (i := 3) (v := ?vq3) rfl (by kernel_rfl) (by kernel_rfl) (by kernel_rfl) (fun _ _ _ h => h) (Or.inl ⟨by kernel_rfl, ?yq3⟩) (by assumption) ?rq3
        case yq3 => (intro wq hSw; (try dsimp only at hSw); go_simp; (try with_reducible rfl))
        (try simp only [Act.put, List.getElem_toArray, List.getElem_cons_succ, List.getElem_cons_zero, List.setIfInBounds_toArray, List.set_cons_zero, List.set_cons_succ])
        refine wpAnyH_take (i := 4) (v := ?vq4) rfl (by kernel_rfl) (by kernel_rfl) (by kernel_rfl) (fun _ _ _ h => h) (Or.inl ⟨by kernel_rfl, ?yq4⟩) (by assumption) ?rq4
        case yq4 => (intro wq hSw; (try dsimp only at hSw); go_simp; (try with_reducible rfl))
        (try simp only [Act.put, List.getElem_toArray, List.getElem_cons_succ, List.getElem_cons_zero, List.setIfInBounds_toArray, List.set_cons_zero, List.set_cons_succ])
        refine wpAnyH_ready (rs := [2]) (by kernel_rfl) (by simp) ?_
        refine AllReadyH.cons rfl (fun K hK => ?_) AllReadyH.nil
        go_simp
        refine (hull_k G12.out _).mono ?_
        rintro e w1 ⟨rfl, hb⟩
        (try dsimp only)
        refine hK.out _ _ (by (show Rrr w.heap.size w x y a b x' y' a' b' x2 y2 a2 b2 _; first | (with_reducible exact rrr_drew hS) | (refine rrr_next hb ?_; assumption) | assumption)) (fun hHeld => ?_)
        clear hK K
        (try simp only [Act.put, List.getElem_toArray, List.getElem_cons_succ, List.getElem_cons_zero, List.setIfInBounds_toArray, List.set_cons_zero, List.set_cons_succ])
        refine wpAnyH_ready (rs := [5]) (by kernel_rfl) (by simp) ?_
        refine AllReadyH.cons rfl (fun K hK => ?_) AllReadyH.nil
        go_simp
        refine (hull_k G21.out _).mono ?_
        rintro e w1 ⟨rfl, hb⟩
        (try dsimp only)
        refine hK.out _ _ (by (show Rrr w.heap.size w x y a b x' y' a' b' x2 y2 a2 b2 _; first | (with_reducible exact rrr_drew hS) | (refine rrr_next hb ?_; assumption) | assumption)) (fun hHeld => ?_)
        clear hK K
        (try simp only [Act.put, List.getElem_toArray, List.getElem_cons_succ, List.getElem_cons_zero, List.setIfInBounds_toArray, List.set_cons_zero, List.set_cons_succ])
        refine wpAnyH_take (i := 6) (v := ?vq6) rfl (by kernel_rfl) (by kernel_rfl) (by kernel_rfl) (fun _ _ _ h => h) (Or.inl ⟨by kernel_rfl, ?yq6⟩) (by assumption) ?rq6
        case yq6 => (intro wq hSw; (try dsimp only at hSw); go_simp; (try with_reducible rfl))
        (try simp only [Act.put, List.getElem_toArray, List.getElem_cons_succ, List.getElem_cons_zero, List.setIfInBounds_toArray, List.set_cons_zero, List.set_cons_succ])
        refine wpAnyH_take (i := 7) (v := ?vq7) rfl (by kernel_rfl) (by kernel_rfl) (by kernel_rfl) (fun _ _ _ h => h) (Or.inl ⟨by kernel_rfl, ?yq7⟩) (by assumption) ?rq7
        case yq7 => (intro wq hSw; (try dsimp only at hSw); go_simp; (try with_reducible rfl))
        (try simp only [Act.put, List.getElem_toArray, List.getElem_cons_succ, List.getElem_cons_zero, List.setIfInBounds_toArray, List.set_cons_zero, List.set_cons_succ])
        refine wpAnyH_take (i := 8) (v := ?vq8) rfl (by kernel_rfl) (by kernel_rfl) (by kernel_rfl) (fun _ _ _ h => h) (Or.inl ⟨by kernel_rfl, ?yq8⟩) (by assumption) ?rq8
        case yq8 => (intro wq hSw; (try dsimp only at hSw); go_simp; (try with_reducible rfl))
        (try simp only [Act.put, List.getElem_toArray, List.getElem_cons_succ, List.getElem_cons_zero, List.setIfInBounds_toArray, List.set_cons_zero, List.set_cons_succ])
        refine wpAnyH_take (i := 9) (v := ?vq9) rfl (by kernel_rfl) (by kernel_rfl) (by kernel_rfl) (fun _ _ _ h => h) (Or.inl ⟨by kernel_rfl, ?yq9⟩) (by assumption) ?rq9
        case yq9 => (intro wq hSw; (try dsimp only at hSw); go_simp; (try with_reducible rfl))
        (try simp only [Act.put, List.getElem_toArray, List.getElem_cons_succ, List.getElem_cons_zero, List.setIfInBounds_toArray, List.set_cons_zero, List.set_cons_succ])
        refine wpAnyH_take (i := 11) (v := ?vq11) rfl (by kernel_rfl) (by kernel_rfl) (by kernel_rfl) (fun _ _ _ h => h) (Or.inl ⟨by kernel_rfl, ?yq11⟩) (by assumption) ?rq11
        case yq11 => (intro wq hSw; (try dsimp only at hSw); go_simp; (try with_reducible rfl))
        (try simp only [Act.put, List.getElem_toArray, List.getElem_cons_succ, List.getElem_cons_zero, List.setIfInBounds_toArray, List.set_cons_zero, List.set_cons_succ])
        refine wpAnyH_take (i := 13) (v := ?vq13) rfl (by kernel_rfl) (by kernel_rfl) (by kernel_rfl) (fun _ _ _ h => h) (Or.inl ⟨by kernel_rfl, ?yq13⟩) (by assumption) ?rq13
        case yq13 => (intro wq hSw; (try dsimp only at hSw); go_simp; (try with_reducible rfl))
        (try simp only [Act.put, List.getElem_toArray, List.getElem_cons_succ, List.getElem_cons_zero, List.setIfInBounds_toArray, List.set_cons_zero, List.set_cons_succ])
        refine wpAnyH_take (i := 14) (v := ?vq14) rfl (by kernel_rfl) (by kernel_rfl) (by kernel_rfl) (fun _ _ _ h => h) (Or.inl ⟨by kernel_rfl, ?yq14⟩) (by assumption) ?rq14
        case yq14 => (intro wq hSw; (try dsimp only at hSw); go_simp; (try with_reducible rfl))
        (try simp only [Act.put, List.getElem_toArray, List.getElem_cons_succ, List.getElem_cons_zero, List.setIfInBounds_toArray, List.set_cons_zero, List.set_cons_succ])
        refine wpAnyH_take (i := 15) (v := ?vq15) rfl (by kernel_rfl) (by kernel_rfl) (by kernel_rfl) (fun _ _ _ h => h) (Or.inl ⟨by kernel_rfl, ?yq15⟩) (by assumption) ?rq15
        case yq15 => (intro wq hSw; (try dsimp only at hSw); go_simp; (try with_reducible rfl))
        (try simp only [Act.put, List.getElem_toArray, List.getElem_cons_succ, List.getElem_cons_zero, List.setIfInBounds_toArray, List.set_cons_zero, List.set_cons_succ])
        refine wpAnyH_ready (rs := [10]) (by kernel_rfl) (by simp) ?_
        refine AllReadyH.cons rfl (fun K hK => ?_) AllReadyH.nil
        go_simp
        refine (hull_k G12.out _).mono ?_
        rintro e w1 ⟨rfl, hb⟩
        (try dsimp only)
        refine hK.out _ _ (by (show Rrr w.heap.size w x y a b x' y' a' b' x2 y2 a2 b2 _; first | (with_reducible exact rrr_drew hS) | (refine rrr_next hb ?_; assumption) | assumption)) (fun hHeld => ?_)
        clear hK K
        (try simp only [Act.put, List.getElem_toArray, List.getElem_cons_succ, List.getElem_cons_zero, List.setIfInBounds_toArray, List.set_cons_zero, List.set_cons_succ])
        refine wpAnyH_ready (rs := [12]) (by kernel_rfl) (by simp) ?_
        refine AllReadyH.cons rfl (fun K hK => ?_) AllReadyH.nil
        go_simp
        refine (hull_k Gg1.out _).mono ?_
        rintro e w1 ⟨rfl, hb⟩
        (try dsimp only)
        refine hK.out _ _ (by (show Rrr w.heap.size w x y a b x' y' a' b' x2 y2 a2 b2 _; first | (with_reducible exact rrr_drew hS) | (refine rrr_next hb ?_; assumption) | assumption)) (fun hHeld => ?_)
        clear hK K
        (try simp only [Act.put, List.getElem_toArray, List.getElem_cons_succ, List.getElem_cons_zero, List.setIfInBounds_toArray, List.set_cons_zero, List.set_cons_succ])
        refine wpAnyH_ready (rs := [16]) (by kernel_rfl) (by simp) ?_
        refine AllReadyH.cons rfl (fun K hK => ?_) AllReadyH.nil
        go_simp
        refine (hull_k Gl.out _).mono ?_
        rintro e w1 ⟨rfl, hb⟩
        (try dsimp only)
        refine hK.out _ _ (by (show Rrr w.heap.size w x y a b x' y' a' b' x2 y2 a2 b2 _; first | (with_reducible exact rrr_drew hS) | (refine rrr_next hb ?_; assumption) | assumption)) (fun hHeld => ?_)
        clear hK K
        (try simp only [Act.put, List.getElem_toArray, List.getElem_cons_succ, List.getElem_cons_zero, List.setIfInBounds_toArray, List.set_cons_zero, List.set_cons_succ])
        refine wpAnyH_ready (rs := [17]) (by kernel_rfl) (by simp) ?_
        refine AllReadyH.cons rfl (fun K hK => ?_) AllReadyH.nil
        go_simp
        refine (hull_k Gg2.out _).mono ?_
        rintro e w1 ⟨rfl, hb⟩
        (try dsimp only)
        refine hK.out _ _ (by (show Rrr w.heap.size w x y a b x' y' a' b' x2 y2 a2 b2 _; first | (with_reducible exact rrr_drew hS) | (refine rrr_next hb ?_; assumption) | assumption)) (fun hHeld => ?_)
        clear hK K
        (try simp only [Act.put, List.getElem_toArray, List.getElem_cons_succ, List.getElem_cons_zero, List.setIfInBounds_toArray, List.set_cons_zero, List.set_cons_succ])
        refine wpAnyH_take (i := 18) (v := ?vq18) rfl (by kernel_rfl) (by kernel_rfl) (by kernel_rfl) (fun _ _ _ h => h) (Or.inl ⟨by kernel_rfl, ?yq18⟩) (by assumption) ?rq18
        case yq18 => (intro wq hSw; (try dsimp only at hSw); go_simp; (try with_reducible rfl))
        (try simp only [Act.put, List.getElem_toArray, List.getElem_cons_succ, List.getElem_cons_zero, List.setIfInBounds_toArray, List.set_cons_zero, List.set_cons_succ])
        refine wpAnyH_take (i := 19) (v := ?vq19) rfl (by kernel_rfl) (by kernel_rfl) (by kernel_rfl) (fun _ _ _ h => h) (Or.inl ⟨by kernel_rfl, ?yq19⟩) (by assumption) ?rq19
        case yq19 => (intro wq hSw; (try dsimp only at hSw); go_simp; (try with_reducible rfl))
        (try simp only [Act.put, List.getElem_toArray, List.getElem_cons_succ, List.getElem_cons_zero, List.setIfInBounds_toArray, List.set_cons_zero, List.set_cons_succ])
        refine wpAnyH_take (i := 20) (v := ?vq20) rfl (by kernel_rfl) (by kernel_rfl) (by kernel_rfl) (fun _ _ _ h => h) (Or.inl ⟨by kernel_rfl, ?yq20⟩) (by assumption) ?rq20
        case yq20 => (intro wq hSw; (try dsimp only at hSw); go_simp; (try with_reducible rfl))
        (try simp only [Act.put, List.getElem_toArray, List.getElem_cons_succ, List.getElem_cons_zero, List.setIfInBounds_toArray, List.set_cons_zero, List.set_cons_succ])
        refine wpAnyH_take (i := 21) (v := ?vq21) rfl (by kernel_rfl) (by kernel_rfl) (by kernel_rfl) (fun _ _ _ h => h) (Or.inl ⟨by kernel_rfl, ?yq21⟩) (by assumption) ?rq21
        case yq21 => (intro wq hSw; (try dsimp only at hSw); go_simp; (try with_reducible rfl))
        (try simp only [Act.put, List.getElem_toArray, List.getElem_cons_succ, List.getElem_cons_zero, List.setIfInBounds_toArray, List.set_cons_zero, List.set_cons_succ])
        refine wpAnyH_take (i := 22) (v := ?vq22) rfl (by kernel_rfl) (by kernel_rfl) (by kernel_rfl) (fun _ _ _ h => h) (Or.inl ⟨by kernel_rfl, ?yq22⟩) (by assumption) ?rq22
        case yq22 => (intro wq hSw; (try dsimp only at hSw); go_simp; (try with_reducible rfl))
        (try simp only [Act.put, List.getElem_toArray, List.getElem_cons_succ, List.getElem_cons_zero, List.setIfInBounds_toArray, List.set_cons_zero, List.set_cons_succ])
        refine wpAnyH_take (i := 23) (v := ?vq23) rfl (by kernel_rfl) (by kernel_rfl) (by kernel_rfl) (fun _ _ _ h => h) (Or.inl ⟨by kernel_rfl, ?yq23⟩) (by assumption) ?rq23
        case yq23 => (intro wq hSw; (try dsimp only at hSw); go_simp; (try with_reducible rfl))
        (try simp only [Act.put, List.getElem_toArray, List.getElem_cons_succ, List.getElem_cons_zero, List.setIfInBounds_toArray, List.set_cons_zero, List.set_cons_succ])
        refine wpAnyH_ready (rs := [24]) (by kernel_rfl) (by simp) ?_
        refine AllReadyH.cons rfl (fun K hK => ?_) AllReadyH.nil
        go_simp
        refine (hull_k G12.out _).mono ?_
        rintro e w1 ⟨rfl, hb⟩
        (try dsimp only)
        refine hK.out _ _ (by (show Rrr w.heap.size w x y a b x' y' a' b' x2 y2 a2 b2 _; first | (with_reducible exact rrr_drew hS) | (refine rrr_next hb ?_; assumption) | assumption)) (fun hHeld => ?_)
        clear hK K
        (try simp only [Act.put, List.getElem_toArray, List.getElem_cons_succ, List.getElem_cons_zero, List.setIfInBounds_toArray, List.set_cons_zero, List.set_cons_succ])
        refine wpAnyH_ready (rs := [25]) (by kernel_rfl) (by simp) ?_
        refine AllReadyH.cons rfl (fun K hK => ?_) AllReadyH.nil
        go_simp
        refine (inside_c _ _ _ _ _ _ _ _ _).mono ?_
        rintro e w1 ⟨rfl, hb⟩
        (try dsimp only)
        refine hK.out _ _ (by (show Rrr w.heap.size w x y a b x' y' a' b' x2 y2 a2 b2 _; first | (with_reducible exact rrr_drew hS) | (refine rrr_next hb ?_; assumption) | assumption)) (fun hHeld => ?_)
        clear hK K
        (try simp only [Act.put, List.getElem_toArray, List.getElem_cons_succ, List.getElem_cons_zero, List.setIfInBounds_toArray, List.set_cons_zero, List.set_cons_succ])
        refine wpAnyH_take (i := 26) (v := ?vq26) rfl (by kernel_rfl) (by kernel_rfl) (by kernel_rfl) (fun _ _ _ h => h) (Or.inl ⟨by kernel_rfl, ?yq26⟩) (by assumption) ?rq26
        case yq26 => (intro wq hSw; (try dsimp only at hSw); go_simp; (try with_reducible rfl))
        (try simp only [Act.put, List.getElem_toArray, List.getElem_cons_succ, List.getElem_cons_zero, List.setIfInBounds_toArray, List.set_cons_zero, List.set_cons_succ])
        refine wpAnyH_take (i := 27) (v := ?vq27) rfl (by kernel_rfl) (by kernel_rfl) (by kernel_rfl) (fun _ _ _ h => h) (Or.inl ⟨by kernel_rfl, ?yq27⟩) (by assumption) ?rq27
        case yq27 => (intro wq hSw; (try dsimp only at hSw); go_simp; (try with_reducible rfl))
        (try simp only [Act.put, List.getElem_toArray, List.getElem_cons_succ, List.getElem_cons_zero, List.setIfInBounds_toArray, List.set_cons_zero, List.set_cons_succ])
        refine wpAnyH_take (i := 28) (v := ?vq28) rfl (by kernel_rfl) (by kernel_rfl) (by kernel_rfl) (fun _ _ _ h => h) (Or.inl ⟨by kernel_rfl, ?yq28⟩) (by assumption) ?rq28
        case yq28 => (intro wq hSw; (try dsimp only at hSw); go_simp; (try with_reducible rfl))
        (try simp only [Act.put, List.getElem_toArray, List.getElem_cons_succ, List.getElem_cons_zero, List.setIfInBounds_toArray, List.set_cons_zero, List.set_cons_succ])
        refine wpAnyH_take (i := 29) (v := ?vq29) rfl (by kernel_rfl) (by kernel_rfl) (by kernel_rfl) (fun _ _ _ h => h) (Or.inl ⟨by kernel_rfl, ?yq29⟩) (by assumption) ?rq29
        case yq29 => (intro wq hSw; (try dsimp only at hSw); go_simp; (try with_reducible rfl))
        (try simp only [Act.put, List.getElem_toArray, List.getElem_cons_succ, List.getElem_cons_zero, List.setIfInBounds_toArray, List.set_cons_zero, List.set_cons_succ])
        refine wpAnyH_take (i := 31) (v := ?vq31) rfl (by kernel_rfl) (by kernel_rfl) (by kernel_rfl) (fun _ _ _ h => h) (Or.inl ⟨by kernel_rfl, ?yq31⟩) (by assumption) ?rq31
        case yq31 => (intro wq hSw; (try dsimp only at hSw); go_simp; (try with_reducible rfl))
        (try simp only [Act.put, List.getElem_toArray, List.getElem_cons_succ, List.getElem_cons_zero, List.setIfInBounds_toArray, List.set_cons_zero, List.set_cons_succ])
        refine wpAnyH_ready (rs := [30]) (by kernel_rfl) (by simp) ?_
        refine AllReadyH.cons rfl (fun K hK => ?_) AllReadyH.nil
        go_simp
        refine (inter_k H12.out _).mono ?_
        rintro e w1 ⟨rfl, hb⟩
        (try dsimp only)
        refine hK.out _ _ (by (show Rrr w.heap.size w x y a b x' y' a' b' x2 y2 a2 b2 _; first | (with_reducible exact rrr_drew hS) | (refine rrr_next hb ?_; assumption) | assumption)) (fun hHeld => ?_)
        clear hK K
        (try simp only [Act.put, List.getElem_toArray, List.getElem_cons_succ, List.getElem_cons_zero, List.setIfInBounds_toArray, List.set_cons_zero, List.set_cons_succ])
        refine wpAnyH_ready (rs := [32]) (by kernel_rfl) (by simp) ?_
        refine AllReadyH.cons rfl (fun K hK => ?_) AllReadyH.nil
        go_simp
        refine (inside_c _ _ _ _ _ _ _ _ _).mono ?_
        rintro e w1 ⟨rfl, hb⟩
        (try dsimp only)
        refine hK.out _ _ (by (show Rrr w.heap.size w x y a b x' y' a' b' x2 y2 a2 b2 _; first | (with_reducible exact rrr_drew hS) | (refine rrr_next hb ?_; assumption) | assumption)) (fun hHeld => ?_)
        clear hK K
        (try simp only [Act.put, List.getElem_toArray, List.getElem_cons_succ, List.getElem_cons_zero, List.setIfInBounds_toArray, List.set_cons_zero, List.set_cons_succ])
        refine wpAnyH_take (i := 33) (v := ?vq33) rfl (by kernel_rfl) (by kernel_rfl) (by kernel_rfl) (fun _ _ _ h => h) (Or.inl ⟨by kernel_rfl, ?yq33⟩) (by assumption) ?rq33
        case yq33 => (intro wq hSw; (try dsimp only at hSw); go_simp; (try with_reducible rfl))
        (try simp only [Act.put, List.getElem_toArray, List.getElem_cons_succ, List.getElem_cons_zero, List.setIfInBounds_toArray, List.set_cons_zero, List.set_cons_succ])
        refine wpAnyH_take (i := 34) (v := ?vq34) rfl (by kernel_rfl) (by kernel_rfl) (by kernel_rfl) (fun _ _ _ h => h) (Or.inl ⟨by kernel_rfl, ?yq34⟩) (by assumption) ?rq34
        case yq34 => (intro wq hSw; (try dsimp only at hSw); go_simp; (try with_reducible rfl))
        (try simp only [Act.put, List.getElem_toArray, List.getElem_cons_succ, List.getElem_cons_zero, List.setIfInBounds_toArray, List.set_cons_zero, List.set_cons_succ])
        refine wpAnyH_ready (rs := [35]) (by kernel_rfl) (by simp) ?_
        refine AllReadyH.cons rfl (fun K hK => ?_) AllReadyH.nil
        go_simp
        refine (awake_c _).mono ?_
        rintro e w1 ⟨rfl, hb⟩; have hT : Rrr w.heap.size w x y a b x' y' a' b' x2 y2 a2 b2 w1 := rrr_next hb (by assumption)
        (try dsimp only)
        refine hK.out _ _ (by (show Rrr w.heap.size w x y a b x' y' a' b' x2 y2 a2 b2 _; first | (with_reducible exact rrr_drew hS) | (refine rrr_next hb ?_; assumption) | assumption)) (fun hHeld => ?_)
        clear hK K
        (try simp only [Act.put, List.getElem_toArray, List.getElem_cons_succ, List.getElem_cons_zero, List.setIfInBounds_toArray, List.set_cons_zero, List.set_cons_succ])
        refine wpAnyH_take (i := 36) (v := ?vq36) rfl (by kernel_rfl) (by kernel_rfl) (by kernel_rfl) (fun _ _ _ h => h) (Or.inl ⟨by kernel_rfl, ?yq36⟩) (by assumption) ?rq36
        case yq36 => (intro wq hSw; (try dsimp only at hSw); go_simp; (try with_reducible rfl))
        (try simp only [Act.put, List.getElem_toArray, List.getElem_cons_succ, List.getElem_cons_zero, List.setIfInBounds_toArray, List.set_cons_zero, List.set_cons_succ])
        refine wpAnyH_take (i := 37) (v := ?vq37) rfl (by kernel_rfl) (by kernel_rfl) (by kernel_rfl) (fun _ _ _ h => h) (Or.inl ⟨by kernel_rfl, ?yq37⟩) (by assumption) ?rq37
        case yq37 => (intro wq hSw; (try dsimp only at hSw); go_simp; (try with_reducible rfl))
        (try simp only [Act.put, List.getElem_toArray, List.getElem_cons_succ, List.getElem_cons_zero, List.setIfInBounds_toArray, List.set_cons_zero, List.set_cons_succ])
        refine wpAnyH_done (by kernel_rfl) ?_ _
        refine NoPanic.normal ?_
        go_wp2
        go_ret
        exact ⟨rfl, (rrr_out hT).2.2.2.1⟩
      · go_wp2_with (first | (go_at_call 17; refine (empty_c _ _ _ _ _).mono ?_; rintro e w1 ⟨rfl, hb⟩; have hS : Rrr w.heap.size w x y a b x' y' a' b' x2 y2 a2 b2 w1 := rrr_next hb (by first | assumption | exact rrr_drew (by assumption)); clear hb; obtain ⟨⟨c00, c01, c02, c03⟩, ⟨c10, c11, c12, c13⟩, ⟨c20, c21, c22, c23⟩, hB, hz⟩ := rrr_out hS) | (go_at_call 14; refine (awake_c _).mono ?_; rintro e w1 ⟨rfl, hb⟩; have hS : Rrr w.heap.size w x y a b x' y' a' b' x2 y2 a2 b2 w1 := rrr_next hb (by first | assumption | exact rrr_drew (by assumption)); clear hb; obtain ⟨⟨c00, c01, c02, c03⟩, ⟨c10, c11, c12, c13⟩, ⟨c20, c21, c22, c23⟩, hB, hz⟩ := rrr_out hS))
        go_ret
        exact ⟨rfl, by repeat' (first | (with_reducible exact Below.refl _ _) | (with_reducible assumption) | (with_reducible refine Below.alloc ?_ ?_ _) | (with_reducible refine Below.drew ?_) | (with_reducible refine Below.setCell ?_ ?_ _) | (with_reducible refine Below.then1 (by with_reducible assumption) ?_) | go_size)⟩
    · go_wp2_with (first | (go_at_call 17; refine (empty_c _ _ _ _ _).mono ?_; rintro e w1 ⟨rfl, hb⟩; have hS : Rrr w.heap.size w x y a b x' y' a' b' x2 y2 a2 b2 w1 := rrr_next hb (by first | assumption | exact rrr_drew (by assumption)); clear hb; obtain ⟨⟨c00, c01, c02, c03⟩, ⟨c10, c11, c12, c13⟩, ⟨c20, c21, c22, c23⟩, hB, hz⟩ := rrr_out hS) | (go_at_call 14; refine (awake_c _).mono ?_; rintro e w1 ⟨rfl, hb⟩; have hS : Rrr w.heap.size w x y a b x' y' a' b' x2 y2 a2 b2 w1 := rrr_next hb (by first | assumption | exact rrr_drew (by assumption)); clear hb; obtain ⟨⟨c00, c01, c02, c03⟩, ⟨c10, c11, c12, c13⟩, ⟨c20, c21, c22, c23⟩, hB, hz⟩ := rrr_out hS))
      go_ret
      exact ⟨rfl, by repeat' (first | (with_reducible exact Below.refl _ _) | (with_reducible assumption) | (with_reducible refine Below.alloc ?_ ?_ _) | (with_reducible refine Below.drew ?_) | (with_reducible refine Below.setCell ?_ ?_ _) | (with_reducible refine Below.then1 (by with_reducible assumption) ?_) | go_size)⟩
  · go_wp2_with (first | (go_at_call 17; refine (empty_c _ _ _ _ _).mono ?_; rintro e w1 ⟨rfl, hb⟩; have hS : Rrr w.heap.size w x y a b x' y' a' b' x2 y2 a2 b2 w1 := rrr_next hb (by first | assumption | exact rrr_drew (by assumption)); clear hb; obtain ⟨⟨c00, c01, c02, c03⟩, ⟨c10, c11, c12, c13⟩, ⟨c20, c21, c22, c23⟩, hB, hz⟩ := rrr_out hS) | (go_at_call 14; refine (awake_c _).mono ?_; rintro e w1 ⟨rfl, hb⟩; have hS : Rrr w.heap.size w x y a b x' y' a' b' x2 y2 a2 b2 w1 := rrr_next hb (by first | assumption | exact rrr_drew (by assumption)); clear hb; obtain ⟨⟨c00, c01, c02, c03⟩, ⟨c10, c11, c12, c13⟩, ⟨c20, c21, c22, c23⟩, hB, hz⟩ := rrr_out hS))
    go_ret
    exact ⟨rfl, by repeat' (first | (with_reducible exact Below.refl _ _) | (with_reducible assumption) | (with_reducible refine Below.alloc ?_ ?_ _) | (with_reducible refine Below.drew ?_) | (with_reducible refine Below.setCell ?_ ?_ _) | (with_reducible refine Below.then1 (by with_reducible assumption) ?_) | go_size)⟩
theorem laws_w (x y a b x' y' a' b' x2 y2 a2 b2 : Int) (w : World) : Calls Try.prog 8 #[.agg #[.int .i64 x, .int .i64 y, .int .i64 a, .int .i64 b], .agg #[.int .i64 x', .int .i64 y', .int .i64 a', .int .i64 b'], .agg #[.int .i64 x2, .int .i64 y2, .int .i64 a2, .int .i64 b2]] w fun e w' => e = .returned (.bool true) ∧ Below w.heap.size w w' := by
  obtain ⟨⟨i1, i2, i3, i4⟩, hi⟩ : ∃ I, int ⟨x, y, a, b⟩ ⟨x', y', a', b'⟩ = I := ⟨_, rfl⟩
  obtain ⟨⟨j1, j2, j3, j4⟩, hj⟩ : ∃ J, int ⟨i1, i2, i3, i4⟩ ⟨x2, y2, a2, b2⟩ = J := ⟨_, rfl⟩
  obtain ⟨⟨k1, k2, k3, k4⟩, hk⟩ : ∃ K, int ⟨x', y', a', b'⟩ ⟨x2, y2, a2, b2⟩ = K := ⟨_, rfl⟩
  have h21 := (int_comm ⟨x', y', a', b'⟩ ⟨x, y, a, b⟩).trans hi
  have hj2 : int ⟨x, y, a, b⟩ ⟨k1, k2, k3, k4⟩ = ⟨j1, j2, j3, j4⟩ := by rw [← hk, ← int_assoc, hi]; exact hj
  refine laws_k _ _ _ _ _ _ _ _ _ _ _ _ i1 i2 i3 i4 j1 j2 j3 j4 k1 k2 k3 k4 w hi h21 hj hk hj2 ?_
  intro h1 h2 h3
  have f1 : Full ⟨x, y, a, b⟩ := emp_full h1
  have f2 : Full ⟨x', y', a', b'⟩ := emp_full h2
  have f3 : Full ⟨x2, y2, a2, b2⟩ := emp_full h3
  obtain ⟨⟨m1, m2, m3, m4⟩, hh⟩ : ∃ H, hul ⟨x, y, a, b⟩ ⟨x', y', a', b'⟩ = H := ⟨_, rfl⟩
  obtain ⟨⟨g1, g2, g3, g4⟩, hg⟩ : ∃ G, hul ⟨m1, m2, m3, m4⟩ ⟨x2, y2, a2, b2⟩ = G := ⟨_, rfl⟩
  obtain ⟨⟨l1, l2, l3, l4⟩, hl⟩ : ∃ L, hul ⟨x', y', a', b'⟩ ⟨x2, y2, a2, b2⟩ = L := ⟨_, rfl⟩
  have q5 := inside_hul f1 f2
  have q6 := inside_int f1 f2
  rw [hh] at q5
  rw [hi] at q6
  have hg2 : hul ⟨x, y, a, b⟩ ⟨l1, l2, l3, l4⟩ = ⟨g1, g2, g3, g4⟩ := by rw [← hl, ← hul_assoc f1 f2 f3, hh]; exact hg
  exact ⟨m1, m2, m3, m4, g1, g2, g3, g4, l1, l2, l3, l4, hh, (hul_comm f2 f1).trans hh, hg, hl, hg2, q5, q6⟩
end Go.Proofs.Ytkciaedhocackaa
