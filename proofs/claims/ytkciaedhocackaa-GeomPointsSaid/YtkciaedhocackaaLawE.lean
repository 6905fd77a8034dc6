import Derived.Test.YtkciaedhocackaaLawA
import Derived.Test.YtkciaedhocackaaPlainB
namespace Go.Proofs.Ytkciaedhocackaa
open Go.RowKit
attribute [local go_sem ↓] eql_rect neq_rect
/-- What a drawn region keeps: blocks n, n + 1, .. hold these numbers. -/
def Rrp (n : Nat) (w0 : World) (x y a b x' y' a' b' p q : Int) (w : World) : Prop :=
  (w.cell? ⟨n, 0, none⟩ = some (.int .i64 x) ∧ w.cell? ⟨n, 1, none⟩ = some (.int .i64 y) ∧ w.cell? ⟨n, 2, none⟩ = some (.int .i64 a) ∧ w.cell? ⟨n, 3, none⟩ = some (.int .i64 b)) ∧ (w.cell? ⟨n + 1, 0, none⟩ = some (.int .i64 x') ∧ w.cell? ⟨n + 1, 1, none⟩ = some (.int .i64 y') ∧ w.cell? ⟨n + 1, 2, none⟩ = some (.int .i64 a') ∧ w.cell? ⟨n + 1, 3, none⟩ = some (.int .i64 b')) ∧ (w.cell? ⟨n + 1 + 1, 0, none⟩ = some (.int .i64 p) ∧ w.cell? ⟨n + 1 + 1, 1, none⟩ = some (.int .i64 q)) ∧ Below n w0 w ∧ n + 1 + 1 < w.heap.size
section
variable {n : Nat} {w0 : World} {x y a b x' y' a' b' p q : Int} {w w1 : World}
theorem rrp_out (h : Rrp n w0 x y a b x' y' a' b' p q w) : (w.cell? ⟨n, 0, none⟩ = some (.int .i64 x) ∧ w.cell? ⟨n, 1, none⟩ = some (.int .i64 y) ∧ w.cell? ⟨n, 2, none⟩ = some (.int .i64 a) ∧ w.cell? ⟨n, 3, none⟩ = some (.int .i64 b)) ∧ (w.cell? ⟨n + 1, 0, none⟩ = some (.int .i64 x') ∧ w.cell? ⟨n + 1, 1, none⟩ = some (.int .i64 y') ∧ w.cell? ⟨n + 1, 2, none⟩ = some (.int .i64 a') ∧ w.cell? ⟨n + 1, 3, none⟩ = some (.int .i64 b')) ∧ (w.cell? ⟨n + 1 + 1, 0, none⟩ = some (.int .i64 p) ∧ w.cell? ⟨n + 1 + 1, 1, none⟩ = some (.int .i64 q)) ∧ Below n w0 w ∧ n + 1 + 1 < w.heap.size := h
theorem rrp_drew (h : Rrp n w0 x y a b x' y' a' b' p q w) : Rrp n w0 x y a b x' y' a' b' p q w.drew := by
  obtain ⟨h0, h1, h2, hB, hz⟩ := h
  exact ⟨h0, h1, h2, hB.drew, hz⟩
theorem rrp_next (hb : Below w.heap.size w w1) (h : Rrp n w0 x y a b x' y' a' b' p q w) : Rrp n w0 x y a b x' y' a' b' p q w1 := by
  obtain ⟨⟨c00, c01, c02, c03⟩, ⟨c10, c11, c12, c13⟩, ⟨c20, c21⟩, hB, hz⟩ := h
  obtain ⟨hc, _⟩ := bcell hb
  have hs := hb.size
  exact ⟨⟨(hc _ _ (by omega)).trans c00, (hc _ _ (by omega)).trans c01, (hc _ _ (by omega)).trans c02, (hc _ _ (by omega)).trans c03⟩, ⟨(hc _ _ (by omega)).trans c10, (hc _ _ (by omega)).trans c11, (hc _ _ (by omega)).trans c12, (hc _ _ (by omega)).trans c13⟩, ⟨(hc _ _ (by omega)).trans c20, (hc _ _ (by omega)).trans c21⟩, hB.trans (hb.mono (by omega)), by omega⟩
theorem rrp_start (w : World) (x y a b x' y' a' b' p q : Int) (t0 t1 t2 : TypeId) : Rrp w.heap.size w x y a b x' y' a' b' p q (((w.alloc (.cells #[.int .i64 x, .int .i64 y, .int .i64 a, .int .i64 b] t0)).alloc (.cells #[.int .i64 x', .int .i64 y', .int .i64 a', .int .i64 b'] t1)).alloc (.cells #[.int .i64 p, .int .i64 q] t2)) := by
  refine ⟨⟨?_, ?_, ?_, ?_⟩, ⟨?_, ?_, ?_, ?_⟩, ⟨?_, ?_⟩, ?_, by simp⟩
  all_goals first | (simp [go_sem]; done) | (repeat' (first | (with_reducible exact Below.refl _ _) | (with_reducible assumption) | (with_reducible refine Below.alloc ?_ ?_ _) | (with_reducible refine Below.drew ?_) | (with_reducible refine Below.setCell ?_ ?_ _) | (with_reducible refine Below.on (by with_reducible assumption) ?_ ?_) | go_size))
end
set_option maxHeartbeats 8000000 in
theorem points_w (x y a b x' y' a' b' p q : Int) (w : World) : Calls Try.prog 7 #[.agg #[.int .i64 x, .int .i64 y, .int .i64 a, .int .i64 b], .agg #[.int .i64 x', .int .i64 y', .int .i64 a', .int .i64 b'], .agg #[.int .i64 p, .int .i64 q]] w fun e w' => e = .returned (.bool true) ∧ Below w.heap.size w w' := by
  have HS := Lib.hid (rrp_start w x y a b x' y' a' b' p q 27 27 29)
  have hII := has_int ⟨x, y, a, b⟩ ⟨x', y', a', b'⟩ p q
  have hHH := has_hul ⟨x, y, a, b⟩ ⟨x', y', a', b'⟩ p q
  cases hA : hasB x y a b p q <;> cases hB' : hasB x' y' a' b' p q
  · have hI : hasB (interR x y a b x' y' a' b').x (interR x y a b x' y' a' b').y (interR x y a b x' y' a' b').w (interR x y a b x' y' a' b').h p q = false := hII.trans (by simp [hA, hB'])
    clear hII hHH
    go_enter Try.func7, Try.ntmps7
    go_wp2_with (go_at_call 21; refine (has_c _ _ _ _ _ _ _).mono ?_; rintro e w1 ⟨rfl, hb⟩; have hS : Rrp w.heap.size w x y a b x' y' a' b' p q w1 := rrp_next hb (by first | assumption | exact HS.out | exact rrp_drew (by assumption)); clear hb; obtain ⟨⟨c00, c01, c02, c03⟩, ⟨c10, c11, c12, c13⟩, ⟨c20, c21⟩, hB, hz⟩ := rrp_out hS)
    refine wp_region_noPanic ?_
    refine wp_region_held_drew (S := fun wx => (wx.cell? ⟨w.heap.size, 0, none⟩ = some (.int .i64 x) ∧ wx.cell? ⟨w.heap.size, 1, none⟩ = some (.int .i64 y) ∧ wx.cell? ⟨w.heap.size, 2, none⟩ = some (.int .i64 a) ∧ wx.cell? ⟨w.heap.size, 3, none⟩ = some (.int .i64 b)) ∧ (wx.cell? ⟨w.heap.size + 1, 0, none⟩ = some (.int .i64 x') ∧ wx.cell? ⟨w.heap.size + 1, 1, none⟩ = some (.int .i64 y') ∧ wx.cell? ⟨w.heap.size + 1, 2, none⟩ = some (.int .i64 a') ∧ wx.cell? ⟨w.heap.size + 1, 3, none⟩ = some (.int .i64 b')) ∧ (wx.cell? ⟨w.heap.size + 1 + 1, 0, none⟩ = some (.int .i64 p) ∧ wx.cell? ⟨w.heap.size + 1 + 1, 1, none⟩ = some (.int .i64 q)) ∧ Below w.heap.size w wx ∧ w.heap.size + 1 + 1 < wx.heap.size) (by kernel_rfl) (by (show Rrp w.heap.size w x y a b x' y' a' b' p q _; first | (with_reducible exact rrp_drew hS) | (refine rrp_next hb ?_; assumption) | assumption)) (fun hHeld => ?_)
    refine wpAnyH_take (i := 0) (v := ?v0) rfl (by kernel_rfl) (by kernel_rfl) (by kernel_rfl) (fun _ _ _ h => h) (Or.inl ⟨by kernel_rfl, ?y0⟩) (by assumption) ?r0
    case y0 => (intro wq hSw; (try dsimp only at hSw); go_simp; (try with_reducible rfl))
    (try simp only [Act.put, List.getElem_toArray, List.getElem_cons_zero, List.setIfInBounds_toArray, List.set_cons_zero, List.set_cons_succ])
    refine wpAnyH_take (i := 1) (v := ?v1) rfl (by kernel_rfl) (by kernel_rfl) (by kernel_rfl) (fun _ _ _ h => h) (Or.inl ⟨by kernel_rfl, ?y1⟩) (by assumption) ?r1
    case y1 => (intro wq hSw; (try dsimp only at hSw); go_simp; (try with_reducible rfl))
    (try simp only [Act.put, List.getElem_toArray, List.getElem_cons_succ, List.getElem_cons_zero, List.setIfInBounds_toArray, List.set_cons_zero, List.set_cons_succ])
    refine wpAnyH_take (i := 3) (v := ?v3) rfl (by kernel_rfl) (by kernel_rfl) (by kernel_rfl) (fun _ _ _ h => h) (Or.inl ⟨by kernel_rfl, ?y3⟩) (by assumption) ?r3
    case y3 => (intro wq hSw; (try dsimp only at hSw); go_simp; (try with_reducible rfl))
    (try simp only [Act.put, List.getElem_toArray, List.getElem_cons_succ, List.getElem_cons_zero, List.setIfInBounds_toArray, List.set_cons_zero, List.set_cons_succ])
    refine wpAnyH_take (i := 5) (v := ?v5) rfl (by kernel_rfl) (by kernel_rfl) (by kernel_rfl) (fun _ _ _ h => h) (Or.inl ⟨by kernel_rfl, ?y5⟩) (by assumption) ?r5
    case y5 => (intro wq hSw; (try dsimp only at hSw); go_simp; (try with_reducible rfl))
    (try simp only [Act.put, List.getElem_toArray, List.getElem_cons_succ, List.getElem_cons_zero, List.setIfInBounds_toArray, List.set_cons_zero, List.set_cons_succ])
    refine wpAnyH_ready (rs := [2]) (by kernel_rfl) (by simp) ?_
    refine AllReadyH.cons rfl (fun K hK => ?_) AllReadyH.nil
    go_simp
    refine (inter_c _ _ _ _ _ _ _ _ _).mono ?_
    rintro e w1 ⟨rfl, hb⟩
    (try dsimp only)
    refine hK.out _ _ (by (show Rrp w.heap.size w x y a b x' y' a' b' p q _; first | (with_reducible exact rrp_drew hS) | (refine rrp_next hb ?_; assumption) | assumption)) (fun hHeld => ?_)
    clear hK K
    (try simp only [Act.put, List.getElem_toArray, List.getElem_cons_succ, List.getElem_cons_zero, List.setIfInBounds_toArray, List.set_cons_zero, List.set_cons_succ])
    refine wpAnyH_ready (rs := [4]) (by kernel_rfl) (by simp) ?_
    refine AllReadyH.cons rfl (fun K hK => ?_) AllReadyH.nil
    go_simp
    refine (has_c _ _ _ _ _ _ _).mono ?_
    rintro e w1 ⟨rfl, hb⟩
    (try dsimp only)
    refine hK.out _ _ (by (show Rrp w.heap.size w x y a b x' y' a' b' p q _; first | (with_reducible exact rrp_drew hS) | (refine rrp_next hb ?_; assumption) | assumption)) (fun hHeld => ?_)
    clear hK K
    (try simp only [Act.put, List.getElem_toArray, List.getElem_cons_succ, List.getElem_cons_zero, List.setIfInBounds_toArray, List.set_cons_zero, List.set_cons_succ])
    refine wpAnyH_take (i := 6) (v := ?v6) rfl (by kernel_rfl) (by kernel_rfl) (by kernel_rfl) (fun _ _ _ h => h) (Or.inl ⟨by kernel_rfl, ?y6⟩) (by assumption) ?r6
    case y6 => (intro wq hSw; (try dsimp only at hSw); go_simp; (try with_reducible rfl))
    (try simp only [Act.put, List.getElem_toArray, List.getElem_cons_succ, List.getElem_cons_zero, List.setIfInBounds_toArray, List.set_cons_zero, List.set_cons_succ])
    refine wpAnyH_take (i := 7) (v := ?v7) rfl (by kernel_rfl) (by kernel_rfl) (by kernel_rfl) (fun _ _ _ h => h) (Or.inl ⟨by kernel_rfl, ?y7⟩) (by assumption) ?r7
    case y7 => (intro wq hSw; (try dsimp only at hSw); go_simp; (try with_reducible rfl))
    (try simp only [Act.put, List.getElem_toArray, List.getElem_cons_succ, List.getElem_cons_zero, List.setIfInBounds_toArray, List.set_cons_zero, List.set_cons_succ])
    refine wpAnyH_take (i := 8) (v := ?v8) rfl (by kernel_rfl) (by kernel_rfl) (by kernel_rfl) (fun _ _ _ h => h) (Or.inl ⟨by kernel_rfl, ?y8⟩) (by assumption) ?r8
    case y8 => (intro wq hSw; (try dsimp only at hSw); go_simp; (try with_reducible rfl))
    (try simp only [Act.put, List.getElem_toArray, List.getElem_cons_succ, List.getElem_cons_zero, List.setIfInBounds_toArray, List.set_cons_zero, List.set_cons_succ])
    refine wpAnyH_take (i := 9) (v := ?v9) rfl (by kernel_rfl) (by kernel_rfl) (by kernel_rfl) (fun _ _ _ h => h) (Or.inl ⟨by kernel_rfl, ?y9⟩) (by assumption) ?r9
    case y9 => (intro wq hSw; (try dsimp only at hSw); go_simp; (try with_reducible rfl))
    (try simp only [Act.put, List.getElem_toArray, List.getElem_cons_succ, List.getElem_cons_zero, List.setIfInBounds_toArray, List.set_cons_zero, List.set_cons_succ])
    refine wpAnyH_take (i := 10) (v := ?v10) rfl (by kernel_rfl) (by kernel_rfl) (by kernel_rfl) (fun _ _ _ h => h) (Or.inl ⟨by kernel_rfl, ?y10⟩) (by assumption) ?r10
    case y10 => (intro wq hSw; (try dsimp only at hSw); go_simp; (try with_reducible rfl))
    (try simp only [Act.put, List.getElem_toArray, List.getElem_cons_succ, List.getElem_cons_zero, List.setIfInBounds_toArray, List.set_cons_zero, List.set_cons_succ])
    refine wpAnyH_take (i := 11) (v := undef) rfl (by kernel_rfl) (by kernel_rfl) (by kernel_rfl) (fun _ _ _ h => h) (Or.inr ⟨by kernel_rfl, rfl⟩) (by assumption) ?_
    (try simp only [Act.put, List.getElem_toArray, List.getElem_cons_succ, List.getElem_cons_zero, List.setIfInBounds_toArray, List.set_cons_zero, List.set_cons_succ])
    refine wpAnyH_take (i := 12) (v := undef) rfl (by kernel_rfl) (by kernel_rfl) (by kernel_rfl) (fun _ _ _ h => h) (Or.inr ⟨by kernel_rfl, rfl⟩) (by assumption) ?_
    (try simp only [Act.put, List.getElem_toArray, List.getElem_cons_succ, List.getElem_cons_zero, List.setIfInBounds_toArray, List.set_cons_zero, List.set_cons_succ])
    refine wpAnyH_take (i := 13) (v := undef) rfl (by kernel_rfl) (by kernel_rfl) (by kernel_rfl) (fun _ _ _ h => h) (Or.inr ⟨by kernel_rfl, rfl⟩) (by assumption) ?_
    (try simp only [Act.put, List.getElem_toArray, List.getElem_cons_succ, List.getElem_cons_zero, List.setIfInBounds_toArray, List.set_cons_zero, List.set_cons_succ])
    refine wpAnyH_take (i := 14) (v := undef) rfl (by kernel_rfl) (by kernel_rfl) (by kernel_rfl) (fun _ _ _ h => h) (Or.inr ⟨by kernel_rfl, rfl⟩) (by assumption) ?_
    (try simp only [Act.put, List.getElem_toArray, List.getElem_cons_succ, List.getElem_cons_zero, List.setIfInBounds_toArray, List.set_cons_zero, List.set_cons_succ])
    refine wpAnyH_take (i := 15) (v := undef) rfl (by kernel_rfl) (by kernel_rfl) (by kernel_rfl) (fun _ _ _ h => h) (Or.inr ⟨by kernel_rfl, rfl⟩) (by assumption) ?_
    (try simp only [Act.put, List.getElem_toArray, List.getElem_cons_succ, List.getElem_cons_zero, List.setIfInBounds_toArray, List.set_cons_zero, List.set_cons_succ])
    refine wpAnyH_take (i := 16) (v := ?v16) rfl (by kernel_rfl) (by kernel_rfl) (by kernel_rfl) (fun _ _ _ h => h) (Or.inl ⟨by kernel_rfl, ?y16⟩) (by assumption) ?r16
    case y16 => (intro wq hSw; (try dsimp only at hSw); go_simp; (try with_reducible rfl))
    (try simp only [Act.put, List.getElem_toArray, List.getElem_cons_succ, List.getElem_cons_zero, List.setIfInBounds_toArray, List.set_cons_zero, List.set_cons_succ])
    refine wpAnyH_take (i := 17) (v := ?v17) rfl (by kernel_rfl) (by kernel_rfl) (by kernel_rfl) (fun _ _ _ h => h) (Or.inl ⟨by kernel_rfl, ?y17⟩) (by assumption) ?r17
    case y17 => (intro wq hSw; (try dsimp only at hSw); go_simp; (try with_reducible rfl))
    (try simp only [Act.put, List.getElem_toArray, List.getElem_cons_succ, List.getElem_cons_zero, List.setIfInBounds_toArray, List.set_cons_zero, List.set_cons_succ])
    refine wpAnyH_take (i := 18) (v := ?v18) rfl (by kernel_rfl) (by kernel_rfl) (by kernel_rfl) (fun _ _ _ h => h) (Or.inl ⟨by kernel_rfl, ?y18⟩) (by assumption) ?r18
    case y18 => (intro wq hSw; (try dsimp only at hSw); go_simp; (try with_reducible rfl))
    (try simp only [Act.put, List.getElem_toArray, List.getElem_cons_succ, List.getElem_cons_zero, List.setIfInBounds_toArray, List.set_cons_zero, List.set_cons_succ])
    refine wpAnyH_ready (rs := [19]) (by kernel_rfl) (by simp) ?_
    refine AllReadyH.cons rfl (fun K hK => ?_) AllReadyH.nil
    go_simp
    refine (awake_c _).mono ?_
    rintro e w1 ⟨rfl, hb⟩; have hT : Rrp w.heap.size w x y a b x' y' a' b' p q w1 := rrp_next hb (by assumption)
    (try dsimp only)
    refine hK.out _ _ (by (show Rrp w.heap.size w x y a b x' y' a' b' p q _; first | (with_reducible exact rrp_drew hS) | (refine rrp_next hb ?_; assumption) | assumption)) (fun hHeld => ?_)
    clear hK K
    (try simp only [Act.put, List.getElem_toArray, List.getElem_cons_succ, List.getElem_cons_zero, List.setIfInBounds_toArray, List.set_cons_zero, List.set_cons_succ])
    refine wpAnyH_take (i := 20) (v := ?v20) rfl (by kernel_rfl) (by kernel_rfl) (by kernel_rfl) (fun _ _ _ h => h) (Or.inl ⟨by kernel_rfl, ?y20⟩) (by assumption) ?r20
    case y20 => (intro wq hSw; (try dsimp only at hSw); go_simp; (try with_reducible rfl))
    (try simp only [Act.put, List.getElem_toArray, List.getElem_cons_succ, List.getElem_cons_zero, List.setIfInBounds_toArray, List.set_cons_zero, List.set_cons_succ])
    refine wpAnyH_take (i := 21) (v := ?v21) rfl (by kernel_rfl) (by kernel_rfl) (by kernel_rfl) (fun _ _ _ h => h) (Or.inl ⟨by kernel_rfl, ?y21⟩) (by assumption) ?r21
    case y21 => (intro wq hSw; (try dsimp only at hSw); go_simp; (try with_reducible rfl))
    (try simp only [Act.put, List.getElem_toArray, List.getElem_cons_succ, List.getElem_cons_zero, List.setIfInBounds_toArray, List.set_cons_zero, List.set_cons_succ])
    refine wpAnyH_done (by kernel_rfl) ?_ _
    refine NoPanic.normal ?_
    go_wp2
    go_ret
    exact ⟨rfl, (rrp_out hT).2.2.2.1⟩
  · have hI : hasB (interR x y a b x' y' a' b').x (interR x y a b x' y' a' b').y (interR x y a b x' y' a' b').w (interR x y a b x' y' a' b').h p q = false := hII.trans (by simp [hA, hB'])
    have hH : hasB (hullR x y a b x' y' a' b').x (hullR x y a b x' y' a' b').y (hullR x y a b x' y' a' b').w (hullR x y a b x' y' a' b').h p q = true := hHH (by simp [hA, hB'])
    clear hII hHH
    go_enter Try.func7, Try.ntmps7
    go_wp2_with (go_at_call 21; refine (has_c _ _ _ _ _ _ _).mono ?_; rintro e w1 ⟨rfl, hb⟩; have hS : Rrp w.heap.size w x y a b x' y' a' b' p q w1 := rrp_next hb (by first | assumption | exact HS.out | exact rrp_drew (by assumption)); clear hb; obtain ⟨⟨c00, c01, c02, c03⟩, ⟨c10, c11, c12, c13⟩, ⟨c20, c21⟩, hB, hz⟩ := rrp_out hS)
    go_region_held3 (fun wx => (wx.cell? ⟨w.heap.size, 0, none⟩ = some (.int .i64 x) ∧ wx.cell? ⟨w.heap.size, 1, none⟩ = some (.int .i64 y) ∧ wx.cell? ⟨w.heap.size, 2, none⟩ = some (.int .i64 a) ∧ wx.cell? ⟨w.heap.size, 3, none⟩ = some (.int .i64 b)) ∧ (wx.cell? ⟨w.heap.size + 1, 0, none⟩ = some (.int .i64 x') ∧ wx.cell? ⟨w.heap.size + 1, 1, none⟩ = some (.int .i64 y') ∧ wx.cell? ⟨w.heap.size + 1, 2, none⟩ = some (.int .i64 a') ∧ wx.cell? ⟨w.heap.size + 1, 3, none⟩ = some (.int .i64 b')) ∧ (wx.cell? ⟨w.heap.size + 1 + 1, 0, none⟩ = some (.int .i64 p) ∧ wx.cell? ⟨w.heap.size + 1 + 1, 1, none⟩ = some (.int .i64 q)) ∧ Below w.heap.size w wx ∧ w.heap.size + 1 + 1 < wx.heap.size)
      ((show Rrp w.heap.size w x y a b x' y' a' b' p q _; first | (with_reducible exact rrp_drew hS) | (refine rrp_next hb ?_; assumption) | assumption))
      (first | (go_at_call 25; refine (inter_c _ _ _ _ _ _ _ _ _).mono ?_; rintro e w1 ⟨rfl, hb⟩) | (go_at_call 21; refine (has_c _ _ _ _ _ _ _).mono ?_; rintro e w1 ⟨rfl, hb⟩) | (go_at_call 27; refine (hull_c _ _ _ _ _ _ _ _ _).mono ?_; rintro e w1 ⟨rfl, hb⟩) | (go_at_call 14; refine (awake_c _).mono ?_; rintro e w1 ⟨rfl, hb⟩; have hT : Rrp w.heap.size w x y a b x' y' a' b' p q w1 := rrp_next hb (by assumption)))
    go_wp2
    go_ret
    exact ⟨rfl, (rrp_out hT).2.2.2.1⟩
  · have hI : hasB (interR x y a b x' y' a' b').x (interR x y a b x' y' a' b').y (interR x y a b x' y' a' b').w (interR x y a b x' y' a' b').h p q = false := hII.trans (by simp [hA, hB'])
    have hH : hasB (hullR x y a b x' y' a' b').x (hullR x y a b x' y' a' b').y (hullR x y a b x' y' a' b').w (hullR x y a b x' y' a' b').h p q = true := hHH (by simp [hA, hB'])
    clear hII hHH
    go_enter Try.func7, Try.ntmps7
    go_wp2_with (go_at_call 21; refine (has_c _ _ _ _ _ _ _).mono ?_; rintro e w1 ⟨rfl, hb⟩; have hS : Rrp w.heap.size w x y a b x' y' a' b' p q w1 := rrp_next hb (by first | assumption | exact HS.out | exact rrp_drew (by assumption)); clear hb; obtain ⟨⟨c00, c01, c02, c03⟩, ⟨c10, c11, c12, c13⟩, ⟨c20, c21⟩, hB, hz⟩ := rrp_out hS)
    go_region_held3 (fun wx => (wx.cell? ⟨w.heap.size, 0, none⟩ = some (.int .i64 x) ∧ wx.cell? ⟨w.heap.size, 1, none⟩ = some (.int .i64 y) ∧ wx.cell? ⟨w.heap.size, 2, none⟩ = some (.int .i64 a) ∧ wx.cell? ⟨w.heap.size, 3, none⟩ = some (.int .i64 b)) ∧ (wx.cell? ⟨w.heap.size + 1, 0, none⟩ = some (.int .i64 x') ∧ wx.cell? ⟨w.heap.size + 1, 1, none⟩ = some (.int .i64 y') ∧ wx.cell? ⟨w.heap.size + 1, 2, none⟩ = some (.int .i64 a') ∧ wx.cell? ⟨w.heap.size + 1, 3, none⟩ = some (.int .i64 b')) ∧ (wx.cell? ⟨w.heap.size + 1 + 1, 0, none⟩ = some (.int .i64 p) ∧ wx.cell? ⟨w.heap.size + 1 + 1, 1, none⟩ = some (.int .i64 q)) ∧ Below w.heap.size w wx ∧ w.heap.size + 1 + 1 < wx.heap.size)
      ((show Rrp w.heap.size w x y a b x' y' a' b' p q _; first | (with_reducible exact rrp_drew hS) | (refine rrp_next hb ?_; assumption) | assumption))
      (first | (go_at_call 25; refine (inter_c _ _ _ _ _ _ _ _ _).mono ?_; rintro e w1 ⟨rfl, hb⟩) | (go_at_call 21; refine (has_c _ _ _ _ _ _ _).mono ?_; rintro e w1 ⟨rfl, hb⟩) | (go_at_call 27; refine (hull_c _ _ _ _ _ _ _ _ _).mono ?_; rintro e w1 ⟨rfl, hb⟩) | (go_at_call 14; refine (awake_c _).mono ?_; rintro e w1 ⟨rfl, hb⟩; have hT : Rrp w.heap.size w x y a b x' y' a' b' p q w1 := rrp_next hb (by assumption)))
    go_wp2
    go_ret
    exact ⟨rfl, (rrp_out hT).2.2.2.1⟩
  · have hI : hasB (interR x y a b x' y' a' b').x (interR x y a b x' y' a' b').y (interR x y a b x' y' a' b').w (interR x y a b x' y' a' b').h p q = true := hII.trans (by simp [hA, hB'])
    have hH : hasB (hullR x y a b x' y' a' b').x (hullR x y a b x' y' a' b').y (hullR x y a b x' y' a' b').w (hullR x y a b x' y' a' b').h p q = true := hHH (by simp [hA, hB'])
    clear hII hHH
    go_enter Try.func7, Try.ntmps7
    go_wp2_with (go_at_call 21; refine (has_c _ _ _ _ _ _ _).mono ?_; rintro e w1 ⟨rfl, hb⟩; have hS : Rrp w.heap.size w x y a b x' y' a' b' p q w1 := rrp_next hb (by first | assumption | exact HS.out | exact rrp_drew (by assumption)); clear hb; obtain ⟨⟨c00, c01, c02, c03⟩, ⟨c10, c11, c12, c13⟩, ⟨c20, c21⟩, hB, hz⟩ := rrp_out hS)
    go_region_held3 (fun wx => (wx.cell? ⟨w.heap.size, 0, none⟩ = some (.int .i64 x) ∧ wx.cell? ⟨w.heap.size, 1, none⟩ = some (.int .i64 y) ∧ wx.cell? ⟨w.heap.size, 2, none⟩ = some (.int .i64 a) ∧ wx.cell? ⟨w.heap.size, 3, none⟩ = some (.int .i64 b)) ∧ (wx.cell? ⟨w.heap.size + 1, 0, none⟩ = some (.int .i64 x') ∧ wx.cell? ⟨w.heap.size + 1, 1, none⟩ = some (.int .i64 y') ∧ wx.cell? ⟨w.heap.size + 1, 2, none⟩ = some (.int .i64 a') ∧ wx.cell? ⟨w.heap.size + 1, 3, none⟩ = some (.int .i64 b')) ∧ (wx.cell? ⟨w.heap.size + 1 + 1, 0, none⟩ = some (.int .i64 p) ∧ wx.cell? ⟨w.heap.size + 1 + 1, 1, none⟩ = some (.int .i64 q)) ∧ Below w.heap.size w wx ∧ w.heap.size + 1 + 1 < wx.heap.size)
      ((show Rrp w.heap.size w x y a b x' y' a' b' p q _; first | (with_reducible exact rrp_drew hS) | (refine rrp_next hb ?_; assumption) | assumption))
      (first | (go_at_call 25; refine (inter_c _ _ _ _ _ _ _ _ _).mono ?_; rintro e w1 ⟨rfl, hb⟩) | (go_at_call 21; refine (has_c _ _ _ _ _ _ _).mono ?_; rintro e w1 ⟨rfl, hb⟩) | (go_at_call 27; refine (hull_c _ _ _ _ _ _ _ _ _).mono ?_; rintro e w1 ⟨rfl, hb⟩) | (go_at_call 14; refine (awake_c _).mono ?_; rintro e w1 ⟨rfl, hb⟩; have hT : Rrp w.heap.size w x y a b x' y' a' b' p q w1 := rrp_next hb (by assumption)))
    go_wp2
    go_ret
    exact ⟨rfl, (rrp_out hT).2.2.2.1⟩
end Go.Proofs.Ytkciaedhocackaa
