import Derived.Test.YtkciaedhocackaaLawA
import Derived.Test.YtkciaedhocackaaPlainC
namespace Go.Proofs.Ytkciaedhocackaa
open Go.RowKit
attribute [local go_sem ↓] eql_rect neq_rect
theorem rcEq_same (a b c d : Int) : rcEq a b c d a b c d = true := by rw [rcEq_iff]; exact ⟨rfl, rfl, rfl, rfl⟩
attribute [local go_sem] rcEq_same
/-- Two rectangles in blocks n, n + 1, and a third one in block m. -/
def Rrk (n m : Nat) (w0 : World) (x y a b x' y' a' b' kx ky kw kh : Int) (w : World) : Prop :=
  (w.cell? ⟨n, 0, none⟩ = some (.int .i64 x) ∧ w.cell? ⟨n, 1, none⟩ = some (.int .i64 y) ∧ w.cell? ⟨n, 2, none⟩ = some (.int .i64 a) ∧ w.cell? ⟨n, 3, none⟩ = some (.int .i64 b)) ∧ (w.cell? ⟨n + 1, 0, none⟩ = some (.int .i64 x') ∧ w.cell? ⟨n + 1, 1, none⟩ = some (.int .i64 y') ∧ w.cell? ⟨n + 1, 2, none⟩ = some (.int .i64 a') ∧ w.cell? ⟨n + 1, 3, none⟩ = some (.int .i64 b')) ∧ (w.cell? ⟨m, 0, none⟩ = some (.int .i64 kx) ∧ w.cell? ⟨m, 1, none⟩ = some (.int .i64 ky) ∧ w.cell? ⟨m, 2, none⟩ = some (.int .i64 kw) ∧ w.cell? ⟨m, 3, none⟩ = some (.int .i64 kh)) ∧ Below n w0 w ∧ n + 1 < w.heap.size ∧ m < w.heap.size
section
variable {n m : Nat} {w0 : World} {x y a b x' y' a' b' kx ky kw kh : Int} {w w1 : World}
theorem rrk_out (h : Rrk n m w0 x y a b x' y' a' b' kx ky kw kh w) : (w.cell? ⟨n, 0, none⟩ = some (.int .i64 x) ∧ w.cell? ⟨n, 1, none⟩ = some (.int .i64 y) ∧ w.cell? ⟨n, 2, none⟩ = some (.int .i64 a) ∧ w.cell? ⟨n, 3, none⟩ = some (.int .i64 b)) ∧ (w.cell? ⟨n + 1, 0, none⟩ = some (.int .i64 x') ∧ w.cell? ⟨n + 1, 1, none⟩ = some (.int .i64 y') ∧ w.cell? ⟨n + 1, 2, none⟩ = some (.int .i64 a') ∧ w.cell? ⟨n + 1, 3, none⟩ = some (.int .i64 b')) ∧ (w.cell? ⟨m, 0, none⟩ = some (.int .i64 kx) ∧ w.cell? ⟨m, 1, none⟩ = some (.int .i64 ky) ∧ w.cell? ⟨m, 2, none⟩ = some (.int .i64 kw) ∧ w.cell? ⟨m, 3, none⟩ = some (.int .i64 kh)) ∧ Below n w0 w ∧ n + 1 < w.heap.size ∧ m < w.heap.size := h
theorem rrk_drew (h : Rrk n m w0 x y a b x' y' a' b' kx ky kw kh w) : Rrk n m w0 x y a b x' y' a' b' kx ky kw kh w.drew := by
  obtain ⟨h0, h1, h2, hB, hz, hy⟩ := h
  exact ⟨h0, h1, h2, hB.drew, hz, hy⟩
theorem rrk_next (hb : Below w.heap.size w w1) (h : Rrk n m w0 x y a b x' y' a' b' kx ky kw kh w) : Rrk n m w0 x y a b x' y' a' b' kx ky kw kh w1 := by
  obtain ⟨⟨c00, c01, c02, c03⟩, ⟨c10, c11, c12, c13⟩, ⟨c20, c21, c22, c23⟩, hB, hz, hy⟩ := h
  obtain ⟨hc, _⟩ := bcell hb
  have hs := hb.size
  exact ⟨⟨(hc _ _ (by omega)).trans c00, (hc _ _ (by omega)).trans c01, (hc _ _ (by omega)).trans c02, (hc _ _ (by omega)).trans c03⟩, ⟨(hc _ _ (by omega)).trans c10, (hc _ _ (by omega)).trans c11, (hc _ _ (by omega)).trans c12, (hc _ _ (by omega)).trans c13⟩, ⟨(hc _ _ (by omega)).trans c20, (hc _ _ (by omega)).trans c21, (hc _ _ (by omega)).trans c22, (hc _ _ (by omega)).trans c23⟩, hB.trans (hb.mono (by omega)), by omega, by omega⟩
theorem rrk_start (h : Bi n w0 x y a b x' y' a' b' w) (kx ky kw kh : Int) (t : TypeId) : Rrk n w.heap.size w0 x y a b x' y' a' b' kx ky kw kh (w.alloc (.cells #[.int .i64 kx, .int .i64 ky, .int .i64 kw, .int .i64 kh] t)) := by
  obtain ⟨⟨c00, c01, c02, c03⟩, ⟨c10, c11, c12, c13⟩, hB, hz⟩ := h
  have e (b o : Nat) (h : b < w.heap.size) (u : Obj) : (w.alloc u).cell? ⟨b, o, none⟩ = w.cell? ⟨b, o, none⟩ := ((Below.refl w.heap.size w).alloc (Nat.le_refl _) u).cell (p := ⟨b, o, none⟩) h
  refine ⟨⟨(e _ _ (by omega) _).trans c00, (e _ _ (by omega) _).trans c01, (e _ _ (by omega) _).trans c02, (e _ _ (by omega) _).trans c03⟩, ⟨(e _ _ (by omega) _).trans c10, (e _ _ (by omega) _).trans c11, (e _ _ (by omega) _).trans c12, (e _ _ (by omega) _).trans c13⟩, ⟨?_, ?_, ?_, ?_⟩, hB.alloc (by omega) _, by simp; omega, by simp⟩
  all_goals (simp [go_sem])
end
theorem keep_k {x y a b x' y' a' b' kx ky kw kh : Int} (hK : keepR x y a b x' y' a' b' = ⟨kx, ky, kw, kh⟩) (w : World) :
    Calls Try.prog 35 #[.agg #[.int .i64 x, .int .i64 y, .int .i64 a, .int .i64 b], .agg #[.int .i64 x', .int .i64 y', .int .i64 a', .int .i64 b']] w fun e w' => e = .returned (.agg #[.int .i64 kx, .int .i64 ky, .int .i64 kw, .int .i64 kh]) ∧ Below w.heap.size w w' := by
  have h := keep_c x y a b x' y' a' b' w
  rw [hK] at h
  exact h
set_option maxHeartbeats 8000000 in
theorem kept_w1 (x y a b x' y' a' b' kx ky kw kh : Int) (w : World) (hK : keepR x y a b x' y' a' b' = ⟨kx, ky, kw, kh⟩) (h1 : emptyB x y a b = true) : Calls Try.prog 9 #[.agg #[.int .i64 x, .int .i64 y, .int .i64 a, .int .i64 b], .agg #[.int .i64 x', .int .i64 y', .int .i64 a', .int .i64 b']] w fun e w' => e = .returned (.bool true) ∧ Below w.heap.size w w' := by
  have HS := Lib.hid (bi_start w x y a b x' y' a' b' 27 27)
  have HK := Lib.hid hK
  clear hK
  go_enter Try.func9, Try.ntmps9
  go_wp2_with (first | (go_at_call 35; refine (keep_k HK.out _).mono ?_; rintro e wk ⟨rfl, hb⟩; have hBi := bi_next hb HS.out; clear hb; obtain ⟨⟨b00, b01, b02, b03⟩, ⟨b10, b11, b12, b13⟩, bB, bz⟩ := bi_out hBi; have bz0 : w.heap.size < wk.heap.size := by omega) | (go_at_call 17; refine (empty_c _ _ _ _ _).mono ?_; rintro e w1 ⟨rfl, hb⟩; have hS : Rrk w.heap.size wk.heap.size w x y a b x' y' a' b' kx ky kw kh w1 := rrk_next hb (by first | assumption | exact rrk_start hBi _ _ _ _ _ | exact rrk_drew (by assumption)); clear hb; obtain ⟨⟨c00, c01, c02, c03⟩, ⟨c10, c11, c12, c13⟩, ⟨c20, c21, c22, c23⟩, hB, hz, hy⟩ := rrk_out hS) | (go_at_call 14; refine (awake_c _).mono ?_; rintro e w1 ⟨rfl, hb⟩; have hS : Rrk w.heap.size wk.heap.size w x y a b x' y' a' b' kx ky kw kh w1 := rrk_next hb (by first | assumption | exact rrk_start hBi _ _ _ _ _ | exact rrk_drew (by assumption)); clear hb; obtain ⟨⟨c00, c01, c02, c03⟩, ⟨c10, c11, c12, c13⟩, ⟨c20, c21, c22, c23⟩, hB, hz, hy⟩ := rrk_out hS))
  go_ret
  exact ⟨rfl, by repeat' (first | (with_reducible exact Below.refl _ _) | (with_reducible assumption) | (with_reducible refine Below.alloc ?_ ?_ _) | (with_reducible refine Below.drew ?_) | (with_reducible refine Below.setCell ?_ ?_ _) | (with_reducible refine Below.then1 (by with_reducible assumption) ?_) | go_size)⟩
set_option maxHeartbeats 8000000 in
theorem kept_w2 (x y a b x' y' a' b' kx ky kw kh : Int) (w : World) (hK : keepR x y a b x' y' a' b' = ⟨kx, ky, kw, kh⟩) (h1 : emptyB x y a b = false) (h2 : emptyB x' y' a' b' = true) : Calls Try.prog 9 #[.agg #[.int .i64 x, .int .i64 y, .int .i64 a, .int .i64 b], .agg #[.int .i64 x', .int .i64 y', .int .i64 a', .int .i64 b']] w fun e w' => e = .returned (.bool true) ∧ Below w.heap.size w w' := by
  have HS := Lib.hid (bi_start w x y a b x' y' a' b' 27 27)
  have HK := Lib.hid hK
  clear hK
  go_enter Try.func9, Try.ntmps9
  go_wp2_with (first | (go_at_call 35; refine (keep_k HK.out _).mono ?_; rintro e wk ⟨rfl, hb⟩; have hBi := bi_next hb HS.out; clear hb; obtain ⟨⟨b00, b01, b02, b03⟩, ⟨b10, b11, b12, b13⟩, bB, bz⟩ := bi_out hBi; have bz0 : w.heap.size < wk.heap.size := by omega) | (go_at_call 17; refine (empty_c _ _ _ _ _).mono ?_; rintro e w1 ⟨rfl, hb⟩; have hS : Rrk w.heap.size wk.heap.size w x y a b x' y' a' b' kx ky kw kh w1 := rrk_next hb (by first | assumption | exact rrk_start hBi _ _ _ _ _ | exact rrk_drew (by assumption)); clear hb; obtain ⟨⟨c00, c01, c02, c03⟩, ⟨c10, c11, c12, c13⟩, ⟨c20, c21, c22, c23⟩, hB, hz, hy⟩ := rrk_out hS) | (go_at_call 14; refine (awake_c _).mono ?_; rintro e w1 ⟨rfl, hb⟩; have hS : Rrk w.heap.size wk.heap.size w x y a b x' y' a' b' kx ky kw kh w1 := rrk_next hb (by first | assumption | exact rrk_start hBi _ _ _ _ _ | exact rrk_drew (by assumption)); clear hb; obtain ⟨⟨c00, c01, c02, c03⟩, ⟨c10, c11, c12, c13⟩, ⟨c20, c21, c22, c23⟩, hB, hz, hy⟩ := rrk_out hS))
  go_ret
  exact ⟨rfl, by repeat' (first | (with_reducible exact Below.refl _ _) | (with_reducible assumption) | (with_reducible refine Below.alloc ?_ ?_ _) | (with_reducible refine Below.drew ?_) | (with_reducible refine Below.setCell ?_ ?_ _) | (with_reducible refine Below.then1 (by with_reducible assumption) ?_) | go_size)⟩
set_option maxHeartbeats 8000000 in
theorem kept_w3 (x y a b x' y' a' b' : Int) (w : World) (hK : keepR x y a b x' y' a' b' = ⟨x, y, a, b⟩) (hQ : keepR x y a b x' y' a' b' = ⟨x, y, a, b⟩) (h1 : emptyB x y a b = false) (h2 : emptyB x' y' a' b' = false) (hI : insideB x y a b x' y' a' b' = true) (hF : a ≤ a' ∧ b ≤ b') : Calls Try.prog 9 #[.agg #[.int .i64 x, .int .i64 y, .int .i64 a, .int .i64 b], .agg #[.int .i64 x', .int .i64 y', .int .i64 a', .int .i64 b']] w fun e w' => e = .returned (.bool true) ∧ Below w.heap.size w w' := by
  have HS := Lib.hid (bi_start w x y a b x' y' a' b' 27 27)
  have HK := Lib.hid hK
  clear hK
  have HQ := Lib.hid hQ
  clear hQ
  obtain ⟨f1, f2⟩ := hF
  go_enter Try.func9, Try.ntmps9
  go_wp2_with (first | (go_at_call 35; refine (keep_k HK.out _).mono ?_; rintro e wk ⟨rfl, hb⟩; have hBi := bi_next hb HS.out; clear hb; obtain ⟨⟨b00, b01, b02, b03⟩, ⟨b10, b11, b12, b13⟩, bB, bz⟩ := bi_out hBi; have bz0 : w.heap.size < wk.heap.size := by omega) | (go_at_call 17; refine (empty_c _ _ _ _ _).mono ?_; rintro e w1 ⟨rfl, hb⟩; have hS : Rrk w.heap.size wk.heap.size w x y a b x' y' a' b' x y a b w1 := rrk_next hb (by first | assumption | exact rrk_start hBi _ _ _ _ _ | exact rrk_drew (by assumption)); clear hb; obtain ⟨⟨c00, c01, c02, c03⟩, ⟨c10, c11, c12, c13⟩, ⟨c20, c21, c22, c23⟩, hB, hz, hy⟩ := rrk_out hS) | (go_at_call 14; refine (awake_c _).mono ?_; rintro e w1 ⟨rfl, hb⟩; have hS : Rrk w.heap.size wk.heap.size w x y a b x' y' a' b' x y a b w1 := rrk_next hb (by first | assumption | exact rrk_start hBi _ _ _ _ _ | exact rrk_drew (by assumption)); clear hb; obtain ⟨⟨c00, c01, c02, c03⟩, ⟨c10, c11, c12, c13⟩, ⟨c20, c21, c22, c23⟩, hB, hz, hy⟩ := rrk_out hS))
  refine wp_region_noPanic ?_
  refine wp_region_held_drew (S := fun wx => (wx.cell? ⟨w.heap.size, 0, none⟩ = some (.int .i64 x) ∧ wx.cell? ⟨w.heap.size, 1, none⟩ = some (.int .i64 y) ∧ wx.cell? ⟨w.heap.size, 2, none⟩ = some (.int .i64 a) ∧ wx.cell? ⟨w.heap.size, 3, none⟩ = some (.int .i64 b)) ∧ (wx.cell? ⟨w.heap.size + 1, 0, none⟩ = some (.int .i64 x') ∧ wx.cell? ⟨w.heap.size + 1, 1, none⟩ = some (.int .i64 y') ∧ wx.cell? ⟨w.heap.size + 1, 2, none⟩ = some (.int .i64 a') ∧ wx.cell? ⟨w.heap.size + 1, 3, none⟩ = some (.int .i64 b')) ∧ (wx.cell? ⟨wk.heap.size, 0, none⟩ = some (.int .i64 x) ∧ wx.cell? ⟨wk.heap.size, 1, none⟩ = some (.int .i64 y) ∧ wx.cell? ⟨wk.heap.size, 2, none⟩ = some (.int .i64 a) ∧ wx.cell? ⟨wk.heap.size, 3, none⟩ = some (.int .i64 b)) ∧ Below w.heap.size w wx ∧ w.heap.size + 1 < wx.heap.size ∧ wk.heap.size < wx.heap.size) (by kernel_rfl) (by (show Rrk w.heap.size wk.heap.size w x y a b x' y' a' b' x y a b _; first | (with_reducible exact rrk_drew hS) | (refine rrk_next hb ?_; assumption) | assumption)) (fun hHeld => ?_)
  refine wpAnyH_take (i := 0) (v := ?v0) rfl (by kernel_rfl) (by kernel_rfl) (by kernel_rfl) (fun _ _ _ h => h) (Or.inl ⟨by kernel_rfl, ?y0⟩) (by assumption) ?r0
  case y0 => (intro wq hSw; (try dsimp only at hSw); go_simp; (try with_reducible rfl))
  (try simp only [Act.put, List.getElem_toArray, List.getElem_cons_zero, List.setIfInBounds_toArray, List.set_cons_zero, List.set_cons_succ])
  refine wpAnyH_take (i := 1) (v := ?v1) rfl (by kernel_rfl) (by kernel_rfl) (by kernel_rfl) (fun _ _ _ h => h) (Or.inl ⟨by kernel_rfl, ?y1⟩) (by assumption) ?r1
  case y1 => (intro wq hSw; (try dsimp only at hSw); go_simp; (try with_reducible rfl))
  (try simp only [Act.put, List.getElem_toArray, List.getElem_cons_succ, List.getElem_cons_zero, List.setIfInBounds_toArray, List.set_cons_zero, List.set_cons_succ])
  refine wpAnyH_take (i := 2) (v := ?v2) rfl (by kernel_rfl) (by kernel_rfl) (by kernel_rfl) (fun _ _ _ h => h) (Or.inl ⟨by kernel_rfl, ?y2⟩) (by assumption) ?r2
  case y2 => (intro wq hSw; (try dsimp only at hSw); go_simp; (try with_reducible rfl))
  (try simp only [Act.put, List.getElem_toArray, List.getElem_cons_succ, List.getElem_cons_zero, List.setIfInBounds_toArray, List.set_cons_zero, List.set_cons_succ])
  refine wpAnyH_take (i := 3) (v := ?v3) rfl (by kernel_rfl) (by kernel_rfl) (by kernel_rfl) (fun _ _ _ h => h) (Or.inl ⟨by kernel_rfl, ?y3⟩) (by assumption) ?r3
  case y3 => (intro wq hSw; (try dsimp only at hSw); go_simp; (try with_reducible rfl))
  (try simp only [Act.put, List.getElem_toArray, List.getElem_cons_succ, List.getElem_cons_zero, List.setIfInBounds_toArray, List.set_cons_zero, List.set_cons_succ])
  refine wpAnyH_take (i := 4) (v := ?v4) rfl (by kernel_rfl) (by kernel_rfl) (by kernel_rfl) (fun _ _ _ h => h) (Or.inl ⟨by kernel_rfl, ?y4⟩) (by assumption) ?r4
  case y4 => (intro wq hSw; (try dsimp only at hSw); go_simp; (try with_reducible rfl))
  (try simp only [Act.put, List.getElem_toArray, List.getElem_cons_succ, List.getElem_cons_zero, List.setIfInBounds_toArray, List.set_cons_zero, List.set_cons_succ])
  refine wpAnyH_take (i := 5) (v := ?v5) rfl (by kernel_rfl) (by kernel_rfl) (by kernel_rfl) (fun _ _ _ h => h) (Or.inl ⟨by kernel_rfl, ?y5⟩) (by assumption) ?r5
  case y5 => (intro wq hSw; (try dsimp only at hSw); go_simp; (try with_reducible rfl))
  (try simp only [Act.put, List.getElem_toArray, List.getElem_cons_succ, List.getElem_cons_zero, List.setIfInBounds_toArray, List.set_cons_zero, List.set_cons_succ])
  refine wpAnyH_take (i := 6) (v := ?v6) rfl (by kernel_rfl) (by kernel_rfl) (by kernel_rfl) (fun _ _ _ h => h) (Or.inl ⟨by kernel_rfl, ?y6⟩) (by assumption) ?r6
  case y6 => (intro wq hSw; (try dsimp only at hSw); go_simp; (try with_reducible rfl))
  (try simp only [Act.put, List.getElem_toArray, List.getElem_cons_succ, List.getElem_cons_zero, List.setIfInBounds_toArray, List.set_cons_zero, List.set_cons_succ])
  refine wpAnyH_take (i := 7) (v := ?v7) rfl (by kernel_rfl) (by kernel_rfl) (by kernel_rfl) (fun _ _ _ h => h) (Or.inl ⟨by kernel_rfl, ?y7⟩) (by assumption) ?r7
  case y7 => (intro wq hSw; (try dsimp only at hSw); go_simp; (try with_reducible rfl))
  (try simp only [Act.put, List.getElem_toArray, List.getElem_cons_succ, List.getElem_cons_zero, List.setIfInBounds_toArray, List.set_cons_zero, List.set_cons_succ])
  refine wpAnyH_take (i := 8) (v := ?v8) rfl (by kernel_rfl) (by kernel_rfl) (by kernel_rfl) (fun _ _ _ h => h) (Or.inl ⟨by kernel_rfl, ?y8⟩) (by assumption) ?r8
  case y8 => (intro wq hSw; (try dsimp only at hSw); go_simp; (try with_reducible rfl))
  (try simp only [Act.put, List.getElem_toArray, List.getElem_cons_succ, List.getElem_cons_zero, List.setIfInBounds_toArray, List.set_cons_zero, List.set_cons_succ])
  refine wpAnyH_take (i := 9) (v := ?v9) rfl (by kernel_rfl) (by kernel_rfl) (by kernel_rfl) (fun _ _ _ h => h) (Or.inl ⟨by kernel_rfl, ?y9⟩) (by assumption) ?r9
  case y9 => (intro wq hSw; (try dsimp only at hSw); go_simp; (try with_reducible rfl))
  (try simp only [Act.put, List.getElem_toArray, List.getElem_cons_succ, List.getElem_cons_zero, List.setIfInBounds_toArray, List.set_cons_zero, List.set_cons_succ])
  refine wpAnyH_take (i := 10) (v := ?v10) rfl (by kernel_rfl) (by kernel_rfl) (by kernel_rfl) (fun _ _ _ h => h) (Or.inl ⟨by kernel_rfl, ?y10⟩) (by assumption) ?r10
  case y10 => (intro wq hSw; (try dsimp only at hSw); go_simp; (try with_reducible rfl))
  (try simp only [Act.put, List.getElem_toArray, List.getElem_cons_succ, List.getElem_cons_zero, List.setIfInBounds_toArray, List.set_cons_zero, List.set_cons_succ])
  refine wpAnyH_take (i := 11) (v := ?v11) rfl (by kernel_rfl) (by kernel_rfl) (by kernel_rfl) (fun _ _ _ h => h) (Or.inl ⟨by kernel_rfl, ?y11⟩) (by assumption) ?r11
  case y11 => (intro wq hSw; (try dsimp only at hSw); go_simp; (try with_reducible rfl))
  (try simp only [Act.put, List.getElem_toArray, List.getElem_cons_succ, List.getElem_cons_zero, List.setIfInBounds_toArray, List.set_cons_zero, List.set_cons_succ])
  refine wpAnyH_take (i := 12) (v := ?v12) rfl (by kernel_rfl) (by kernel_rfl) (by kernel_rfl) (fun _ _ _ h => h) (Or.inl ⟨by kernel_rfl, ?y12⟩) (by assumption) ?r12
  case y12 => (intro wq hSw; (try dsimp only at hSw); go_simp; (try with_reducible rfl))
  (try simp only [Act.put, List.getElem_toArray, List.getElem_cons_succ, List.getElem_cons_zero, List.setIfInBounds_toArray, List.set_cons_zero, List.set_cons_succ])
  refine wpAnyH_take (i := 13) (v := ?v13) rfl (by kernel_rfl) (by kernel_rfl) (by kernel_rfl) (fun _ _ _ h => h) (Or.inl ⟨by kernel_rfl, ?y13⟩) (by assumption) ?r13
  case y13 => (intro wq hSw; (try dsimp only at hSw); go_simp; (try with_reducible rfl))
  (try simp only [Act.put, List.getElem_toArray, List.getElem_cons_succ, List.getElem_cons_zero, List.setIfInBounds_toArray, List.set_cons_zero, List.set_cons_succ])
  refine wpAnyH_take (i := 14) (v := ?v14) rfl (by kernel_rfl) (by kernel_rfl) (by kernel_rfl) (fun _ _ _ h => h) (Or.inl ⟨by kernel_rfl, ?y14⟩) (by assumption) ?r14
  case y14 => (intro wq hSw; (try dsimp only at hSw); go_simp; (try with_reducible rfl))
  (try simp only [Act.put, List.getElem_toArray, List.getElem_cons_succ, List.getElem_cons_zero, List.setIfInBounds_toArray, List.set_cons_zero, List.set_cons_succ])
  refine wpAnyH_take (i := 16) (v := ?v16) rfl (by kernel_rfl) (by kernel_rfl) (by kernel_rfl) (fun _ _ _ h => h) (Or.inl ⟨by kernel_rfl, ?y16⟩) (by assumption) ?r16
  case y16 => (intro wq hSw; (try dsimp only at hSw); go_simp; (try with_reducible rfl))
  (try simp only [Act.put, List.getElem_toArray, List.getElem_cons_succ, List.getElem_cons_zero, List.setIfInBounds_toArray, List.set_cons_zero, List.set_cons_succ])
  refine wpAnyH_ready (rs := [15]) (by kernel_rfl) (by simp) ?_
  refine AllReadyH.cons rfl (fun K hK => ?_) AllReadyH.nil
  go_simp
  refine (keep_k HQ.out _).mono ?_
  rintro e w1 ⟨rfl, hb⟩
  (try dsimp only)
  refine hK.out _ _ (by (show Rrk w.heap.size wk.heap.size w x y a b x' y' a' b' x y a b _; first | (with_reducible exact rrk_drew hS) | (refine rrk_next hb ?_; assumption) | assumption)) (fun hHeld => ?_)
  clear hK K
  (try simp only [Act.put, List.getElem_toArray, List.getElem_cons_succ, List.getElem_cons_zero, List.setIfInBounds_toArray, List.set_cons_zero, List.set_cons_succ])
  refine wpAnyH_take (i := 17) (v := ?v17) rfl (by kernel_rfl) (by kernel_rfl) (by kernel_rfl) (fun _ _ _ h => h) (Or.inl ⟨by kernel_rfl, ?y17⟩) (by assumption) ?r17
  case y17 => (intro wq hSw; (try dsimp only at hSw); go_simp; (try with_reducible rfl))
  (try simp only [Act.put, List.getElem_toArray, List.getElem_cons_succ, List.getElem_cons_zero, List.setIfInBounds_toArray, List.set_cons_zero, List.set_cons_succ])
  refine wpAnyH_take (i := 18) (v := ?v18) rfl (by kernel_rfl) (by kernel_rfl) (by kernel_rfl) (fun _ _ _ h => h) (Or.inl ⟨by kernel_rfl, ?y18⟩) (by assumption) ?r18
  case y18 => (intro wq hSw; (try dsimp only at hSw); go_simp; (try with_reducible rfl))
  (try simp only [Act.put, List.getElem_toArray, List.getElem_cons_succ, List.getElem_cons_zero, List.setIfInBounds_toArray, List.set_cons_zero, List.set_cons_succ])
  refine wpAnyH_take (i := 19) (v := ?v19) rfl (by kernel_rfl) (by kernel_rfl) (by kernel_rfl) (fun _ _ _ h => h) (Or.inl ⟨by kernel_rfl, ?y19⟩) (by assumption) ?r19
  case y19 => (intro wq hSw; (try dsimp only at hSw); go_simp; (try with_reducible rfl))
  (try simp only [Act.put, List.getElem_toArray, List.getElem_cons_succ, List.getElem_cons_zero, List.setIfInBounds_toArray, List.set_cons_zero, List.set_cons_succ])
  refine wpAnyH_take (i := 20) (v := ?v20) rfl (by kernel_rfl) (by kernel_rfl) (by kernel_rfl) (fun _ _ _ h => h) (Or.inl ⟨by kernel_rfl, ?y20⟩) (by assumption) ?r20
  case y20 => (intro wq hSw; (try dsimp only at hSw); go_simp; (try with_reducible rfl))
  (try simp only [Act.put, List.getElem_toArray, List.getElem_cons_succ, List.getElem_cons_zero, List.setIfInBounds_toArray, List.set_cons_zero, List.set_cons_succ])
  refine wpAnyH_take (i := 21) (v := ?v21) rfl (by kernel_rfl) (by kernel_rfl) (by kernel_rfl) (fun _ _ _ h => h) (Or.inl ⟨by kernel_rfl, ?y21⟩) (by assumption) ?r21
  case y21 => (intro wq hSw; (try dsimp only at hSw); go_simp; (try with_reducible rfl))
  (try simp only [Act.put, List.getElem_toArray, List.getElem_cons_succ, List.getElem_cons_zero, List.setIfInBounds_toArray, List.set_cons_zero, List.set_cons_succ])
  refine wpAnyH_ready (rs := [22]) (by kernel_rfl) (by simp) ?_
  refine AllReadyH.cons rfl (fun K hK => ?_) AllReadyH.nil
  go_simp
  refine (inside_c _ _ _ _ _ _ _ _ _).mono ?_
  rintro e w1 ⟨rfl, hb⟩; have hT : Rrk w.heap.size wk.heap.size w x y a b x' y' a' b' x y a b w1 := rrk_next hb (by assumption)
  (try dsimp only)
  refine hK.out _ _ (by (show Rrk w.heap.size wk.heap.size w x y a b x' y' a' b' x y a b _; first | (with_reducible exact rrk_drew hS) | (refine rrk_next hb ?_; assumption) | assumption)) (fun hHeld => ?_)
  clear hK K
  (try simp only [Act.put, List.getElem_toArray, List.getElem_cons_succ, List.getElem_cons_zero, List.setIfInBounds_toArray, List.set_cons_zero, List.set_cons_succ])
  refine wpAnyH_take (i := 23) (v := ?v23) rfl (by kernel_rfl) (by kernel_rfl) (by kernel_rfl) (fun _ _ _ h => h) (Or.inl ⟨by kernel_rfl, ?y23⟩) (by assumption) ?r23
  case y23 => (intro wq hSw; (try dsimp only at hSw); go_simp; (try with_reducible rfl))
  (try simp only [Act.put, List.getElem_toArray, List.getElem_cons_succ, List.getElem_cons_zero, List.setIfInBounds_toArray, List.set_cons_zero, List.set_cons_succ])
  refine wpAnyH_take (i := 24) (v := ?v24) rfl (by kernel_rfl) (by kernel_rfl) (by kernel_rfl) (fun _ _ _ h => h) (Or.inl ⟨by kernel_rfl, ?y24⟩) (by assumption) ?r24
  case y24 => (intro wq hSw; (try dsimp only at hSw); go_simp; (try with_reducible rfl))
  (try simp only [Act.put, List.getElem_toArray, List.getElem_cons_succ, List.getElem_cons_zero, List.setIfInBounds_toArray, List.set_cons_zero, List.set_cons_succ])
  refine wpAnyH_take (i := 25) (v := ?v25) rfl (by kernel_rfl) (by kernel_rfl) (by kernel_rfl) (fun _ _ _ h => h) (Or.inl ⟨by kernel_rfl, ?y25⟩) (by assumption) ?r25
  case y25 => (intro wq hSw; (try dsimp only at hSw); go_simp; (try with_reducible rfl))
  (try simp only [Act.put, List.getElem_toArray, List.getElem_cons_succ, List.getElem_cons_zero, List.setIfInBounds_toArray, List.set_cons_zero, List.set_cons_succ])
  refine wpAnyH_take (i := 26) (v := ?v26) rfl (by kernel_rfl) (by kernel_rfl) (by kernel_rfl) (fun _ _ _ h => h) (Or.inl ⟨by kernel_rfl, ?y26⟩) (by assumption) ?r26
  case y26 => (intro wq hSw; (try dsimp only at hSw); go_simp; (try with_reducible rfl))
  (try simp only [Act.put, List.getElem_toArray, List.getElem_cons_succ, List.getElem_cons_zero, List.setIfInBounds_toArray, List.set_cons_zero, List.set_cons_succ])
  refine wpAnyH_take (i := 27) (v := ?v27) rfl (by kernel_rfl) (by kernel_rfl) (by kernel_rfl) (fun _ _ _ h => h) (Or.inl ⟨by kernel_rfl, ?y27⟩) (by assumption) ?r27
  case y27 => (intro wq hSw; (try dsimp only at hSw); go_simp; (try with_reducible rfl))
  (try simp only [Act.put, List.getElem_toArray, List.getElem_cons_succ, List.getElem_cons_zero, List.setIfInBounds_toArray, List.set_cons_zero, List.set_cons_succ])
  refine wpAnyH_take (i := 28) (v := ?v28) rfl (by kernel_rfl) (by kernel_rfl) (by kernel_rfl) (fun _ _ _ h => h) (Or.inl ⟨by kernel_rfl, ?y28⟩) (by assumption) ?r28
  case y28 => (intro wq hSw; (try dsimp only at hSw); go_simp; (try with_reducible rfl))
  (try simp only [Act.put, List.getElem_toArray, List.getElem_cons_succ, List.getElem_cons_zero, List.setIfInBounds_toArray, List.set_cons_zero, List.set_cons_succ])
  refine wpAnyH_done (by kernel_rfl) ?_ _
  refine NoPanic.normal ?_
  clear hS
  have hS := hT
  obtain ⟨⟨c00, c01, c02, c03⟩, ⟨c10, c11, c12, c13⟩, ⟨c20, c21, c22, c23⟩, hB, hz, hy⟩ := rrk_out hT
  go_wp2_with (first | (go_at_call 29; refine (inside_c _ _ _ _ _ _ _ _ _).mono ?_; rintro e w1 ⟨rfl, hb⟩; have hS : Rrk w.heap.size wk.heap.size w x y a b x' y' a' b' x y a b w1 := rrk_next hb (by first | assumption | exact rrk_start hBi _ _ _ _ _ | exact rrk_drew (by assumption)); clear hb; obtain ⟨⟨c00, c01, c02, c03⟩, ⟨c10, c11, c12, c13⟩, ⟨c20, c21, c22, c23⟩, hB, hz, hy⟩ := rrk_out hS) | (go_at_call 14; refine (awake_c _).mono ?_; rintro e w1 ⟨rfl, hb⟩; have hS : Rrk w.heap.size wk.heap.size w x y a b x' y' a' b' x y a b w1 := rrk_next hb (by first | assumption | exact rrk_start hBi _ _ _ _ _ | exact rrk_drew (by assumption)); clear hb; obtain ⟨⟨c00, c01, c02, c03⟩, ⟨c10, c11, c12, c13⟩, ⟨c20, c21, c22, c23⟩, hB, hz, hy⟩ := rrk_out hS))
  go_ret
  exact ⟨rfl, by repeat' (first | (with_reducible exact Below.refl _ _) | (with_reducible assumption) | (with_reducible refine Below.alloc ?_ ?_ _) | (with_reducible refine Below.drew ?_) | (with_reducible refine Below.setCell ?_ ?_ _) | (with_reducible refine Below.then1 (by with_reducible assumption) ?_) | go_size)⟩
set_option maxHeartbeats 8000000 in
theorem kept_w4 (x y a b x' y' a' b' kx ky : Int) (w : World) (hK : keepR x y a b x' y' a' b' = ⟨kx, ky, a, b⟩) (hQ : keepR kx ky a b x' y' a' b' = ⟨kx, ky, a, b⟩) (h1 : emptyB x y a b = false) (h2 : emptyB x' y' a' b' = false) (hI : insideB x y a b x' y' a' b' = false) (hJ : insideB kx ky a b x' y' a' b' = true) (hF : a ≤ a' ∧ b ≤ b') : Calls Try.prog 9 #[.agg #[.int .i64 x, .int .i64 y, .int .i64 a, .int .i64 b], .agg #[.int .i64 x', .int .i64 y', .int .i64 a', .int .i64 b']] w fun e w' => e = .returned (.bool true) ∧ Below w.heap.size w w' := by
  have HS := Lib.hid (bi_start w x y a b x' y' a' b' 27 27)
  have HK := Lib.hid hK
  clear hK
  have HQ := Lib.hid hQ
  clear hQ
  obtain ⟨f1, f2⟩ := hF
  go_enter Try.func9, Try.ntmps9
  go_wp2_with (first | (go_at_call 35; refine (keep_k HK.out _).mono ?_; rintro e wk ⟨rfl, hb⟩; have hBi := bi_next hb HS.out; clear hb; obtain ⟨⟨b00, b01, b02, b03⟩, ⟨b10, b11, b12, b13⟩, bB, bz⟩ := bi_out hBi; have bz0 : w.heap.size < wk.heap.size := by omega) | (go_at_call 17; refine (empty_c _ _ _ _ _).mono ?_; rintro e w1 ⟨rfl, hb⟩; have hS : Rrk w.heap.size wk.heap.size w x y a b x' y' a' b' kx ky a b w1 := rrk_next hb (by first | assumption | exact rrk_start hBi _ _ _ _ _ | exact rrk_drew (by assumption)); clear hb; obtain ⟨⟨c00, c01, c02, c03⟩, ⟨c10, c11, c12, c13⟩, ⟨c20, c21, c22, c23⟩, hB, hz, hy⟩ := rrk_out hS) | (go_at_call 14; refine (awake_c _).mono ?_; rintro e w1 ⟨rfl, hb⟩; have hS : Rrk w.heap.size wk.heap.size w x y a b x' y' a' b' kx ky a b w1 := rrk_next hb (by first | assumption | exact rrk_start hBi _ _ _ _ _ | exact rrk_drew (by assumption)); clear hb; obtain ⟨⟨c00, c01, c02, c03⟩, ⟨c10, c11, c12, c13⟩, ⟨c20, c21, c22, c23⟩, hB, hz, hy⟩ := rrk_out hS))
  refine wp_region_noPanic ?_
  refine wp_region_held_drew (S := fun wx => (wx.cell? ⟨w.heap.size, 0, none⟩ = some (.int .i64 x) ∧ wx.cell? ⟨w.heap.size, 1, none⟩ = some (.int .i64 y) ∧ wx.cell? ⟨w.heap.size, 2, none⟩ = some (.int .i64 a) ∧ wx.cell? ⟨w.heap.size, 3, none⟩ = some (.int .i64 b)) ∧ (wx.cell? ⟨w.heap.size + 1, 0, none⟩ = some (.int .i64 x') ∧ wx.cell? ⟨w.heap.size + 1, 1, none⟩ = some (.int .i64 y') ∧ wx.cell? ⟨w.heap.size + 1, 2, none⟩ = some (.int .i64 a') ∧ wx.cell? ⟨w.heap.size + 1, 3, none⟩ = some (.int .i64 b')) ∧ (wx.cell? ⟨wk.heap.size, 0, none⟩ = some (.int .i64 kx) ∧ wx.cell? ⟨wk.heap.size, 1, none⟩ = some (.int .i64 ky) ∧ wx.cell? ⟨wk.heap.size, 2, none⟩ = some (.int .i64 a) ∧ wx.cell? ⟨wk.heap.size, 3, none⟩ = some (.int .i64 b)) ∧ Below w.heap.size w wx ∧ w.heap.size + 1 < wx.heap.size ∧ wk.heap.size < wx.heap.size) (by kernel_rfl) (by (show Rrk w.heap.size wk.heap.size w x y a b x' y' a' b' kx ky a b _; first | (with_reducible exact rrk_drew hS) | (refine rrk_next hb ?_; assumption) | assumption)) (fun hHeld => ?_)
  refine wpAnyH_take (i := 0) (v := ?v0) rfl (by kernel_rfl) (by kernel_rfl) (by kernel_rfl) (fun _ _ _ h => h) (Or.inl ⟨by kernel_rfl, ?y0⟩) (by assumption) ?r0
  case y0 => (intro wq hSw; (try dsimp only at hSw); go_simp; (try with_reducible rfl))
  (try simp only [Act.put, List.getElem_toArray, List.getElem_cons_zero, List.setIfInBounds_toArray, List.set_cons_zero, List.set_cons_succ])
  refine wpAnyH_take (i := 1) (v := ?v1) rfl (by kernel_rfl) (by kernel_rfl) (by kernel_rfl) (fun _ _ _ h => h) (Or.inl ⟨by kernel_rfl, ?y1⟩) (by assumption) ?r1
  case y1 => (intro wq hSw; (try dsimp only at hSw); go_simp; (try with_reducible rfl))
  (try simp only [Act.put, List.getElem_toArray, List.getElem_cons_succ, List.getElem_cons_zero, List.setIfInBounds_toArray, List.set_cons_zero, List.set_cons_succ])
  refine wpAnyH_take (i := 2) (v := ?v2) rfl (by kernel_rfl) (by kernel_rfl) (by kernel_rfl) (fun _ _ _ h => h) (Or.inl ⟨by kernel_rfl, ?y2⟩) (by assumption) ?r2
  case y2 => (intro wq hSw; (try dsimp only at hSw); go_simp; (try with_reducible rfl))
  (try simp only [Act.put, List.getElem_toArray, List.getElem_cons_succ, List.getElem_cons_zero, List.setIfInBounds_toArray, List.set_cons_zero, List.set_cons_succ])
  refine wpAnyH_take (i := 3) (v := ?v3) rfl (by kernel_rfl) (by kernel_rfl) (by kernel_rfl) (fun _ _ _ h => h) (Or.inl ⟨by kernel_rfl, ?y3⟩) (by assumption) ?r3
  case y3 => (intro wq hSw; (try dsimp only at hSw); go_simp; (try with_reducible rfl))
  (try simp only [Act.put, List.getElem_toArray, List.getElem_cons_succ, List.getElem_cons_zero, List.setIfInBounds_toArray, List.set_cons_zero, List.set_cons_succ])
  refine wpAnyH_take (i := 4) (v := ?v4) rfl (by kernel_rfl) (by kernel_rfl) (by kernel_rfl) (fun _ _ _ h => h) (Or.inl ⟨by kernel_rfl, ?y4⟩) (by assumption) ?r4
  case y4 => (intro wq hSw; (try dsimp only at hSw); go_simp; (try with_reducible rfl))
  (try simp only [Act.put, List.getElem_toArray, List.getElem_cons_succ, List.getElem_cons_zero, List.setIfInBounds_toArray, List.set_cons_zero, List.set_cons_succ])
  refine wpAnyH_take (i := 5) (v := ?v5) rfl (by kernel_rfl) (by kernel_rfl) (by kernel_rfl) (fun _ _ _ h => h) (Or.inl ⟨by kernel_rfl, ?y5⟩) (by assumption) ?r5
  case y5 => (intro wq hSw; (try dsimp only at hSw); go_simp; (try with_reducible rfl))
  (try simp only [Act.put, List.getElem_toArray, List.getElem_cons_succ, List.getElem_cons_zero, List.setIfInBounds_toArray, List.set_cons_zero, List.set_cons_succ])
  refine wpAnyH_take (i := 6) (v := ?v6) rfl (by kernel_rfl) (by kernel_rfl) (by kernel_rfl) (fun _ _ _ h => h) (Or.inl ⟨by kernel_rfl, ?y6⟩) (by assumption) ?r6
  case y6 => (intro wq hSw; (try dsimp only at hSw); go_simp; (try with_reducible rfl))
  (try simp only [Act.put, List.getElem_toArray, List.getElem_cons_succ, List.getElem_cons_zero, List.setIfInBounds_toArray, List.set_cons_zero, List.set_cons_succ])
  refine wpAnyH_take (i := 7) (v := ?v7) rfl (by kernel_rfl) (by kernel_rfl) (by kernel_rfl) (fun _ _ _ h => h) (Or.inl ⟨by kernel_rfl, ?y7⟩) (by assumption) ?r7
  case y7 => (intro wq hSw; (try dsimp only at hSw); go_simp; (try with_reducible rfl))
  (try simp only [Act.put, List.getElem_toArray, List.getElem_cons_succ, List.getElem_cons_zero, List.setIfInBounds_toArray, List.set_cons_zero, List.set_cons_succ])
  refine wpAnyH_take (i := 8) (v := ?v8) rfl (by kernel_rfl) (by kernel_rfl) (by kernel_rfl) (fun _ _ _ h => h) (Or.inl ⟨by kernel_rfl, ?y8⟩) (by assumption) ?r8
  case y8 => (intro wq hSw; (try dsimp only at hSw); go_simp; (try with_reducible rfl))
  (try simp only [Act.put, List.getElem_toArray, List.getElem_cons_succ, List.getElem_cons_zero, List.setIfInBounds_toArray, List.set_cons_zero, List.set_cons_succ])
  refine wpAnyH_take (i := 9) (v := ?v9) rfl (by kernel_rfl) (by kernel_rfl) (by kernel_rfl) (fun _ _ _ h => h) (Or.inl ⟨by kernel_rfl, ?y9⟩) (by assumption) ?r9
  case y9 => (intro wq hSw; (try dsimp only at hSw); go_simp; (try with_reducible rfl))
  (try simp only [Act.put, List.getElem_toArray, List.getElem_cons_succ, List.getElem_cons_zero, List.setIfInBounds_toArray, List.set_cons_zero, List.set_cons_succ])
  refine wpAnyH_take (i := 10) (v := ?v10) rfl (by kernel_rfl) (by kernel_rfl) (by kernel_rfl) (fun _ _ _ h => h) (Or.inl ⟨by kernel_rfl, ?y10⟩) (by assumption) ?r10
  case y10 => (intro wq hSw; (try dsimp only at hSw); go_simp; (try with_reducible rfl))
  (try simp only [Act.put, List.getElem_toArray, List.getElem_cons_succ, List.getElem_cons_zero, List.setIfInBounds_toArray, List.set_cons_zero, List.set_cons_succ])
  refine wpAnyH_take (i := 11) (v := ?v11) rfl (by kernel_rfl) (by kernel_rfl) (by kernel_rfl) (fun _ _ _ h => h) (Or.inl ⟨by kernel_rfl, ?y11⟩) (by assumption) ?r11
  case y11 => (intro wq hSw; (try dsimp only at hSw); go_simp; (try with_reducible rfl))
  (try simp only [Act.put, List.getElem_toArray, List.getElem_cons_succ, List.getElem_cons_zero, List.setIfInBounds_toArray, List.set_cons_zero, List.set_cons_succ])
  refine wpAnyH_take (i := 12) (v := ?v12) rfl (by kernel_rfl) (by kernel_rfl) (by kernel_rfl) (fun _ _ _ h => h) (Or.inl ⟨by kernel_rfl, ?y12⟩) (by assumption) ?r12
  case y12 => (intro wq hSw; (try dsimp only at hSw); go_simp; (try with_reducible rfl))
  (try simp only [Act.put, List.getElem_toArray, List.getElem_cons_succ, List.getElem_cons_zero, List.setIfInBounds_toArray, List.set_cons_zero, List.set_cons_succ])
  refine wpAnyH_take (i := 13) (v := ?v13) rfl (by kernel_rfl) (by kernel_rfl) (by kernel_rfl) (fun _ _ _ h => h) (Or.inl ⟨by kernel_rfl, ?y13⟩) (by assumption) ?r13
  case y13 => (intro wq hSw; (try dsimp only at hSw); go_simp; (try with_reducible rfl))
  (try simp only [Act.put, List.getElem_toArray, List.getElem_cons_succ, List.getElem_cons_zero, List.setIfInBounds_toArray, List.set_cons_zero, List.set_cons_succ])
  refine wpAnyH_take (i := 14) (v := ?v14) rfl (by kernel_rfl) (by kernel_rfl) (by kernel_rfl) (fun _ _ _ h => h) (Or.inl ⟨by kernel_rfl, ?y14⟩) (by assumption) ?r14
  case y14 => (intro wq hSw; (try dsimp only at hSw); go_simp; (try with_reducible rfl))
  (try simp only [Act.put, List.getElem_toArray, List.getElem_cons_succ, List.getElem_cons_zero, List.setIfInBounds_toArray, List.set_cons_zero, List.set_cons_succ])
  refine wpAnyH_take (i := 16) (v := ?v16) rfl (by kernel_rfl) (by kernel_rfl) (by kernel_rfl) (fun _ _ _ h => h) (Or.inl ⟨by kernel_rfl, ?y16⟩) (by assumption) ?r16
  case y16 => (intro wq hSw; (try dsimp only at hSw); go_simp; (try with_reducible rfl))
  (try simp only [Act.put, List.getElem_toArray, List.getElem_cons_succ, List.getElem_cons_zero, List.setIfInBounds_toArray, List.set_cons_zero, List.set_cons_succ])
  refine wpAnyH_ready (rs := [15]) (by kernel_rfl) (by simp) ?_
  refine AllReadyH.cons rfl (fun K hK => ?_) AllReadyH.nil
  go_simp
  refine (keep_k HQ.out _).mono ?_
  rintro e w1 ⟨rfl, hb⟩
  (try dsimp only)
  refine hK.out _ _ (by (show Rrk w.heap.size wk.heap.size w x y a b x' y' a' b' kx ky a b _; first | (with_reducible exact rrk_drew hS) | (refine rrk_next hb ?_; assumption) | assumption)) (fun hHeld => ?_)
  clear hK K
  (try simp only [Act.put, List.getElem_toArray, List.getElem_cons_succ, List.getElem_cons_zero, List.setIfInBounds_toArray, List.set_cons_zero, List.set_cons_succ])
  refine wpAnyH_take (i := 17) (v := ?v17) rfl (by kernel_rfl) (by kernel_rfl) (by kernel_rfl) (fun _ _ _ h => h) (Or.inl ⟨by kernel_rfl, ?y17⟩) (by assumption) ?r17
  case y17 => (intro wq hSw; (try dsimp only at hSw); go_simp; (try with_reducible rfl))
  (try simp only [Act.put, List.getElem_toArray, List.getElem_cons_succ, List.getElem_cons_zero, List.setIfInBounds_toArray, List.set_cons_zero, List.set_cons_succ])
  refine wpAnyH_take (i := 18) (v := ?v18) rfl (by kernel_rfl) (by kernel_rfl) (by kernel_rfl) (fun _ _ _ h => h) (Or.inl ⟨by kernel_rfl, ?y18⟩) (by assumption) ?r18
  case y18 => (intro wq hSw; (try dsimp only at hSw); go_simp; (try with_reducible rfl))
  (try simp only [Act.put, List.getElem_toArray, List.getElem_cons_succ, List.getElem_cons_zero, List.setIfInBounds_toArray, List.set_cons_zero, List.set_cons_succ])
  refine wpAnyH_take (i := 19) (v := ?v19) rfl (by kernel_rfl) (by kernel_rfl) (by kernel_rfl) (fun _ _ _ h => h) (Or.inl ⟨by kernel_rfl, ?y19⟩) (by assumption) ?r19
  case y19 => (intro wq hSw; (try dsimp only at hSw); go_simp; (try with_reducible rfl))
  (try simp only [Act.put, List.getElem_toArray, List.getElem_cons_succ, List.getElem_cons_zero, List.setIfInBounds_toArray, List.set_cons_zero, List.set_cons_succ])
  refine wpAnyH_take (i := 20) (v := ?v20) rfl (by kernel_rfl) (by kernel_rfl) (by kernel_rfl) (fun _ _ _ h => h) (Or.inl ⟨by kernel_rfl, ?y20⟩) (by assumption) ?r20
  case y20 => (intro wq hSw; (try dsimp only at hSw); go_simp; (try with_reducible rfl))
  (try simp only [Act.put, List.getElem_toArray, List.getElem_cons_succ, List.getElem_cons_zero, List.setIfInBounds_toArray, List.set_cons_zero, List.set_cons_succ])
  refine wpAnyH_take (i := 21) (v := ?v21) rfl (by kernel_rfl) (by kernel_rfl) (by kernel_rfl) (fun _ _ _ h => h) (Or.inl ⟨by kernel_rfl, ?y21⟩) (by assumption) ?r21
  case y21 => (intro wq hSw; (try dsimp only at hSw); go_simp; (try with_reducible rfl))
  (try simp only [Act.put, List.getElem_toArray, List.getElem_cons_succ, List.getElem_cons_zero, List.setIfInBounds_toArray, List.set_cons_zero, List.set_cons_succ])
  refine wpAnyH_ready (rs := [22]) (by kernel_rfl) (by simp) ?_
  refine AllReadyH.cons rfl (fun K hK => ?_) AllReadyH.nil
  go_simp
  refine (inside_c _ _ _ _ _ _ _ _ _).mono ?_
  rintro e w1 ⟨rfl, hb⟩; have hT : Rrk w.heap.size wk.heap.size w x y a b x' y' a' b' kx ky a b w1 := rrk_next hb (by assumption)
  (try dsimp only)
  refine hK.out _ _ (by (show Rrk w.heap.size wk.heap.size w x y a b x' y' a' b' kx ky a b _; first | (with_reducible exact rrk_drew hS) | (refine rrk_next hb ?_; assumption) | assumption)) (fun hHeld => ?_)
  clear hK K
  (try simp only [Act.put, List.getElem_toArray, List.getElem_cons_succ, List.getElem_cons_zero, List.setIfInBounds_toArray, List.set_cons_zero, List.set_cons_succ])
  refine wpAnyH_take (i := 23) (v := ?v23) rfl (by kernel_rfl) (by kernel_rfl) (by kernel_rfl) (fun _ _ _ h => h) (Or.inl ⟨by kernel_rfl, ?y23⟩) (by assumption) ?r23
  case y23 => (intro wq hSw; (try dsimp only at hSw); go_simp; (try with_reducible rfl))
  (try simp only [Act.put, List.getElem_toArray, List.getElem_cons_succ, List.getElem_cons_zero, List.setIfInBounds_toArray, List.set_cons_zero, List.set_cons_succ])
  refine wpAnyH_take (i := 24) (v := undef) rfl (by kernel_rfl) (by kernel_rfl) (by kernel_rfl) (fun _ _ _ h => h) (Or.inr ⟨by kernel_rfl, rfl⟩) (by assumption) ?_
  (try simp only [Act.put, List.getElem_toArray, List.getElem_cons_succ, List.getElem_cons_zero, List.setIfInBounds_toArray, List.set_cons_zero, List.set_cons_succ])
  refine wpAnyH_take (i := 25) (v := undef) rfl (by kernel_rfl) (by kernel_rfl) (by kernel_rfl) (fun _ _ _ h => h) (Or.inr ⟨by kernel_rfl, rfl⟩) (by assumption) ?_
  (try simp only [Act.put, List.getElem_toArray, List.getElem_cons_succ, List.getElem_cons_zero, List.setIfInBounds_toArray, List.set_cons_zero, List.set_cons_succ])
  refine wpAnyH_take (i := 26) (v := undef) rfl (by kernel_rfl) (by kernel_rfl) (by kernel_rfl) (fun _ _ _ h => h) (Or.inr ⟨by kernel_rfl, rfl⟩) (by assumption) ?_
  (try simp only [Act.put, List.getElem_toArray, List.getElem_cons_succ, List.getElem_cons_zero, List.setIfInBounds_toArray, List.set_cons_zero, List.set_cons_succ])
  refine wpAnyH_take (i := 27) (v := ?v27) rfl (by kernel_rfl) (by kernel_rfl) (by kernel_rfl) (fun _ _ _ h => h) (Or.inl ⟨by kernel_rfl, ?y27⟩) (by assumption) ?r27
  case y27 => (intro wq hSw; (try dsimp only at hSw); go_simp; (try with_reducible rfl))
  (try simp only [Act.put, List.getElem_toArray, List.getElem_cons_succ, List.getElem_cons_zero, List.setIfInBounds_toArray, List.set_cons_zero, List.set_cons_succ])
  refine wpAnyH_take (i := 28) (v := ?v28) rfl (by kernel_rfl) (by kernel_rfl) (by kernel_rfl) (fun _ _ _ h => h) (Or.inl ⟨by kernel_rfl, ?y28⟩) (by assumption) ?r28
  case y28 => (intro wq hSw; (try dsimp only at hSw); go_simp; (try with_reducible rfl))
  (try simp only [Act.put, List.getElem_toArray, List.getElem_cons_succ, List.getElem_cons_zero, List.setIfInBounds_toArray, List.set_cons_zero, List.set_cons_succ])
  refine wpAnyH_done (by kernel_rfl) ?_ _
  refine NoPanic.normal ?_
  clear hS
  have hS := hT
  obtain ⟨⟨c00, c01, c02, c03⟩, ⟨c10, c11, c12, c13⟩, ⟨c20, c21, c22, c23⟩, hB, hz, hy⟩ := rrk_out hT
  go_wp2_with (first | (go_at_call 29; refine (inside_c _ _ _ _ _ _ _ _ _).mono ?_; rintro e w1 ⟨rfl, hb⟩; have hS : Rrk w.heap.size wk.heap.size w x y a b x' y' a' b' kx ky a b w1 := rrk_next hb (by first | assumption | exact rrk_start hBi _ _ _ _ _ | exact rrk_drew (by assumption)); clear hb; obtain ⟨⟨c00, c01, c02, c03⟩, ⟨c10, c11, c12, c13⟩, ⟨c20, c21, c22, c23⟩, hB, hz, hy⟩ := rrk_out hS) | (go_at_call 14; refine (awake_c _).mono ?_; rintro e w1 ⟨rfl, hb⟩; have hS : Rrk w.heap.size wk.heap.size w x y a b x' y' a' b' kx ky a b w1 := rrk_next hb (by first | assumption | exact rrk_start hBi _ _ _ _ _ | exact rrk_drew (by assumption)); clear hb; obtain ⟨⟨c00, c01, c02, c03⟩, ⟨c10, c11, c12, c13⟩, ⟨c20, c21, c22, c23⟩, hB, hz, hy⟩ := rrk_out hS))
  go_ret
  exact ⟨rfl, by repeat' (first | (with_reducible exact Below.refl _ _) | (with_reducible assumption) | (with_reducible refine Below.alloc ?_ ?_ _) | (with_reducible refine Below.drew ?_) | (with_reducible refine Below.setCell ?_ ?_ _) | (with_reducible refine Below.then1 (by with_reducible assumption) ?_) | go_size)⟩
set_option maxHeartbeats 8000000 in
theorem kept_w5 (x y a b x' y' a' b' kx ky : Int) (w : World) (hK : keepR x y a b x' y' a' b' = ⟨kx, ky, a, b⟩) (hQ : keepR kx ky a b x' y' a' b' = ⟨kx, ky, a, b⟩) (h1 : emptyB x y a b = false) (h2 : emptyB x' y' a' b' = false) (hI : insideB x y a b x' y' a' b' = false) (hF : ¬ (a ≤ a' ∧ b ≤ b')) : Calls Try.prog 9 #[.agg #[.int .i64 x, .int .i64 y, .int .i64 a, .int .i64 b], .agg #[.int .i64 x', .int .i64 y', .int .i64 a', .int .i64 b']] w fun e w' => e = .returned (.bool true) ∧ Below w.heap.size w w' := by
  have HS := Lib.hid (bi_start w x y a b x' y' a' b' 27 27)
  have HK := Lib.hid hK
  clear hK
  have HQ := Lib.hid hQ
  clear hQ
  have HF := Lib.hid hF
  clear hF
  go_enter Try.func9, Try.ntmps9
  go_wp2_with (first | (go_at_call 35; refine (keep_k HK.out _).mono ?_; rintro e wk ⟨rfl, hb⟩; have hBi := bi_next hb HS.out; clear hb; obtain ⟨⟨b00, b01, b02, b03⟩, ⟨b10, b11, b12, b13⟩, bB, bz⟩ := bi_out hBi; have bz0 : w.heap.size < wk.heap.size := by omega) | (go_at_call 17; refine (empty_c _ _ _ _ _).mono ?_; rintro e w1 ⟨rfl, hb⟩; have hS : Rrk w.heap.size wk.heap.size w x y a b x' y' a' b' kx ky a b w1 := rrk_next hb (by first | assumption | exact rrk_start hBi _ _ _ _ _ | exact rrk_drew (by assumption)); clear hb; obtain ⟨⟨c00, c01, c02, c03⟩, ⟨c10, c11, c12, c13⟩, ⟨c20, c21, c22, c23⟩, hB, hz, hy⟩ := rrk_out hS) | (go_at_call 14; refine (awake_c _).mono ?_; rintro e w1 ⟨rfl, hb⟩; have hS : Rrk w.heap.size wk.heap.size w x y a b x' y' a' b' kx ky a b w1 := rrk_next hb (by first | assumption | exact rrk_start hBi _ _ _ _ _ | exact rrk_drew (by assumption)); clear hb; obtain ⟨⟨c00, c01, c02, c03⟩, ⟨c10, c11, c12, c13⟩, ⟨c20, c21, c22, c23⟩, hB, hz, hy⟩ := rrk_out hS))
  refine wp_region_noPanic ?_
  refine wp_region_held_drew (S := fun wx => (wx.cell? ⟨w.heap.size, 0, none⟩ = some (.int .i64 x) ∧ wx.cell? ⟨w.heap.size, 1, none⟩ = some (.int .i64 y) ∧ wx.cell? ⟨w.heap.size, 2, none⟩ = some (.int .i64 a) ∧ wx.cell? ⟨w.heap.size, 3, none⟩ = some (.int .i64 b)) ∧ (wx.cell? ⟨w.heap.size + 1, 0, none⟩ = some (.int .i64 x') ∧ wx.cell? ⟨w.heap.size + 1, 1, none⟩ = some (.int .i64 y') ∧ wx.cell? ⟨w.heap.size + 1, 2, none⟩ = some (.int .i64 a') ∧ wx.cell? ⟨w.heap.size + 1, 3, none⟩ = some (.int .i64 b')) ∧ (wx.cell? ⟨wk.heap.size, 0, none⟩ = some (.int .i64 kx) ∧ wx.cell? ⟨wk.heap.size, 1, none⟩ = some (.int .i64 ky) ∧ wx.cell? ⟨wk.heap.size, 2, none⟩ = some (.int .i64 a) ∧ wx.cell? ⟨wk.heap.size, 3, none⟩ = some (.int .i64 b)) ∧ Below w.heap.size w wx ∧ w.heap.size + 1 < wx.heap.size ∧ wk.heap.size < wx.heap.size) (by kernel_rfl) (by (show Rrk w.heap.size wk.heap.size w x y a b x' y' a' b' kx ky a b _; first | (with_reducible exact rrk_drew hS) | (refine rrk_next hb ?_; assumption) | assumption)) (fun hHeld => ?_)
  refine wpAnyH_take (i := 0) (v := ?v0) rfl (by kernel_rfl) (by kernel_rfl) (by kernel_rfl) (fun _ _ _ h => h) (Or.inl ⟨by kernel_rfl, ?y0⟩) (by assumption) ?r0
  case y0 => (intro wq hSw; (try dsimp only at hSw); go_simp; (try with_reducible rfl))
  (try simp only [Act.put, List.getElem_toArray, List.getElem_cons_zero, List.setIfInBounds_toArray, List.set_cons_zero, List.set_cons_succ])
  refine wpAnyH_take (i := 1) (v := ?v1) rfl (by kernel_rfl) (by kernel_rfl) (by kernel_rfl) (fun _ _ _ h => h) (Or.inl ⟨by kernel_rfl, ?y1⟩) (by assumption) ?r1
  case y1 => (intro wq hSw; (try dsimp only at hSw); go_simp; (try with_reducible rfl))
  (try simp only [Act.put, List.getElem_toArray, List.getElem_cons_succ, List.getElem_cons_zero, List.setIfInBounds_toArray, List.set_cons_zero, List.set_cons_succ])
  refine wpAnyH_take (i := 2) (v := ?v2) rfl (by kernel_rfl) (by kernel_rfl) (by kernel_rfl) (fun _ _ _ h => h) (Or.inl ⟨by kernel_rfl, ?y2⟩) (by assumption) ?r2
  case y2 => (intro wq hSw; (try dsimp only at hSw); go_simp; (try with_reducible rfl))
  (try simp only [Act.put, List.getElem_toArray, List.getElem_cons_succ, List.getElem_cons_zero, List.setIfInBounds_toArray, List.set_cons_zero, List.set_cons_succ])
  refine wpAnyH_take (i := 3) (v := ?v3) rfl (by kernel_rfl) (by kernel_rfl) (by kernel_rfl) (fun _ _ _ h => h) (Or.inl ⟨by kernel_rfl, ?y3⟩) (by assumption) ?r3
  case y3 => (intro wq hSw; (try dsimp only at hSw); go_simp; (try with_reducible rfl))
  (try simp only [Act.put, List.getElem_toArray, List.getElem_cons_succ, List.getElem_cons_zero, List.setIfInBounds_toArray, List.set_cons_zero, List.set_cons_succ])
  refine wpAnyH_take (i := 4) (v := ?v4) rfl (by kernel_rfl) (by kernel_rfl) (by kernel_rfl) (fun _ _ _ h => h) (Or.inl ⟨by kernel_rfl, ?y4⟩) (by assumption) ?r4
  case y4 => (intro wq hSw; (try dsimp only at hSw); go_simp; (try with_reducible rfl))
  (try simp only [Act.put, List.getElem_toArray, List.getElem_cons_succ, List.getElem_cons_zero, List.setIfInBounds_toArray, List.set_cons_zero, List.set_cons_succ])
  refine wpAnyH_take (i := 5) (v := ?v5) rfl (by kernel_rfl) (by kernel_rfl) (by kernel_rfl) (fun _ _ _ h => h) (Or.inl ⟨by kernel_rfl, ?y5⟩) (by assumption) ?r5
  case y5 => (intro wq hSw; (try dsimp only at hSw); go_simp; (try with_reducible rfl))
  (try simp only [Act.put, List.getElem_toArray, List.getElem_cons_succ, List.getElem_cons_zero, List.setIfInBounds_toArray, List.set_cons_zero, List.set_cons_succ])
  refine wpAnyH_take (i := 6) (v := ?v6) rfl (by kernel_rfl) (by kernel_rfl) (by kernel_rfl) (fun _ _ _ h => h) (Or.inl ⟨by kernel_rfl, ?y6⟩) (by assumption) ?r6
  case y6 => (intro wq hSw; (try dsimp only at hSw); go_simp; (try with_reducible rfl))
  (try simp only [Act.put, List.getElem_toArray, List.getElem_cons_succ, List.getElem_cons_zero, List.setIfInBounds_toArray, List.set_cons_zero, List.set_cons_succ])
  refine wpAnyH_take (i := 7) (v := ?v7) rfl (by kernel_rfl) (by kernel_rfl) (by kernel_rfl) (fun _ _ _ h => h) (Or.inl ⟨by kernel_rfl, ?y7⟩) (by assumption) ?r7
  case y7 => (intro wq hSw; (try dsimp only at hSw); go_simp; (try with_reducible rfl))
  (try simp only [Act.put, List.getElem_toArray, List.getElem_cons_succ, List.getElem_cons_zero, List.setIfInBounds_toArray, List.set_cons_zero, List.set_cons_succ])
  refine wpAnyH_take (i := 8) (v := ?v8) rfl (by kernel_rfl) (by kernel_rfl) (by kernel_rfl) (fun _ _ _ h => h) (Or.inl ⟨by kernel_rfl, ?y8⟩) (by assumption) ?r8
  case y8 => (intro wq hSw; (try dsimp only at hSw); go_simp; (try with_reducible rfl))
  (try simp only [Act.put, List.getElem_toArray, List.getElem_cons_succ, List.getElem_cons_zero, List.setIfInBounds_toArray, List.set_cons_zero, List.set_cons_succ])
  refine wpAnyH_take (i := 9) (v := ?v9) rfl (by kernel_rfl) (by kernel_rfl) (by kernel_rfl) (fun _ _ _ h => h) (Or.inl ⟨by kernel_rfl, ?y9⟩) (by assumption) ?r9
  case y9 => (intro wq hSw; (try dsimp only at hSw); go_simp; (try with_reducible rfl))
  (try simp only [Act.put, List.getElem_toArray, List.getElem_cons_succ, List.getElem_cons_zero, List.setIfInBounds_toArray, List.set_cons_zero, List.set_cons_succ])
  refine wpAnyH_take (i := 10) (v := ?v10) rfl (by kernel_rfl) (by kernel_rfl) (by kernel_rfl) (fun _ _ _ h => h) (Or.inl ⟨by kernel_rfl, ?y10⟩) (by assumption) ?r10
  case y10 => (intro wq hSw; (try dsimp only at hSw); go_simp; (try with_reducible rfl))
  (try simp only [Act.put, List.getElem_toArray, List.getElem_cons_succ, List.getElem_cons_zero, List.setIfInBounds_toArray, List.set_cons_zero, List.set_cons_succ])
  refine wpAnyH_take (i := 11) (v := ?v11) rfl (by kernel_rfl) (by kernel_rfl) (by kernel_rfl) (fun _ _ _ h => h) (Or.inl ⟨by kernel_rfl, ?y11⟩) (by assumption) ?r11
  case y11 => (intro wq hSw; (try dsimp only at hSw); go_simp; (try with_reducible rfl))
  (try simp only [Act.put, List.getElem_toArray, List.getElem_cons_succ, List.getElem_cons_zero, List.setIfInBounds_toArray, List.set_cons_zero, List.set_cons_succ])
  refine wpAnyH_take (i := 12) (v := ?v12) rfl (by kernel_rfl) (by kernel_rfl) (by kernel_rfl) (fun _ _ _ h => h) (Or.inl ⟨by kernel_rfl, ?y12⟩) (by assumption) ?r12
  case y12 => (intro wq hSw; (try dsimp only at hSw); go_simp; (try with_reducible rfl))
  (try simp only [Act.put, List.getElem_toArray, List.getElem_cons_succ, List.getElem_cons_zero, List.setIfInBounds_toArray, List.set_cons_zero, List.set_cons_succ])
  refine wpAnyH_take (i := 13) (v := ?v13) rfl (by kernel_rfl) (by kernel_rfl) (by kernel_rfl) (fun _ _ _ h => h) (Or.inl ⟨by kernel_rfl, ?y13⟩) (by assumption) ?r13
  case y13 => (intro wq hSw; (try dsimp only at hSw); go_simp; (try with_reducible rfl))
  (try simp only [Act.put, List.getElem_toArray, List.getElem_cons_succ, List.getElem_cons_zero, List.setIfInBounds_toArray, List.set_cons_zero, List.set_cons_succ])
  refine wpAnyH_take (i := 14) (v := ?v14) rfl (by kernel_rfl) (by kernel_rfl) (by kernel_rfl) (fun _ _ _ h => h) (Or.inl ⟨by kernel_rfl, ?y14⟩) (by assumption) ?r14
  case y14 => (intro wq hSw; (try dsimp only at hSw); go_simp; (try with_reducible rfl))
  (try simp only [Act.put, List.getElem_toArray, List.getElem_cons_succ, List.getElem_cons_zero, List.setIfInBounds_toArray, List.set_cons_zero, List.set_cons_succ])
  refine wpAnyH_take (i := 16) (v := ?v16) rfl (by kernel_rfl) (by kernel_rfl) (by kernel_rfl) (fun _ _ _ h => h) (Or.inl ⟨by kernel_rfl, ?y16⟩) (by assumption) ?r16
  case y16 => (intro wq hSw; (try dsimp only at hSw); go_simp; (try with_reducible rfl))
  (try simp only [Act.put, List.getElem_toArray, List.getElem_cons_succ, List.getElem_cons_zero, List.setIfInBounds_toArray, List.set_cons_zero, List.set_cons_succ])
  refine wpAnyH_ready (rs := [15]) (by kernel_rfl) (by simp) ?_
  refine AllReadyH.cons rfl (fun K hK => ?_) AllReadyH.nil
  go_simp
  refine (keep_k HQ.out _).mono ?_
  rintro e w1 ⟨rfl, hb⟩
  (try dsimp only)
  refine hK.out _ _ (by (show Rrk w.heap.size wk.heap.size w x y a b x' y' a' b' kx ky a b _; first | (with_reducible exact rrk_drew hS) | (refine rrk_next hb ?_; assumption) | assumption)) (fun hHeld => ?_)
  clear hK K
  (try simp only [Act.put, List.getElem_toArray, List.getElem_cons_succ, List.getElem_cons_zero, List.setIfInBounds_toArray, List.set_cons_zero, List.set_cons_succ])
  refine wpAnyH_take (i := 17) (v := ?v17) rfl (by kernel_rfl) (by kernel_rfl) (by kernel_rfl) (fun _ _ _ h => h) (Or.inl ⟨by kernel_rfl, ?y17⟩) (by assumption) ?r17
  case y17 => (intro wq hSw; (try dsimp only at hSw); go_simp; (try with_reducible rfl))
  (try simp only [Act.put, List.getElem_toArray, List.getElem_cons_succ, List.getElem_cons_zero, List.setIfInBounds_toArray, List.set_cons_zero, List.set_cons_succ])
  refine wpAnyH_take (i := 18) (v := ?v18) rfl (by kernel_rfl) (by kernel_rfl) (by kernel_rfl) (fun _ _ _ h => h) (Or.inl ⟨by kernel_rfl, ?y18⟩) (by assumption) ?r18
  case y18 => (intro wq hSw; (try dsimp only at hSw); go_simp; (try with_reducible rfl))
  (try simp only [Act.put, List.getElem_toArray, List.getElem_cons_succ, List.getElem_cons_zero, List.setIfInBounds_toArray, List.set_cons_zero, List.set_cons_succ])
  refine wpAnyH_take (i := 19) (v := ?v19) rfl (by kernel_rfl) (by kernel_rfl) (by kernel_rfl) (fun _ _ _ h => h) (Or.inl ⟨by kernel_rfl, ?y19⟩) (by assumption) ?r19
  case y19 => (intro wq hSw; (try dsimp only at hSw); go_simp; (try with_reducible rfl))
  (try simp only [Act.put, List.getElem_toArray, List.getElem_cons_succ, List.getElem_cons_zero, List.setIfInBounds_toArray, List.set_cons_zero, List.set_cons_succ])
  refine wpAnyH_take (i := 20) (v := ?v20) rfl (by kernel_rfl) (by kernel_rfl) (by kernel_rfl) (fun _ _ _ h => h) (Or.inl ⟨by kernel_rfl, ?y20⟩) (by assumption) ?r20
  case y20 => (intro wq hSw; (try dsimp only at hSw); go_simp; (try with_reducible rfl))
  (try simp only [Act.put, List.getElem_toArray, List.getElem_cons_succ, List.getElem_cons_zero, List.setIfInBounds_toArray, List.set_cons_zero, List.set_cons_succ])
  refine wpAnyH_take (i := 21) (v := ?v21) rfl (by kernel_rfl) (by kernel_rfl) (by kernel_rfl) (fun _ _ _ h => h) (Or.inl ⟨by kernel_rfl, ?y21⟩) (by assumption) ?r21
  case y21 => (intro wq hSw; (try dsimp only at hSw); go_simp; (try with_reducible rfl))
  (try simp only [Act.put, List.getElem_toArray, List.getElem_cons_succ, List.getElem_cons_zero, List.setIfInBounds_toArray, List.set_cons_zero, List.set_cons_succ])
  refine wpAnyH_ready (rs := [22]) (by kernel_rfl) (by simp) ?_
  refine AllReadyH.cons rfl (fun K hK => ?_) AllReadyH.nil
  go_simp
  refine (inside_c _ _ _ _ _ _ _ _ _).mono ?_
  rintro e w1 ⟨rfl, hb⟩; have hT : Rrk w.heap.size wk.heap.size w x y a b x' y' a' b' kx ky a b w1 := rrk_next hb (by assumption)
  (try dsimp only)
  refine hK.out _ _ (by (show Rrk w.heap.size wk.heap.size w x y a b x' y' a' b' kx ky a b _; first | (with_reducible exact rrk_drew hS) | (refine rrk_next hb ?_; assumption) | assumption)) (fun hHeld => ?_)
  clear hK K
  (try simp only [Act.put, List.getElem_toArray, List.getElem_cons_succ, List.getElem_cons_zero, List.setIfInBounds_toArray, List.set_cons_zero, List.set_cons_succ])
  refine wpAnyH_take (i := 23) (v := ?v23) rfl (by kernel_rfl) (by kernel_rfl) (by kernel_rfl) (fun _ _ _ h => h) (Or.inl ⟨by kernel_rfl, ?y23⟩) (by assumption) ?r23
  case y23 => (intro wq hSw; (try dsimp only at hSw); go_simp; (try with_reducible rfl))
  (try simp only [Act.put, List.getElem_toArray, List.getElem_cons_succ, List.getElem_cons_zero, List.setIfInBounds_toArray, List.set_cons_zero, List.set_cons_succ])
  refine wpAnyH_take (i := 24) (v := undef) rfl (by kernel_rfl) (by kernel_rfl) (by kernel_rfl) (fun _ _ _ h => h) (Or.inr ⟨by kernel_rfl, rfl⟩) (by assumption) ?_
  (try simp only [Act.put, List.getElem_toArray, List.getElem_cons_succ, List.getElem_cons_zero, List.setIfInBounds_toArray, List.set_cons_zero, List.set_cons_succ])
  refine wpAnyH_take (i := 25) (v := undef) rfl (by kernel_rfl) (by kernel_rfl) (by kernel_rfl) (fun _ _ _ h => h) (Or.inr ⟨by kernel_rfl, rfl⟩) (by assumption) ?_
  (try simp only [Act.put, List.getElem_toArray, List.getElem_cons_succ, List.getElem_cons_zero, List.setIfInBounds_toArray, List.set_cons_zero, List.set_cons_succ])
  refine wpAnyH_take (i := 26) (v := undef) rfl (by kernel_rfl) (by kernel_rfl) (by kernel_rfl) (fun _ _ _ h => h) (Or.inr ⟨by kernel_rfl, rfl⟩) (by assumption) ?_
  (try simp only [Act.put, List.getElem_toArray, List.getElem_cons_succ, List.getElem_cons_zero, List.setIfInBounds_toArray, List.set_cons_zero, List.set_cons_succ])
  refine wpAnyH_take (i := 27) (v := ?v27) rfl (by kernel_rfl) (by kernel_rfl) (by kernel_rfl) (fun _ _ _ h => h) (Or.inl ⟨by kernel_rfl, ?y27⟩) (by assumption) ?r27
  case y27 => (intro wq hSw; (try dsimp only at hSw); go_simp; (try with_reducible rfl))
  (try simp only [Act.put, List.getElem_toArray, List.getElem_cons_succ, List.getElem_cons_zero, List.setIfInBounds_toArray, List.set_cons_zero, List.set_cons_succ])
  refine wpAnyH_take (i := 28) (v := ?v28) rfl (by kernel_rfl) (by kernel_rfl) (by kernel_rfl) (fun _ _ _ h => h) (Or.inl ⟨by kernel_rfl, ?y28⟩) (by assumption) ?r28
  case y28 => (intro wq hSw; (try dsimp only at hSw); go_simp; (try with_reducible rfl))
  (try simp only [Act.put, List.getElem_toArray, List.getElem_cons_succ, List.getElem_cons_zero, List.setIfInBounds_toArray, List.set_cons_zero, List.set_cons_succ])
  refine wpAnyH_done (by kernel_rfl) ?_ _
  refine NoPanic.normal ?_
  clear hS
  have hS := hT
  obtain ⟨⟨c00, c01, c02, c03⟩, ⟨c10, c11, c12, c13⟩, ⟨c20, c21, c22, c23⟩, hB, hz, hy⟩ := rrk_out hT
  have hF := HF.out
  by_cases f1 : a ≤ a'
  · have f2 : b' < b := by omega
    clear hF
    go_wp2_with (first | (go_at_call 29; refine (inside_c _ _ _ _ _ _ _ _ _).mono ?_; rintro e w1 ⟨rfl, hb⟩; have hS : Rrk w.heap.size wk.heap.size w x y a b x' y' a' b' kx ky a b w1 := rrk_next hb (by first | assumption | exact rrk_start hBi _ _ _ _ _ | exact rrk_drew (by assumption)); clear hb; obtain ⟨⟨c00, c01, c02, c03⟩, ⟨c10, c11, c12, c13⟩, ⟨c20, c21, c22, c23⟩, hB, hz, hy⟩ := rrk_out hS) | (go_at_call 14; refine (awake_c _).mono ?_; rintro e w1 ⟨rfl, hb⟩; have hS : Rrk w.heap.size wk.heap.size w x y a b x' y' a' b' kx ky a b w1 := rrk_next hb (by first | assumption | exact rrk_start hBi _ _ _ _ _ | exact rrk_drew (by assumption)); clear hb; obtain ⟨⟨c00, c01, c02, c03⟩, ⟨c10, c11, c12, c13⟩, ⟨c20, c21, c22, c23⟩, hB, hz, hy⟩ := rrk_out hS))
    go_ret
    exact ⟨rfl, by repeat' (first | (with_reducible exact Below.refl _ _) | (with_reducible assumption) | (with_reducible refine Below.alloc ?_ ?_ _) | (with_reducible refine Below.drew ?_) | (with_reducible refine Below.setCell ?_ ?_ _) | (with_reducible refine Below.then1 (by with_reducible assumption) ?_) | go_size)⟩
  · have f3 : a' < a := by omega
    clear hF f1
    go_wp2_with (first | (go_at_call 29; refine (inside_c _ _ _ _ _ _ _ _ _).mono ?_; rintro e w1 ⟨rfl, hb⟩; have hS : Rrk w.heap.size wk.heap.size w x y a b x' y' a' b' kx ky a b w1 := rrk_next hb (by first | assumption | exact rrk_start hBi _ _ _ _ _ | exact rrk_drew (by assumption)); clear hb; obtain ⟨⟨c00, c01, c02, c03⟩, ⟨c10, c11, c12, c13⟩, ⟨c20, c21, c22, c23⟩, hB, hz, hy⟩ := rrk_out hS) | (go_at_call 14; refine (awake_c _).mono ?_; rintro e w1 ⟨rfl, hb⟩; have hS : Rrk w.heap.size wk.heap.size w x y a b x' y' a' b' kx ky a b w1 := rrk_next hb (by first | assumption | exact rrk_start hBi _ _ _ _ _ | exact rrk_drew (by assumption)); clear hb; obtain ⟨⟨c00, c01, c02, c03⟩, ⟨c10, c11, c12, c13⟩, ⟨c20, c21, c22, c23⟩, hB, hz, hy⟩ := rrk_out hS))
    go_ret
    exact ⟨rfl, by repeat' (first | (with_reducible exact Below.refl _ _) | (with_reducible assumption) | (with_reducible refine Below.alloc ?_ ?_ _) | (with_reducible refine Below.drew ?_) | (with_reducible refine Below.setCell ?_ ?_ _) | (with_reducible refine Below.then1 (by with_reducible assumption) ?_) | go_size)⟩
theorem kept_w (x y a b x' y' a' b' : Int) (w : World) : Calls Try.prog 9 #[.agg #[.int .i64 x, .int .i64 y, .int .i64 a, .int .i64 b], .agg #[.int .i64 x', .int .i64 y', .int .i64 a', .int .i64 b']] w fun e w' => e = .returned (.bool true) ∧ Below w.heap.size w w' := by
  cases h1 : emptyB x y a b
  · cases h2 : emptyB x' y' a' b'
    · obtain ⟨_, e1, e2, e3, e4, e5⟩ := kep_all (r := ⟨x, y, a, b⟩) (s := ⟨x', y', a', b'⟩) (emp_full h1) (emp_full h2)
      have hK : keepR x y a b x' y' a' b' = kep ⟨x, y, a, b⟩ ⟨x', y', a', b'⟩ := rfl
      cases hI : insideB x y a b x' y' a' b'
      · generalize kep ⟨x, y, a, b⟩ ⟨x', y', a', b'⟩ = k at *
        obtain ⟨kx, ky, kw, kh⟩ := k
        simp only at e1 e2
        subst e1 e2
        by_cases hF : kw ≤ a' ∧ kh ≤ b'
        · exact kept_w4 _ _ _ _ _ _ _ _ _ _ w hK e3 h1 h2 hI (e5 hF.1 hF.2) hF
        · exact kept_w5 _ _ _ _ _ _ _ _ _ _ w hK e3 h1 h2 hI hF
      · have hk := e4 hI
        rw [hk] at hK
        have hF : a ≤ a' ∧ b ≤ b' := by
          unfold insideB at hI
          rw [h1] at hI
          simp at hI
          omega
        exact kept_w3 _ _ _ _ _ _ _ _ w hK hK h1 h2 hI hF
    · exact kept_w2 _ _ _ _ _ _ _ _ _ _ _ _ w (hK := rfl) h1 h2
  · exact kept_w1 _ _ _ _ _ _ _ _ _ _ _ _ w (hK := rfl) h1
end Go.Proofs.Ytkciaedhocackaa
