import Derived.Test.YtedhgdjlcddchaaFoH
namespace Go.Proofs.Ytedhgdjlcddchaa
open Go.RowKit Go.Shelf
/-- Two canvases, and the place. -/
def Gst (w0 : World) (g1 b1 g2 b2 W H : Nat) (C : Rc) (p1 p2 : List Int) (n0 : Nat) (P : Array Value) (wx : World) : Prop :=
  Canv wx g1 (some b1) W H C p1 ∧ Canv wx g2 (some b2) W H C p2 ∧ Blk wx n0 32 P ∧ Below w0.heap.size w0 wx ∧ w0.heap.size ≤ b1 ∧ w0.heap.size ≤ b2 ∧ b1 ≠ b2
section
variable {w0 wx w1 : World} {g1 b1 g2 b2 W H : Nat} {C : Rc} {p1 p2 q : List Int} {n0 : Nat} {P : Array Value}
theorem Gst.next (h : Gst w0 g1 b1 g2 b2 W H C p1 p2 n0 P wx) (hb : Below wx.heap.size wx w1) : Gst w0 g1 b1 g2 b2 W H C p1 p2 n0 P w1 :=
  ⟨h.1.next hb, h.2.1.next hb, h.2.2.1.next hb, h.2.2.2.1.trans (hb.mono h.2.2.2.1.size), h.2.2.2.2⟩
theorem Gst.drew (h : Gst w0 g1 b1 g2 b2 W H C p1 p2 n0 P wx) : Gst w0 g1 b1 g2 b2 W H C p1 p2 n0 P wx.drew := ⟨h.1, h.2.1, h.2.2.1, h.2.2.2.1.drew, h.2.2.2.2⟩
theorem canv_far {g b g' b' : Nat} (h : Canv wx g (some b) W H C q) (h' : Canv wx g' (some b') W H C p1) (hg : wx.grownBy w1 (some b')) (hne : b ≠ b') : Canv w1 g (some b) W H C q :=
  ⟨h.1.grown hg (fun e => h.1.ne_ (h'.2.1 b' rfl) (by decide) (by injection e)), fun c hc => (h.2.1 c hc).grown hg (fun e => by injection hc with hc; injection e with e; omega), h.2.2⟩
theorem Gst.one (h : Gst w0 g1 b1 g2 b2 W H C p1 p2 n0 P wx) (hC : Canv w1 g1 (some b1) W H C q) (hg : wx.grownBy w1 (some b1)) : Gst w0 g1 b1 g2 b2 W H C q p2 n0 P w1 := by
  obtain ⟨h1, h2, h3, h4, h5, h6, h7⟩ := h
  exact ⟨hC, canv_far h2 h1 hg (Ne.symm h7), h3.grown hg (fun e => h3.ne_ (h1.2.1 b1 rfl) (by decide) (by injection e)), below_only h4 hg h4.size (fun g e => by injection e; omega), h5, h6, h7⟩
theorem Gst.two (h : Gst w0 g1 b1 g2 b2 W H C p1 p2 n0 P wx) (hC : Canv w1 g2 (some b2) W H C q) (hg : wx.grownBy w1 (some b2)) : Gst w0 g1 b1 g2 b2 W H C p1 q n0 P w1 := by
  obtain ⟨h1, h2, h3, h4, h5, h6, h7⟩ := h
  exact ⟨canv_far h1 h2 hg h7, hC, h3.grown hg (fun e => h3.ne_ (h2.2.1 b2 rfl) (by decide) (by injection e)), below_only h4 hg h4.size (fun g e => by injection e; omega), h5, h6, h7⟩
theorem Gst.to2 (h : Gst w0 g1 b1 g2 b2 W H C p1 p2 n0 P wx) (e : p2 = q) : Gst w0 g1 b1 g2 b2 W H C p1 q n0 P wx := e ▸ h
end
theorem one_sign {W : Nat} {c : Rc} {col x y : Int} {s : ByteArray} {p : List Int} {k : Nat} (hk : k < s.size) : textP W c col (x + 8 * k) y (s.extract k (k + 1)) p 1 = rowsP W c col (x + 8 * k) y (sgn s k) p 16 := by
  have e : sgn (s.extract k (k + 1)) 0 = sgn s k := by
    unfold sgn
    rw [dif_pos (by rw [ByteArray.size_extract]; omega), dif_pos hk, ByteArray.getElem_extract]
    simp
  unfold textP
  rw [e, show x + 8 * (k : Int) + 8 * ((0 : Nat) : Int) = x + 8 * k by omega]
  rfl
theorem ex_size {s : ByteArray} {k : Nat} (hk : k < s.size) : (s.extract k (k + 1)).size = 1 := by rw [ByteArray.size_extract]; omega
set_option maxRecDepth 100000 in
set_option maxHeartbeats 8000000 in
theorem signs_w (s : ByteArray) (px py col : Int) (w : World) (hs : s.size ≤ 140737488355328) (h3 : (Lit.int .u32 col).wf = true) :
    Calls Try.prog 13 #[.string s, .agg #[.int .i64 px, .int .i64 py], .int .u32 col] w fun e' w' => e' = .returned (.bool true) ∧ Below w.heap.size w w' := by
  have HCOL := Lib.hid (wf_u32 h3)
  clear h3
  have P0 := Blk.new w 32 #[.int .i64 px, .int .i64 py]
  have B0 : Below w.heap.size w (w.alloc (.cells #[.int .i64 px, .int .i64 py] 32)) := (Below.refl _ w).alloc (Nat.le_refl _) _
  have hcase : 12 < s.size ∨ (s.size ≤ 12 ∧ px < -100) ∨ (s.size ≤ 12 ∧ -100 ≤ px ∧ 100 < px) ∨ (s.size ≤ 12 ∧ -100 ≤ px ∧ px ≤ 100 ∧ py < -100) ∨ (s.size ≤ 12 ∧ -100 ≤ px ∧ px ≤ 100 ∧ -100 ≤ py ∧ 100 < py) ∨ (s.size ≤ 12 ∧ -100 ≤ px ∧ px ≤ 100 ∧ -100 ≤ py ∧ py ≤ 100) := by omega
  rcases hcase with h1 | ⟨h1, h2⟩ | ⟨h1, h2, h3⟩ | ⟨h1, h2, h3, h4⟩ | ⟨h1, h2, h3, h4, h5⟩ | ⟨h1, h2, h3, h4, h5⟩
  iterate 5
    · clear P0
      go_enter Try.func13, Try.ntmps13
      go_wp2_with (go_at_call 30; refine (awake_c _).mono ?_; rintro e3 w3 ⟨rfl, hb⟩)
      go_ret
      exact ⟨rfl, B0.trans (hb.mono B0.size)⟩
  go_enter Try.func13, Try.ntmps13
  go_wp2_with fail
  generalize w.alloc (.cells #[.int .i64 px, .int .i64 py] 32) = wa at P0 B0 ⊢
  refine (new_yes 40 20 5 _ (by omega) (by omega) (by omega)).mono ?_
  rintro e1 w1 ⟨g1, b1, rfl, hC1, hg1, hbg1, hb⟩
  have P1 := P0.next hb
  have B1 := B0.trans (hb.mono B0.size)
  have l1 := Nat.le_trans B0.size hbg1
  clear P0 B0 hb hg1 hbg1
  obtain ⟨C, hCe⟩ : ∃ C, C = int ⟨0, 0, ((40 : Nat) : Int), ((20 : Nat) : Int)⟩ ⟨0, 0, ((40 : Nat) : Int), ((20 : Nat) : Int)⟩ := ⟨_, rfl⟩
  rw [← hCe] at hC1
  have HCe := Lib.hid hCe
  clear hCe
  go_wp2_with fail
  refine (new_yes 40 20 5 _ (by omega) (by omega) (by omega)).mono ?_
  rintro e2 w2 ⟨g2, b2, rfl, hC2, hg2, hbg2, hb⟩
  rw [← HCe.out] at hC2
  have F2 : Gst w g1 b1 g2 b2 40 20 C (List.replicate (40 * 20) 5) (List.replicate (40 * 20) 5) w.heap.size #[.int .i64 px, .int .i64 py] w2 :=
    ⟨hC1.next hb, hC2, P1.next hb, B1.trans (hb.mono B1.size), l1, Nat.le_trans B1.size hbg2, by have := (hC1.2.1 b1 rfl).lt; omega⟩
  clear P1 B1 l1 hb hg2 hbg2 hC1 hC2
  obtain ⟨pix, hpix⟩ : ∃ pix, pix = List.replicate (40 * 20) (5 : Int) := ⟨_, rfl⟩
  rw [← hpix] at F2
  clear hpix HCe
  obtain ⟨⟨q0, q1⟩, _⟩ := F2.2.2.1.c2
  go_wp2_with fail
  have hpl : planeP px py = true := by unfold planeP; simp; omega
  refine (draw_c g1 (some b1) 40 20 C pix px py col s s.size _ F2.1 HCOL.out hs hpl ⟨Nat.le_refl _, by omega, fun i hi => by omega, .inl rfl⟩).mono ?_
  rintro e3 w3 ⟨rfl, hC, hg⟩
  have F3 := F2.one hC hg
  clear F2 hC hg hpl q0 q1
  go_wp2_with fail
  have h1' : (s.size : Int) ≤ 12 := by omega
  go_loopw [11] (fun z wr => ∃ k : Nat, k ≤ s.size ∧ z = .int .i64 k ∧ Gst w g1 b1 g2 b2 40 20 C (textP 40 C col px py s pix s.size) (textP 40 C col px py s pix k) w.heap.size #[.int .i64 px, .int .i64 py] wr) (fun z _ => s.size - (intOf z).toNat)
  case atStart => exact ⟨0, Nat.zero_le _, rfl, F3⟩
  case round =>
    obtain ⟨k, hk, rfl, F4⟩ := hrel
    clear F3
    by_cases hlt : k < s.size
    · have HX := Lib.hid (show rowsP 40 C col (px + 8 * k) py (sgn s k) (textP 40 C col px py s pix k) 16 = textP 40 C col px py s pix (k + 1) from rfl)
      have HO := Lib.hid (one_sign (W := 40) (c := C) (col := col) (x := px) (y := py) (s := s) (p := textP 40 C col px py s pix k) (k := k) hlt)
      have hes := Lib.hid (ex_size hlt)
      generalize textP 40 C col px py s pix k = pk at F4 HX HO
      have i1 : (0 : Int) ≤ (k : Int) := by omega
      have i2 : (k : Int) + 1 ≤ (s.size : Int) := by omega
      have i3 : (k : Int) ≤ (k : Int) + 1 := by omega
      have i4 : planeP (px + 8 * k) py = true := by unfold planeP; simp; omega
      have HI4 := Lib.hid i4
      clear i4
      go_wp2_with fail
      have W1 : IntKind.i64.wrap ((k : Int) + 1) = (k : Int) + 1 := IntWalk.i64_in _ (by omega)
      have W2 : IntKind.i64.wrap (8 * (k : Int)) = 8 * (k : Int) := IntWalk.i64_in _ (by omega)
      have W3 : IntKind.i64.wrap (px + 8 * (k : Int)) = px + 8 * (k : Int) := IntWalk.i64_in _ (by omega)
      have W4 : ((k : Int) + 1).toNat = k + 1 := by omega
      have i5 : (0 : Int) ≤ (k : Int) + 1 := by omega
      refine wp_region_noPanic ?_
      refine wp_region_held_drew (S := fun wx => wx.cell? ⟨w.heap.size, 0, none⟩ = some (.int .i64 px) ∧ wx.cell? ⟨w.heap.size, 1, none⟩ = some (.int .i64 py)) (by kernel_rfl) (by exact F4.drew.2.2.1.c2.1) (fun hHeld => ?_)
      refine wpAnyH_take (i := 0) (v := ?v0) rfl (by kernel_rfl) (by kernel_rfl) (by kernel_rfl) (fun _ _ _ h => h) (Or.inl ⟨by kernel_rfl, ?y0⟩) (by assumption) ?r0
      case y0 => (intro wq hSw; (try dsimp only at hSw); go_simp; (try with_reducible rfl))
      (try simp only [Act.put, List.getElem_toArray, List.getElem_cons_zero, List.setIfInBounds_toArray, List.set_cons_zero, List.set_cons_succ])
      refine wpAnyH_take (i := 1) (v := ?v1) rfl (by kernel_rfl) (by kernel_rfl) (by kernel_rfl) (fun _ _ _ h => h) (Or.inl ⟨by kernel_rfl, ?y1⟩) (by assumption) ?r1
      case y1 => (intro wq hSw; (try dsimp only at hSw); go_simp; (try with_reducible rfl))
      (try simp only [Act.put, List.getElem_toArray, List.getElem_cons_succ, List.getElem_cons_zero, List.setIfInBounds_toArray, List.set_cons_zero, List.set_cons_succ])
      refine wpAnyH_take (i := 2) (v := ?v2) rfl (by kernel_rfl) (by kernel_rfl) (by kernel_rfl) (fun _ _ _ h => h) (Or.inl ⟨by kernel_rfl, ?y2⟩) (by assumption) ?r2
      case y2 => (intro wq hSw; (try dsimp only at hSw); go_simp; (try with_reducible rfl))
      (try simp only [Act.put, List.getElem_toArray, List.getElem_cons_succ, List.getElem_cons_zero, List.setIfInBounds_toArray, List.set_cons_zero, List.set_cons_succ])
      refine wpAnyH_take (i := 3) (v := ?v3) rfl (by kernel_rfl) (by kernel_rfl) (by kernel_rfl) (fun _ _ _ h => h) (Or.inl ⟨by kernel_rfl, ?y3⟩) (by assumption) ?r3
      case y3 => (intro wq hSw; (try dsimp only at hSw); go_simp; (try with_reducible rfl))
      (try simp only [Act.put, List.getElem_toArray, List.getElem_cons_succ, List.getElem_cons_zero, List.setIfInBounds_toArray, List.set_cons_zero, List.set_cons_succ])
      refine wpAnyH_take (i := 4) (v := ?v4) rfl (by kernel_rfl) (by kernel_rfl) (by kernel_rfl) (fun _ _ _ h => h) (Or.inl ⟨by kernel_rfl, ?y4⟩) (by assumption) ?r4
      case y4 => (intro wq hSw; (try dsimp only at hSw); go_simp; (try with_reducible rfl))
      (try simp only [Act.put, List.getElem_toArray, List.getElem_cons_succ, List.getElem_cons_zero, List.setIfInBounds_toArray, List.set_cons_zero, List.set_cons_succ])
      refine wpAnyH_take (i := 5) (v := ?v5) rfl (by kernel_rfl) (by kernel_rfl) (by kernel_rfl) (fun _ _ _ h => h) (Or.inl ⟨by kernel_rfl, ?y5⟩) (by assumption) ?r5
      case y5 => (intro wq hSw; (try dsimp only at hSw); go_simp; (try with_reducible rfl))
      (try simp only [Act.put, List.getElem_toArray, List.getElem_cons_succ, List.getElem_cons_zero, List.setIfInBounds_toArray, List.set_cons_zero, List.set_cons_succ])
      refine wpAnyH_take (i := 6) (v := ?v6) rfl (by kernel_rfl) (by kernel_rfl) (by kernel_rfl) (fun _ _ _ h => h) (Or.inl ⟨by kernel_rfl, ?y6⟩) (by assumption) ?r6
      case y6 => (intro wq hSw; (try dsimp only at hSw); go_simp; (try with_reducible rfl))
      (try simp only [Act.put, List.getElem_toArray, List.getElem_cons_succ, List.getElem_cons_zero, List.setIfInBounds_toArray, List.set_cons_zero, List.set_cons_succ])
      refine wpAnyH_take (i := 7) (v := ?v7) rfl (by kernel_rfl) (by kernel_rfl) (by kernel_rfl) (fun _ _ _ h => h) (Or.inl ⟨by kernel_rfl, ?y7⟩) (by assumption) ?r7
      case y7 => (intro wq hSw; (try dsimp only at hSw); go_simp; (try with_reducible rfl))
      (try simp only [Act.put, List.getElem_toArray, List.getElem_cons_succ, List.getElem_cons_zero, List.setIfInBounds_toArray, List.set_cons_zero, List.set_cons_succ])
      refine wpAnyH_take (i := 8) (v := ?v8) rfl (by kernel_rfl) (by kernel_rfl) (by kernel_rfl) (fun _ _ _ h => h) (Or.inl ⟨by kernel_rfl, ?y8⟩) (by assumption) ?r8
      case y8 => (intro wq hSw; (try dsimp only at hSw); go_simp; (try with_reducible rfl))
      (try simp only [Act.put, List.getElem_toArray, List.getElem_cons_succ, List.getElem_cons_zero, List.setIfInBounds_toArray, List.set_cons_zero, List.set_cons_succ])
      refine wpAnyH_take (i := 9) (v := ?v9) rfl (by kernel_rfl) (by kernel_rfl) (by kernel_rfl) (fun _ _ _ h => h) (Or.inl ⟨by kernel_rfl, ?y9⟩) (by assumption) ?r9
      case y9 => (intro wq hSw; (try dsimp only at hSw); go_simp; (try with_reducible rfl))
      (try simp only [Act.put, List.getElem_toArray, List.getElem_cons_succ, List.getElem_cons_zero, List.setIfInBounds_toArray, List.set_cons_zero, List.set_cons_succ])
      refine wpAnyH_take (i := 10) (v := ?v10) rfl (by kernel_rfl) (by kernel_rfl) (by kernel_rfl) (fun _ _ _ h => h) (Or.inl ⟨by kernel_rfl, ?y10⟩) (by assumption) ?r10
      case y10 => (intro wq hSw; (try dsimp only at hSw); go_simp; (try with_reducible rfl))
      (try simp only [Act.put, List.getElem_toArray, List.getElem_cons_succ, List.getElem_cons_zero, List.setIfInBounds_toArray, List.set_cons_zero, List.set_cons_succ])
      refine wpAnyH_take (i := 11) (v := ?v11) rfl (by kernel_rfl) (by kernel_rfl) (by kernel_rfl) (fun _ _ _ h => h) (Or.inl ⟨by kernel_rfl, ?y11⟩) (by assumption) ?r11
      case y11 => (intro wq hSw; (try dsimp only at hSw); go_simp; (try with_reducible rfl))
      (try simp only [Act.put, List.getElem_toArray, List.getElem_cons_succ, List.getElem_cons_zero, List.setIfInBounds_toArray, List.set_cons_zero, List.set_cons_succ])
      refine wpAnyH_take (i := 12) (v := ?v12) rfl (by kernel_rfl) (by kernel_rfl) (by kernel_rfl) (fun _ _ _ h => h) (Or.inl ⟨by kernel_rfl, ?y12⟩) (by assumption) ?r12
      case y12 => (intro wq hSw; (try dsimp only at hSw); go_simp; (try with_reducible rfl))
      (try simp only [Act.put, List.getElem_toArray, List.getElem_cons_succ, List.getElem_cons_zero, List.setIfInBounds_toArray, List.set_cons_zero, List.set_cons_succ])
      refine wpAnyH_take (i := 13) (v := ?v13) rfl (by kernel_rfl) (by kernel_rfl) (by kernel_rfl) (fun _ _ _ h => h) (Or.inl ⟨by kernel_rfl, ?y13⟩) (by assumption) ?r13
      case y13 => (intro wq hSw; (try dsimp only at hSw); go_simp; (try with_reducible rfl))
      (try simp only [Act.put, List.getElem_toArray, List.getElem_cons_succ, List.getElem_cons_zero, List.setIfInBounds_toArray, List.set_cons_zero, List.set_cons_succ])
      refine wpAnyH_take (i := 14) (v := ?v14) rfl (by kernel_rfl) (by kernel_rfl) (by kernel_rfl) (fun _ _ _ h => h) (Or.inl ⟨by kernel_rfl, ?y14⟩) (by assumption) ?r14
      case y14 => (intro wq hSw; (try dsimp only at hSw); go_simp; (try with_reducible rfl))
      (try simp only [Act.put, List.getElem_toArray, List.getElem_cons_succ, List.getElem_cons_zero, List.setIfInBounds_toArray, List.set_cons_zero, List.set_cons_succ])
      refine wpAnyH_ready (rs := [15]) (by kernel_rfl) (by simp) ?_
      refine AllReadyH.cons rfl (fun K hK => ?_) AllReadyH.nil
      go_simp
      refine (draw_c g2 (some b2) 40 20 C pk (px + 8 * k) py col (s.extract k (k + 1)) 1 _ F4.drew.2.1 HCOL.out (by rw [hes.out]; decide) HI4.out ⟨by rw [hes.out]; exact Nat.le_refl _, by omega, fun i hi => (by clear W1 W2 W3 W4; omega), .inl hes.out.symm⟩).mono ?_
      rintro e4 w4 ⟨rfl, hC, hg⟩; have F5 := (F4.drew.two hC hg).to2 (HO.out.trans HX.out); clear hC hg
      (try dsimp only)
      refine hK.out _ _ (by exact F5.2.2.1.c2.1) (fun hHeld => ?_)
      clear hK K
      (try simp only [Act.put, List.getElem_toArray, List.getElem_cons_succ, List.getElem_cons_zero, List.setIfInBounds_toArray, List.set_cons_zero, List.set_cons_succ])
      refine wpAnyH_done (by kernel_rfl) ?_ _
      refine NoPanic.normal ?_
      clear hHeld F4 W1 W2 W3 W4
      go_wp2_with fail
      go_roundw
      case rel => exact ⟨k + 1, by omega, by go_num, F5⟩
      case measure => simp [intOf]; omega
    · obtain rfl : k = s.size := by omega
      go_wp2_with fail
      refine (image_c g1 b1 40 20 C _ _ F4.1).mono ?_
      rintro e5 w5 ⟨v1, rfl, hO1, hb⟩
      have F5 := F4.next hb
      clear F4 hb
      go_wp2_with fail
      refine (image_c g2 b2 40 20 C _ _ F5.2.1).mono ?_
      rintro e6 w6 ⟨v2, rfl, hO2, hb⟩
      have F6 := F5.next hb
      have O6 := hO1.below hb
      clear F5 hb hO1
      go_wp2_with fail
      refine (same_c (40 : Nat) (20 : Nat) v1 v2 _ _ O6.rd hO2.rd (by rw [F6.1.2.2.2.1]; omega)).mono ?_
      rintro e7 w7 ⟨rfl, hb⟩
      have F7 := F6.next hb
      clear F6 hb O6 hO2
      go_wp2_with (go_at_call 30; refine (awake_c _).mono ?_; rintro e8 w8 ⟨rfl, hb⟩)
      go_ret
      exact ⟨rfl, (F7.next hb).2.2.2.1⟩
end Go.Proofs.Ytedhgdjlcddchaa
