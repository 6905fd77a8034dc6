import Derived.Test.YtedhgdjlcddchaaFoG
import Derived.Test.YtedhgdjlcddchaaRaM
import Derived.Test.YtedhgdjlcddchaaRaX
import Derived.Test.YtedhgdjlcddchaaRcK
import Derived.Test.YtedhgdjlcddchaaFoE
namespace Go.Proofs.Ytedhgdjlcddchaa
open Go.RowKit Go.Shelf
/-- A text on a canvas, wherever it begins. -/
def drawnP (W : Nat) (c : Rc) (col x y : Int) (s : ByteArray) (pix : List Int) (N : Nat) : List Int := if planeP x y = true then textP W c col x y s pix N else pix
theorem draw_a (g b W H : Nat) (c : Rc) (pix : List Int) (x y col : Int) (s : ByteArray) (N : Nat) (w : World) (hC : Canv w g (some b) W H c pix) (hcol : 0 ≤ col ∧ col < 4294967296)
    (hs : s.size ≤ 140737488355328) (hN : planeP x y = true → Upto x s.size N) :
    Calls Try.prog 37 #[.pointer (some ⟨g, 0, none⟩), .agg #[.int .i64 x, .int .i64 y], .string s, .int .u32 col] w fun e' w' => e' = .returned (.tuple #[]) ∧
      Canv w' g (some b) W H c (drawnP W c col x y s pix N) ∧ w.grownBy w' (some b) := by
  unfold drawnP
  cases hp : planeP x y
  · refine (draw_no (some ⟨g, 0, none⟩) x y col s w hp).mono fun e' w' h => ⟨h.1, ?_, only_of_below h.2 _⟩
    rw [if_neg (by decide)]
    exact hC.next h.2
  · rw [if_pos rfl]
    exact draw_c g (some b) W H c pix x y col s N w hC hcol hs hp (hN hp)
theorem rdraw_a (W H b n cc : Nat) (c : Rc) (pix : List Int) (x y col : Int) (s : ByteArray) (N : Nat) (w : World) (hW : W ≤ 1024) (hH : H ≤ 1024) (hn : n = W * H) (hR : Row w b n pix) (hcols : Cols pix) (hcol : 0 ≤ col ∧ col < 4294967296)
    (hs : s.size ≤ 140737488355328) (hN : planeP x y = true → Upto x s.size N) :
    Calls Try.prog 40 #[cvA W H b n cc c, .agg #[.int .i64 x, .int .i64 y], .string s, .int .u32 col] w fun e' w' =>
      ∃ G cap, e' = .returned (cvA W H G n cap c) ∧ Row w' G n (drawnP W c col x y s pix N) ∧ Below w.heap.size w w' := by
  unfold drawnP
  cases hp : planeP x y
  · refine (rdraw_no W H b n cc c pix x y col s w hR hp).mono fun e' w' h => ⟨b, cc, h.1, ?_, h.2.2⟩
    rw [if_neg (by decide)]
    exact h.2.1
  · rw [if_pos rfl]
    exact rdraw_c W H b n cc c pix x y col s N w hW hH hn hR hcols hcol hs hp (hN hp)
theorem rowk {wx w1 : World} {N : Nat → Prop} {b n : Nat} {zs : List Int} (h : Row wx b n zs) (k : Kept N wx w1) (hn : N b) : Row w1 b n zs := by
  obtain ⟨cur, h1, h2⟩ := h
  exact ⟨cur, k.blk h1 hn, h2⟩
/-- What the law keeps: its canvas; the reference's canvas, the rectangle and the place. -/
def Dst (w0 : World) (g b W H : Nat) (C : Rc) (pix : List Int) (rb n0 n1 : Nat) (R Q P : Array Value) (G n : Nat) (L : List Int) (wx : World) : Prop :=
  Canv wx g (some b) W H C pix ∧ Blk wx rb 58 R ∧ Blk wx n0 40 Q ∧ Blk wx n1 32 P ∧ Row wx G n L ∧ Below w0.heap.size w0 wx ∧ w0.heap.size ≤ g ∧ w0.heap.size ≤ b ∧ G ≠ b
section
variable {w0 wx w1 : World} {g b W H : Nat} {C C' : Rc} {pix pix' : List Int} {rb n0 n1 : Nat} {R Q P : Array Value} {G n : Nat} {L : List Int}
theorem Dst.next (h : Dst w0 g b W H C pix rb n0 n1 R Q P G n L wx) (hb : Below wx.heap.size wx w1) : Dst w0 g b W H C pix rb n0 n1 R Q P G n L w1 :=
  ⟨h.1.next hb, h.2.1.next hb, h.2.2.1.next hb, h.2.2.2.1.next hb, h.2.2.2.2.1.next hb, h.2.2.2.2.2.1.trans (hb.mono h.2.2.2.2.2.1.size), h.2.2.2.2.2.2⟩
theorem Dst.drew (h : Dst w0 g b W H C pix rb n0 n1 R Q P G n L wx) : Dst w0 g b W H C pix rb n0 n1 R Q P G n L wx.drew :=
  ⟨h.1, h.2.1, h.2.2.1, h.2.2.2.1, h.2.2.2.2.1, h.2.2.2.2.2.1.drew, h.2.2.2.2.2.2⟩
theorem Dst.step (h : Dst w0 g b W H C pix rb n0 n1 R Q P G n L wx) (hC : Canv w1 g (some b) W H C' pix') (k : Kept (fun i => i ≠ g ∧ i ≠ b) wx w1) : Dst w0 g b W H C' pix' rb n0 n1 R Q P G n L w1 := by
  obtain ⟨h1, h2, h3, h4, h5, h6, h7, h8, h9⟩ := h
  have hb := h1.2.1 b rfl
  exact ⟨hC, k.blk h2 ⟨h2.ne_ h1.1 (by decide), h2.ne_ hb (by decide)⟩, k.blk h3 ⟨h3.ne_ h1.1 (by decide), h3.ne_ hb (by decide)⟩, k.blk h4 ⟨h4.ne_ h1.1 (by decide), h4.ne_ hb (by decide)⟩,
    rowk h5 k ⟨fun e => h5.ne_ h1.1 (by decide) e.symm, h9⟩, Kept.below h6 k h6.size (fun i hi => ⟨by omega, by omega⟩), h7, h8, h9⟩
theorem Dst.outs {r0 r1 r2 r3 r4 r5 r6 q0 q1 q2 q3 p0 p1 : Value} (h : Dst w0 g b W H C pix rb n0 n1 #[r0, r1, r2, r3, r4, r5, r6] #[q0, q1, q2, q3] #[p0, p1] G n L wx) :
    (wx.cell? ⟨rb, 0, none⟩ = some r0 ∧ wx.cell? ⟨rb, 1, none⟩ = some r1 ∧ wx.cell? ⟨rb, 2, none⟩ = some r2 ∧ wx.cell? ⟨rb, 3, none⟩ = some r3 ∧ wx.cell? ⟨rb, 4, none⟩ = some r4 ∧ wx.cell? ⟨rb, 5, none⟩ = some r5 ∧ wx.cell? ⟨rb, 6, none⟩ = some r6) ∧
      (wx.cell? ⟨n0, 0, none⟩ = some q0 ∧ wx.cell? ⟨n0, 1, none⟩ = some q1 ∧ wx.cell? ⟨n0, 2, none⟩ = some q2 ∧ wx.cell? ⟨n0, 3, none⟩ = some q3) ∧ (wx.cell? ⟨n1, 0, none⟩ = some p0 ∧ wx.cell? ⟨n1, 1, none⟩ = some p1) :=
  ⟨h.2.1.c7.1, h.2.2.1.c4.1, h.2.2.2.1.c2.1⟩
end
theorem upto_five {x : Int} {y : Int} {n : Nat} : ∃ N, planeP x y = true → Upto x n N := by
  by_cases hp : planeP x y = true
  · have hx : x ≤ 32767 := by unfold planeP at hp; simp at hp; omega
    obtain ⟨N, hN⟩ := upto_ex hx n
    exact ⟨N, fun _ => hN⟩
  · exact ⟨0, fun h => absurd h hp⟩
set_option maxRecDepth 100000 in
set_option maxHeartbeats 8000000 in
theorem draws_w (a0 a1 cx cy ca ce px py : Int) (s : ByteArray) (col : Int) (w : World) (h0 : (Lit.int .u8 a0).wf = true) (h1 : (Lit.int .u8 a1).wf = true) (hs : s.size ≤ 140737488355328) (h3 : (Lit.int .u32 col).wf = true) :
    Calls Try.prog 11 #[.int .u8 a0, .int .u8 a1, .agg #[.int .i64 cx, .int .i64 cy, .int .i64 ca, .int .i64 ce], .agg #[.int .i64 px, .int .i64 py], .string s, .int .u32 col] w fun e' w' => e' = .returned (.bool true) ∧ Below w.heap.size w w' := by
  obtain ⟨u1, u2⟩ := wf_u8 h0
  obtain ⟨u3, u4⟩ := wf_u8 h1
  have hcol := wf_u32 h3
  clear h0 h1 h3
  obtain ⟨W, hW⟩ : ∃ W : Nat, a0 % 24 = (W : Int) := ⟨(a0 % 24).toNat, by omega⟩
  obtain ⟨H, hH⟩ : ∃ H : Nat, a1 % 24 = (H : Int) := ⟨(a1 % 24).toNat, by omega⟩
  have hW4 : W < 24 := by omega
  have hH4 : H < 24 := by omega
  obtain ⟨N, hN⟩ := upto_five (x := px) (y := py) (n := s.size)
  have HN := Lib.hid hN
  have HCOL := Lib.hid hcol
  clear hN hcol
  have P0 := Blk.new w 40 #[.int .i64 cx, .int .i64 cy, .int .i64 ca, .int .i64 ce]
  have P0' := P0.alloc (.cells #[.int .i64 px, .int .i64 py] 32)
  have Q0 := Blk.new (w.alloc (.cells #[.int .i64 cx, .int .i64 cy, .int .i64 ca, .int .i64 ce] 40)) 32 #[.int .i64 px, .int .i64 py]
  have B0 : Below w.heap.size w ((w.alloc (.cells #[.int .i64 cx, .int .i64 cy, .int .i64 ca, .int .i64 ce] 40)).alloc (.cells #[.int .i64 px, .int .i64 py] 32)) := ((Below.refl _ w).alloc (Nat.le_refl _) _).alloc (by simp) _
  clear P0
  rw [show (w.alloc (.cells #[.int .i64 cx, .int .i64 cy, .int .i64 ca, .int .i64 ce] 40)).heap.size = w.heap.size + 1 by simp] at Q0
  go_enter Try.func11, Try.ntmps11
  go_wp2_with fail
  generalize (w.alloc (.cells #[.int .i64 cx, .int .i64 cy, .int .i64 ca, .int .i64 ce] 40)).alloc (.cells #[.int .i64 px, .int .i64 py] 32) = wa at P0' Q0 B0 ⊢
  refine (new_yes W H 5 _ (by omega) (by omega) (by omega)).mono ?_
  rintro e1 w1 ⟨g, b, rfl, hC, hg, hbg, hb⟩
  have P1 := P0'.next hb
  have Q1 := Q0.next hb
  have B1 := B0.trans (hb.mono B0.size)
  have hl1 : w.heap.size ≤ g ∧ w.heap.size ≤ b := ⟨Nat.le_trans B0.size hg, Nat.le_trans B0.size hbg⟩
  clear P0' Q0 B0 hb hg hbg
  generalize int ⟨0, 0, W, H⟩ ⟨0, 0, W, H⟩ = C0 at hC
  go_wp2_with fail
  refine (rnew_y2 W H 5 _ (by omega) (by omega)).mono ?_
  rintro e2 w2 ⟨G, rfl, hR, hG, hb⟩
  have hGb : G ≠ b := by have := (hC.2.1 b rfl).lt; omega
  have F2 : Dst w g b W H C0 (List.replicate (W * H) 5) w2.heap.size w.heap.size (w.heap.size + 1) #[.int .i64 W, .int .i64 H, .slice (some ⟨G, 0, none⟩) (W * H) (W * H), .int .i64 0, .int .i64 0, .int .i64 W, .int .i64 H] #[.int .i64 cx, .int .i64 cy, .int .i64 ca, .int .i64 ce] #[.int .i64 px, .int .i64 py] G (W * H) (List.replicate (W * H) 5)
      (w2.alloc (.cells #[.int .i64 W, .int .i64 H, .slice (some ⟨G, 0, none⟩) (W * H) (W * H), .int .i64 0, .int .i64 0, .int .i64 W, .int .i64 H] 58)) :=
    ⟨(hC.next hb).alloc _, Blk.new _ _ _, (P1.next hb).alloc _, (Q1.next hb).alloc _, hR.next ((Below.refl _ _).alloc (Nat.le_refl _) _), (B1.trans (hb.mono B1.size)).alloc (Nat.le_trans B1.size hb.size) _, hl1.1, hl1.2, hGb⟩
  have hbs := hb.size
  obtain ⟨⟨q0, q1, q2, q3⟩, _⟩ := (P1.next hb).c4
  obtain ⟨⟨p0, p1⟩, _⟩ := (Q1.next hb).c2
  have hbs := hb.size
  have l0 := (P1.next hb).lt
  have l1 := (Q1.next hb).lt
  clear hC P1 Q1 B1 hR hb hG hGb hl1
  obtain ⟨n, hn⟩ : ∃ n, n = W * H := ⟨_, rfl⟩
  rw [← hn] at F2 ⊢
  have HN2 := Lib.hid hn
  clear hn
  obtain ⟨pix, hpix⟩ : ∃ pix, pix = List.replicate n (5 : Int) := ⟨_, rfl⟩
  rw [← hpix] at F2
  clear hpix
  by_cases h5 : 5 < s.size
  · go_wp2_with (go_at_call 30; refine (awake_c _).mono ?_; rintro e3 w3 ⟨rfl, hb⟩)
    go_ret
    exact ⟨rfl, F2.2.2.2.2.2.1.trans (hb.mono F2.2.2.2.2.2.1.size)⟩
  have HI := Lib.hid (int_comm ⟨0, 0, W, H⟩ ⟨cx, cy, ca, ce⟩)
  go_wp2_with fail
  refine (clip_c g (some b) W H C0 pix cx cy ca ce _ F2.1).mono ?_
  rintro e3 w3 ⟨rfl, hC, hg⟩
  have F3 := F2.step hC (Kept.of_only hg (fun i hi e => hi.1 (by injection e)))
  clear F2 hC hg q0 q1 q2 q3 p0 p1 l0 l1 hbs
  generalize w2.heap.size = rb at F3 ⊢
  obtain ⟨r3, q3, p3⟩ := F3.outs
  obtain ⟨p0, p1⟩ := p3
  clear r3 q3
  go_wp2_with fail
  refine (draw_a g b W H _ pix px py col s N _ F3.1 HCOL.out hs HN.out).mono ?_
  rintro e4 w4 ⟨rfl, hC, hg⟩
  have F4 := F3.step hC (Kept.of_only hg (fun i hi e => hi.2 (by injection e)))
  have HPIX := Lib.hid (show pix.length = W * H from F3.1.2.2.2.1)
  have HPC := Lib.hid (show Cols pix from F3.1.2.2.2.2.1)
  clear F3 hC hg p0 p1
  rw [← HI.out] at F4
  go_wp2_with fail
  have hfld : ∀ (G cap : Nat) (c : Rc) (wq : World), (Instr.field 58 (cvA W H G n cap c) 0).run Try.prog wq = .ok (.agg #[.int .i64 W, .int .i64 H, .slice (some ⟨G, 0, none⟩) n cap]) wq := fun _ _ _ _ => by kernel_rfl
  refine wp_region_noPanic ?_
  refine wp_region_held_drew (S := fun wx => (wx.cell? ⟨rb, 0, none⟩ = some (.int .i64 W) ∧ wx.cell? ⟨rb, 1, none⟩ = some (.int .i64 H) ∧ wx.cell? ⟨rb, 2, none⟩ = some (.slice (some ⟨G, 0, none⟩) n n) ∧ wx.cell? ⟨rb, 3, none⟩ = some (.int .i64 0) ∧ wx.cell? ⟨rb, 4, none⟩ = some (.int .i64 0) ∧ wx.cell? ⟨rb, 5, none⟩ = some (.int .i64 W) ∧ wx.cell? ⟨rb, 6, none⟩ = some (.int .i64 H)) ∧ (wx.cell? ⟨w.heap.size, 0, none⟩ = some (.int .i64 cx) ∧ wx.cell? ⟨w.heap.size, 1, none⟩ = some (.int .i64 cy) ∧ wx.cell? ⟨w.heap.size, 2, none⟩ = some (.int .i64 ca) ∧ wx.cell? ⟨w.heap.size, 3, none⟩ = some (.int .i64 ce)) ∧ (wx.cell? ⟨w.heap.size + 1, 0, none⟩ = some (.int .i64 px) ∧ wx.cell? ⟨w.heap.size + 1, 1, none⟩ = some (.int .i64 py))) (by kernel_rfl) (by exact F4.drew.outs) (fun hHeld => ?_)
  refine wpAnyH_take (i := 0) (v := ?v0) rfl (by kernel_rfl) (by kernel_rfl) (by kernel_rfl) (fun _ _ _ h => h) (Or.inl ⟨by kernel_rfl, ?y0⟩) (by assumption) ?r0
  case y0 => (intro wq hSw; (try dsimp only at hSw); go_simp; (try with_reducible rfl))
  (try simp only [Act.put, List.getElem_toArray, List.getElem_cons_zero, List.setIfInBounds_toArray, List.set_cons_zero, List.set_cons_succ])
  refine wpAnyH_take (i := 2) (v := ?v2) rfl (by kernel_rfl) (by kernel_rfl) (by kernel_rfl) (fun _ _ _ h => h) (Or.inl ⟨by kernel_rfl, ?y2⟩) (by assumption) ?r2
  case y2 => (intro wq hSw; (try dsimp only at hSw); go_simp; (try with_reducible rfl))
  (try simp only [Act.put, List.getElem_toArray, List.getElem_cons_succ, List.getElem_cons_zero, List.setIfInBounds_toArray, List.set_cons_zero, List.set_cons_succ])
  refine wpAnyH_take (i := 3) (v := ?v3) rfl (by kernel_rfl) (by kernel_rfl) (by kernel_rfl) (fun _ _ _ h => h) (Or.inl ⟨by kernel_rfl, ?y3⟩) (by assumption) ?r3
  case y3 => (intro wq hSw; (try dsimp only at hSw); go_simp; (try with_reducible rfl))
  (try simp only [Act.put, List.getElem_toArray, List.getElem_cons_succ, List.getElem_cons_zero, List.setIfInBounds_toArray, List.set_cons_zero, List.set_cons_succ])
  refine wpAnyH_take (i := 5) (v := ?v5) rfl (by kernel_rfl) (by kernel_rfl) (by kernel_rfl) (fun _ _ _ h => h) (Or.inl ⟨by kernel_rfl, ?y5⟩) (by assumption) ?r5
  case y5 => (intro wq hSw; (try dsimp only at hSw); go_simp; (try with_reducible rfl))
  (try simp only [Act.put, List.getElem_toArray, List.getElem_cons_succ, List.getElem_cons_zero, List.setIfInBounds_toArray, List.set_cons_zero, List.set_cons_succ])
  refine wpAnyH_take (i := 6) (v := ?v6) rfl (by kernel_rfl) (by kernel_rfl) (by kernel_rfl) (fun _ _ _ h => h) (Or.inl ⟨by kernel_rfl, ?y6⟩) (by assumption) ?r6
  case y6 => (intro wq hSw; (try dsimp only at hSw); go_simp; (try with_reducible rfl))
  (try simp only [Act.put, List.getElem_toArray, List.getElem_cons_succ, List.getElem_cons_zero, List.setIfInBounds_toArray, List.set_cons_zero, List.set_cons_succ])
  refine wpAnyH_take (i := 7) (v := ?v7) rfl (by kernel_rfl) (by kernel_rfl) (by kernel_rfl) (fun _ _ _ h => h) (Or.inl ⟨by kernel_rfl, ?y7⟩) (by assumption) ?r7
  case y7 => (intro wq hSw; (try dsimp only at hSw); go_simp; (try with_reducible rfl))
  (try simp only [Act.put, List.getElem_toArray, List.getElem_cons_succ, List.getElem_cons_zero, List.setIfInBounds_toArray, List.set_cons_zero, List.set_cons_succ])
  refine wpAnyH_ready (rs := [1]) (by kernel_rfl) (by simp) ?_
  refine AllReadyH.cons rfl (fun K hK => ?_) AllReadyH.nil
  go_simp
  refine (image_c g b W H (int ⟨0, 0, W, H⟩ ⟨cx, cy, ca, ce⟩) (drawnP W (int ⟨0, 0, W, H⟩ ⟨cx, cy, ca, ce⟩) col px py s pix N) _ F4.drew.1).mono ?_
  rintro e5 w5 ⟨v, rfl, hO, hb⟩; have F5 := F4.drew.next hb; clear hb F4
  (try dsimp only)
  refine hK.out _ _ (by exact F5.outs) (fun hHeld => ?_)
  clear hK K
  (try simp only [Act.put, List.getElem_toArray, List.getElem_cons_succ, List.getElem_cons_zero, List.setIfInBounds_toArray, List.set_cons_zero, List.set_cons_succ])
  refine wpAnyH_ready (rs := [4]) (by kernel_rfl) (by simp) ?_
  refine AllReadyH.cons rfl (fun K hK => ?_) AllReadyH.nil
  go_simp
  refine (rclip_c W H (some ⟨G, 0, none⟩) n n ⟨0, 0, W, H⟩ cx cy ca ce _).mono ?_
  rintro e6 w6 ⟨rfl, hb⟩; have F6 := F5.next hb; have O6 := hO.below hb; clear hb F5 hO
  (try dsimp only)
  refine hK.out _ _ (by exact F6.outs) (fun hHeld => ?_)
  clear hK K
  (try simp only [Act.put, List.getElem_toArray, List.getElem_cons_succ, List.getElem_cons_zero, List.setIfInBounds_toArray, List.set_cons_zero, List.set_cons_succ])
  refine wpAnyH_ready (rs := [8]) (by kernel_rfl) (by simp) ?_
  refine AllReadyH.cons rfl (fun K hK => ?_) AllReadyH.nil
  go_simp
  refine (rdraw_a W H G n n (int ⟨0, 0, W, H⟩ ⟨cx, cy, ca, ce⟩) pix px py col s N _ (by omega) (by omega) HN2.out F6.2.2.2.2.1 HPC.out HCOL.out hs HN.out).mono ?_
  rintro e7 w7 ⟨G7, cap7, rfl, hR7, hb⟩; have F7 := F6.next hb; have O7 := O6.below hb; clear hb F6 O6
  (try dsimp only)
  refine hK.out _ _ (by exact F7.outs) (fun hHeld => ?_)
  clear hK K
  (try simp only [Act.put, List.getElem_toArray, List.getElem_cons_succ, List.getElem_cons_zero, List.setIfInBounds_toArray, List.set_cons_zero, List.set_cons_succ])
  refine wpAnyH_take (i := 9) (v := ?v9) rfl (by kernel_rfl) (by kernel_rfl) (by kernel_rfl) (fun _ _ _ h => h) (Or.inl ⟨by kernel_rfl, ?y9⟩) (by assumption) ?r9
  case y9 => (intro wq hSw; (try dsimp only at hSw); go_simp; (try with_reducible rfl))
  (try simp only [Act.put, List.getElem_toArray, List.getElem_cons_succ, List.getElem_cons_zero, List.setIfInBounds_toArray, List.set_cons_zero, List.set_cons_succ])
  refine wpAnyH_ready (rs := [10]) (by kernel_rfl) (by simp) ?_
  refine AllReadyH.cons rfl (fun K hK => ?_) AllReadyH.nil
  go_simp
  refine (same_c W H v (.slice (some ⟨G7, 0, none⟩) n cap7) _ _ O7.rd hR7.rd (by rw [show (drawnP W (int ⟨0, 0, W, H⟩ ⟨cx, cy, ca, ce⟩) col px py s pix N).length = n by obtain ⟨_, _, _, h, _⟩ := hR7; exact h]; rw [HN2.out]; exact Nat.le_trans (Nat.mul_le_mul (Nat.le_of_lt hW4) (Nat.le_of_lt hH4)) (by omega))).mono ?_
  rintro e8 w8 ⟨rfl, hb⟩; have F8 := F7.next hb; clear hb F7
  (try dsimp only)
  refine hK.out _ _ (by exact F8.outs) (fun hHeld => ?_)
  clear hK K
  (try simp only [Act.put, List.getElem_toArray, List.getElem_cons_succ, List.getElem_cons_zero, List.setIfInBounds_toArray, List.set_cons_zero, List.set_cons_succ])
  refine wpAnyH_take (i := 11) (v := ?v11) rfl (by kernel_rfl) (by kernel_rfl) (by kernel_rfl) (fun _ _ _ h => h) (Or.inl ⟨by kernel_rfl, ?y11⟩) (by assumption) ?r11
  case y11 => (intro wq hSw; (try dsimp only at hSw); go_simp; (try with_reducible rfl))
  (try simp only [Act.put, List.getElem_toArray, List.getElem_cons_succ, List.getElem_cons_zero, List.setIfInBounds_toArray, List.set_cons_zero, List.set_cons_succ])
  refine wpAnyH_ready (rs := [12]) (by kernel_rfl) (by simp) ?_
  refine AllReadyH.cons rfl (fun K hK => ?_) AllReadyH.nil
  go_simp
  refine (awake_c _).mono ?_
  rintro e9 w9 ⟨rfl, hb⟩; have F9 := F8.next hb; clear hb F8
  (try dsimp only)
  refine hK.out _ _ (by exact F9.outs) (fun hHeld => ?_)
  clear hK K
  (try simp only [Act.put, List.getElem_toArray, List.getElem_cons_succ, List.getElem_cons_zero, List.setIfInBounds_toArray, List.set_cons_zero, List.set_cons_succ])
  refine wpAnyH_take (i := 13) (v := ?v13) rfl (by kernel_rfl) (by kernel_rfl) (by kernel_rfl) (fun _ _ _ h => h) (Or.inl ⟨by kernel_rfl, ?y13⟩) (by assumption) ?r13
  case y13 => (intro wq hSw; (try dsimp only at hSw); go_simp; (try with_reducible rfl))
  (try simp only [Act.put, List.getElem_toArray, List.getElem_cons_succ, List.getElem_cons_zero, List.setIfInBounds_toArray, List.set_cons_zero, List.set_cons_succ])
  refine wpAnyH_take (i := 14) (v := ?v14) rfl (by kernel_rfl) (by kernel_rfl) (by kernel_rfl) (fun _ _ _ h => h) (Or.inl ⟨by kernel_rfl, ?y14⟩) (by assumption) ?r14
  case y14 => (intro wq hSw; (try dsimp only at hSw); go_simp; (try with_reducible rfl))
  (try simp only [Act.put, List.getElem_toArray, List.getElem_cons_succ, List.getElem_cons_zero, List.setIfInBounds_toArray, List.set_cons_zero, List.set_cons_succ])
  refine wpAnyH_done (by kernel_rfl) ?_ _
  refine NoPanic.normal ?_
  clear hHeld
  go_wp2_with fail
  go_ret
  exact ⟨rfl, F9.2.2.2.2.2.1⟩
end Go.Proofs.Ytedhgdjlcddchaa
