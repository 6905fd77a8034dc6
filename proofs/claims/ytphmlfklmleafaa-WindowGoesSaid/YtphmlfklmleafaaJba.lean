/- does: the kinds that change. -/
import Derived.Test.YtphmlfklmleafaaJaz
section
namespace Go.Proofs.Ytphmlfklmleafaa
open Go.RowKit Go.Shelf Go.Maps
/-- What does answers, and leaves. -/
def DoR (w0 : World) (t rb : Nat) (R : RT) (k : Nat) (ex : Ending) (w' : World) : Prop := ex = .returned (.bool true) ∧ ∃ L', Sane R L' k ∧ Bo w0 t rb R L' w'
section
variable {w0 w : World} {t rb : Nat} {R : RT} {L : List Win} {k : Nat}
set_option maxRecDepth 100000 in
set_option maxHeartbeats 2000000 in
theorem does_0 (S : Sane R L k) (hB : Bo w0 t rb R L w) {win oth x y a e : Int} (hi : I64 win) (_ho : I64 oth) : Calls Try.prog 12 #[treeP t, .pointer (some ⟨rb, 0, none⟩), .agg #[.int .i64 0, .int .i64 win, .int .i64 oth, .int .i64 x, .int .i64 y, .int .i64 a, .int .i64 e]] w fun ex w' => DoR w0 t rb R k ex w' := by
  obtain ⟨l, sv, hT, hR, hO, h4, h5, h6⟩ := hB
  obtain ⟨p, n, c, rfl⟩ := own_sl hO
  obtain ⟨L', err, S', hRef, hCode⟩ := both_conf S hi x y a e
  obtain ⟨wc, hwc⟩ : ∃ wc, wc = ((w.alloc (.cells #[.int .i64 0, .int .i64 win, .int .i64 oth, .int .i64 x, .int .i64 y, .int .i64 a, .int .i64 e] 39)).alloc (.cells #[.int .i64 x, .int .i64 y] 26)).alloc (.cells (refA R (.slice p n c)) 36) := ⟨_, rfl⟩
  have hbel : Below w.heap.size w wc := by rw [hwc]; exact (((Below.refl _ _).alloc (Nat.le_refl _) _).alloc (by simp) _).alloc (by simp; omega) _
  have B0 : Blk wc w.heap.size 39 #[.int .i64 0, .int .i64 win, .int .i64 oth, .int .i64 x, .int .i64 y, .int .i64 a, .int .i64 e] := by rw [hwc]; exact ((Blk.new w _ _).alloc _).alloc _
  have B1 : Blk wc (w.heap.size + 1) 26 #[.int .i64 x, .int .i64 y] := by
    rw [hwc]
    have := (Blk.new (w.alloc (.cells #[.int .i64 0, .int .i64 win, .int .i64 oth, .int .i64 x, .int .i64 y, .int .i64 a, .int .i64 e] 39)) 26 #[.int .i64 x, .int .i64 y]).alloc (.cells (refA R (.slice p n c)) 36)
    rwa [World.size_alloc] at this
  have B2 : Blk wc (w.heap.size + 1 + 1) 36 (refA R (.slice p n c)) := by
    rw [hwc]
    have := Blk.new ((w.alloc (.cells #[.int .i64 0, .int .i64 win, .int .i64 oth, .int .i64 x, .int .i64 y, .int .i64 a, .int .i64 e] 39)).alloc (.cells #[.int .i64 x, .int .i64 y] 26)) 36 (refA R (.slice p n c))
    rwa [World.size_alloc, World.size_alloc] at this
  have hrb : rb < w.heap.size := hR.lt
  obtain ⟨⟨i0, i1, i2, i3, i4, i5, i6⟩, -⟩ := (Blk.new w 39 #[.int .i64 0, .int .i64 win, .int .i64 oth, .int .i64 x, .int .i64 y, .int .i64 a, .int .i64 e]).c7
  obtain ⟨⟨j0, j1, j2, j3, j4, j5⟩, -⟩ := ((hR.alloc (.cells #[.int .i64 0, .int .i64 win, .int .i64 oth, .int .i64 x, .int .i64 y, .int .i64 a, .int .i64 e] 39)).alloc (.cells #[.int .i64 x, .int .i64 y] 26)).at6
  obtain ⟨⟨a0, a1, a2, a3, a4, a5, a6⟩, -⟩ := B0.c7
  have HS := Lib.hid (fun W (hW : Below wc.heap.size wc W) => (show (((W.cell? ⟨rb, 0, none⟩ = some (.int .i64 R.x) ∧ W.cell? ⟨rb, 1, none⟩ = some (.int .i64 R.y) ∧ W.cell? ⟨rb, 2, none⟩ = some (.int .i64 R.w) ∧ W.cell? ⟨rb, 3, none⟩ = some (.int .i64 R.h) ∧ W.cell? ⟨rb, 4, none⟩ = some (.int .i64 R.last) ∧ W.cell? ⟨rb, 5, none⟩ = some (.slice p n c)) ∧ W.cell? ⟨w.heap.size, 0, none⟩ = some (.int .i64 0) ∧ W.cell? ⟨w.heap.size, 1, none⟩ = some (.int .i64 win) ∧ W.cell? ⟨w.heap.size, 2, none⟩ = some (.int .i64 oth) ∧ W.cell? ⟨w.heap.size, 3, none⟩ = some (.int .i64 x) ∧ W.cell? ⟨w.heap.size, 4, none⟩ = some (.int .i64 y) ∧ W.cell? ⟨w.heap.size, 5, none⟩ = some (.int .i64 a) ∧ W.cell? ⟨w.heap.size, 6, none⟩ = some (.int .i64 e)) ∧ W.cell? ⟨w.heap.size + 1, 0, none⟩ = some (.int .i64 x) ∧ W.cell? ⟨w.heap.size + 1, 1, none⟩ = some (.int .i64 y)) from ⟨⟨((hR.next hbel).next hW).at6.1, (B0.next hW).c7.1⟩, (B1.next hW).c2.1⟩))
  have HSX := Lib.hid (fun W (hW : Below wc.heap.size wc W) (v0 v1 v2 v3 v4 v5 : Value) => (show (fun W => ((W.cell? ⟨rb, 0, none⟩ = some (.int .i64 R.x) ∧ W.cell? ⟨rb, 1, none⟩ = some (.int .i64 R.y) ∧ W.cell? ⟨rb, 2, none⟩ = some (.int .i64 R.w) ∧ W.cell? ⟨rb, 3, none⟩ = some (.int .i64 R.h) ∧ W.cell? ⟨rb, 4, none⟩ = some (.int .i64 R.last) ∧ W.cell? ⟨rb, 5, none⟩ = some (.slice p n c)) ∧ W.cell? ⟨w.heap.size, 0, none⟩ = some (.int .i64 0) ∧ W.cell? ⟨w.heap.size, 1, none⟩ = some (.int .i64 win) ∧ W.cell? ⟨w.heap.size, 2, none⟩ = some (.int .i64 oth) ∧ W.cell? ⟨w.heap.size, 3, none⟩ = some (.int .i64 x) ∧ W.cell? ⟨w.heap.size, 4, none⟩ = some (.int .i64 y) ∧ W.cell? ⟨w.heap.size, 5, none⟩ = some (.int .i64 a) ∧ W.cell? ⟨w.heap.size, 6, none⟩ = some (.int .i64 e)) ∧ W.cell? ⟨w.heap.size + 1, 0, none⟩ = some (.int .i64 x) ∧ W.cell? ⟨w.heap.size + 1, 1, none⟩ = some (.int .i64 y)) ((((((W.setCell ⟨w.heap.size + 1 + 1, 0, none⟩ v0).setCell ⟨w.heap.size + 1 + 1, 1, none⟩ v1).setCell ⟨w.heap.size + 1 + 1, 2, none⟩ v2).setCell ⟨w.heap.size + 1 + 1, 3, none⟩ v3).setCell ⟨w.heap.size + 1 + 1, 4, none⟩ v4).setCell ⟨w.heap.size + 1 + 1, 5, none⟩ v5) from
    ⟨⟨(far6 ((hR.next hbel).next hW) (by omega) v0 v1 v2 v3 v4 v5).at6.1, (far6 (B0.next hW) (by omega) v0 v1 v2 v3 v4 v5).c7.1⟩, (far6 (B1.next hW) (by omega) v0 v1 v2 v3 v4 v5).c2.1⟩))
  have HOC := Lib.hid (fun W (hW : Below wc.heap.size wc W) => (show RO W (.slice p n c) L from OwK.below (OwK.below hO hbel) hW))
  have HTC := Lib.hid (hT.next hbel)
  have HRC := Lib.hid (hR.next hbel)
  have HZ := Lib.hid B2
  have HA := Lib.hid B0
  have HP := Lib.hid B1
  have HBL := Lib.hid (hbel.on h4 h4.size)
  have HREF := Lib.hid hRef
  have HCODE := Lib.hid hCode
  have HSN := Lib.hid S'
  have HF := Lib.hid h6
  have HW := Lib.hid hwc
  have H5 := Lib.hid h5
  have hee : (err == err) = true := by simp
  clear hT hR hO h4 h5 h6 hRef hCode hbel B0 B1 B2 hwc S' S
  go_enter Try.func12, Try.ntmps12
  go_upto_region 3 with fail
  rw [← HW.out]
  clear i0 i1 i2 i3 i4 i5 i6 j0 j1 j2 j3 j4 j5
  go_wp2_with fail
  refine wp_region_noPanic ?_
  refine wp_region_held_drew (S := fun wx => ((wx.cell? ⟨rb, 0, none⟩ = some (.int .i64 R.x) ∧ wx.cell? ⟨rb, 1, none⟩ = some (.int .i64 R.y) ∧ wx.cell? ⟨rb, 2, none⟩ = some (.int .i64 R.w) ∧ wx.cell? ⟨rb, 3, none⟩ = some (.int .i64 R.h) ∧ wx.cell? ⟨rb, 4, none⟩ = some (.int .i64 R.last) ∧ wx.cell? ⟨rb, 5, none⟩ = some (.slice p n c)) ∧ wx.cell? ⟨w.heap.size, 0, none⟩ = some (.int .i64 0) ∧ wx.cell? ⟨w.heap.size, 1, none⟩ = some (.int .i64 win) ∧ wx.cell? ⟨w.heap.size, 2, none⟩ = some (.int .i64 oth) ∧ wx.cell? ⟨w.heap.size, 3, none⟩ = some (.int .i64 x) ∧ wx.cell? ⟨w.heap.size, 4, none⟩ = some (.int .i64 y) ∧ wx.cell? ⟨w.heap.size, 5, none⟩ = some (.int .i64 a) ∧ wx.cell? ⟨w.heap.size, 6, none⟩ = some (.int .i64 e)) ∧ wx.cell? ⟨w.heap.size + 1, 0, none⟩ = some (.int .i64 x) ∧ wx.cell? ⟨w.heap.size + 1, 1, none⟩ = some (.int .i64 y)) (by kernel_rfl) (by exact HS.out _ (Below.refl _ _).drew) (fun hHeld => ?_)
  refine wpAnyH_take (i := 0) (v := ?va0) rfl (by kernel_rfl) (by kernel_rfl) (by kernel_rfl) (fun _ _ _ h => h) (Or.inl ⟨by kernel_rfl, ?ya0⟩) (by assumption) ?ra0
  case ya0 => (intro wq hSw; (try dsimp only at hSw); go_simp; (try with_reducible rfl))
  (try simp only [Act.put, List.getElem_toArray, List.getElem_cons_zero, List.setIfInBounds_toArray, List.set_cons_zero, List.set_cons_succ])
  refine wpAnyH_take (i := 1) (v := ?va1) rfl (by kernel_rfl) (by kernel_rfl) (by kernel_rfl) (fun _ _ _ h => h) (Or.inl ⟨by kernel_rfl, ?ya1⟩) (by assumption) ?ra1
  case ya1 => (intro wq hSw; (try dsimp only at hSw); go_simp; (try with_reducible rfl))
  (try simp only [Act.put, List.getElem_toArray, List.getElem_cons_succ, List.getElem_cons_zero, List.setIfInBounds_toArray, List.set_cons_zero, List.set_cons_succ])
  refine wpAnyH_take (i := 2) (v := ?va2) rfl (by kernel_rfl) (by kernel_rfl) (by kernel_rfl) (fun _ _ _ h => h) (Or.inl ⟨by kernel_rfl, ?ya2⟩) (by assumption) ?ra2
  case ya2 => (intro wq hSw; (try dsimp only at hSw); go_simp; (try with_reducible rfl))
  (try simp only [Act.put, List.getElem_toArray, List.getElem_cons_succ, List.getElem_cons_zero, List.setIfInBounds_toArray, List.set_cons_zero, List.set_cons_succ])
  refine wpAnyH_take (i := 3) (v := ?va3) rfl (by kernel_rfl) (by kernel_rfl) (by kernel_rfl) (fun _ _ _ h => h) (Or.inl ⟨by kernel_rfl, ?ya3⟩) (by assumption) ?ra3
  case ya3 => (intro wq hSw; (try dsimp only at hSw); go_simp; (try with_reducible rfl))
  (try simp only [Act.put, List.getElem_toArray, List.getElem_cons_succ, List.getElem_cons_zero, List.setIfInBounds_toArray, List.set_cons_zero, List.set_cons_succ])
  refine wpAnyH_take (i := 4) (v := ?va4) rfl (by kernel_rfl) (by kernel_rfl) (by kernel_rfl) (fun _ _ _ h => h) (Or.inl ⟨by kernel_rfl, ?ya4⟩) (by assumption) ?ra4
  case ya4 => (intro wq hSw; (try dsimp only at hSw); go_simp; (try with_reducible rfl))
  (try simp only [Act.put, List.getElem_toArray, List.getElem_cons_succ, List.getElem_cons_zero, List.setIfInBounds_toArray, List.set_cons_zero, List.set_cons_succ])
  refine wpAnyH_take (i := 5) (v := ?va5) rfl (by kernel_rfl) (by kernel_rfl) (by kernel_rfl) (fun _ _ _ h => h) (Or.inl ⟨by kernel_rfl, ?ya5⟩) (by assumption) ?ra5
  case ya5 => (intro wq hSw; (try dsimp only at hSw); go_simp; (try with_reducible rfl))
  (try simp only [Act.put, List.getElem_toArray, List.getElem_cons_succ, List.getElem_cons_zero, List.setIfInBounds_toArray, List.set_cons_zero, List.set_cons_succ])
  refine wpAnyH_take (i := 6) (v := ?va6) rfl (by kernel_rfl) (by kernel_rfl) (by kernel_rfl) (fun _ _ _ h => h) (Or.inl ⟨by kernel_rfl, ?ya6⟩) (by assumption) ?ra6
  case ya6 => (intro wq hSw; (try dsimp only at hSw); go_simp; (try with_reducible rfl))
  (try simp only [Act.put, List.getElem_toArray, List.getElem_cons_succ, List.getElem_cons_zero, List.setIfInBounds_toArray, List.set_cons_zero, List.set_cons_succ])
  refine wpAnyH_ready (rs := [7]) (by kernel_rfl) (by simp) ?_
  refine AllReadyH.cons rfl (fun K hK => ?_) AllReadyH.nil
  go_simp
  refine (HREF.out _ _ (HOC.out _ (Below.refl wc.heap.size wc).drew)).mono ?_
  rintro ex w2 ⟨sv2, rfl, ho2, hb0⟩; have hb2 : Below wc.heap.size wc w2 := ((Below.refl _ wc).drew).trans hb0; obtain ⟨p2, n2, c2, rfl⟩ := own_sl ho2; have HO2 := Lib.hid ho2; have HB2 := Lib.hid hb2; clear ho2 hb0 hb2
  (try dsimp only)
  refine hK.out _ _ (by exact HS.out _ HB2.out) (fun hHeld => ?_)
  clear hK K
  (try simp only [Act.put, List.getElem_toArray, List.getElem_cons_succ, List.getElem_cons_zero, List.setIfInBounds_toArray, List.set_cons_zero, List.set_cons_succ])
  refine wpAnyH_take (i := 8) (v := ?va8) rfl (by kernel_rfl) (by kernel_rfl) (by kernel_rfl) (fun _ _ _ h => h) (Or.inl ⟨by kernel_rfl, ?ya8⟩) (by assumption) ?ra8
  case ya8 => (intro wq hSw; (try dsimp only at hSw); go_simp; (try with_reducible rfl))
  (try simp only [Act.put, List.getElem_toArray, List.getElem_cons_succ, List.getElem_cons_zero, List.setIfInBounds_toArray, List.set_cons_zero, List.set_cons_succ])
  refine wpAnyH_take (i := 9) (v := ?va9) rfl (by kernel_rfl) (by kernel_rfl) (by kernel_rfl) (fun _ _ _ h => h) (Or.inl ⟨by kernel_rfl, ?ya9⟩) (by assumption) ?ra9
  case ya9 => (intro wq hSw; (try dsimp only at hSw); go_simp; (try with_reducible rfl))
  (try simp only [Act.put, List.getElem_toArray, List.getElem_cons_succ, List.getElem_cons_zero, List.setIfInBounds_toArray, List.set_cons_zero, List.set_cons_succ])
  refine wpAnyH_take (i := 10) (v := ?va10) rfl (by kernel_rfl) (by kernel_rfl) (by kernel_rfl) (fun _ _ _ h => h) (Or.inl ⟨by kernel_rfl, ?ya10⟩) (by assumption) ?ra10
  case ya10 => (intro wq hSw; (try dsimp only at hSw); go_simp; (try with_reducible rfl))
  (try simp only [Act.put, List.getElem_toArray, List.getElem_cons_succ, List.getElem_cons_zero, List.setIfInBounds_toArray, List.set_cons_zero, List.set_cons_succ])
  obtain ⟨⟨z0, z1, z2, z3, z4, z5⟩, ⟨f0, f1, f2, f3, f4, f5⟩⟩ := (HZ.out.next HB2.out).at6
  refine wpAnyH_ready (rs := [11]) (by kernel_rfl) (by simp) ?_
  refine AllReadyH.cons rfl (fun K hK => ?_) AllReadyH.nil
  go_simp
  refine hK.out _ _ (by exact HSX.out _ HB2.out _ _ _ _ _ _) (fun hHeld => ?_)
  clear hK K
  (try simp only [Act.put, List.getElem_toArray, List.getElem_cons_succ, List.getElem_cons_zero, List.setIfInBounds_toArray, List.set_cons_zero, List.set_cons_succ])
  refine wpAnyH_take (i := 12) (v := ?va12) rfl (by kernel_rfl) (by kernel_rfl) (by kernel_rfl) (fun _ _ _ h => h) (Or.inl ⟨by kernel_rfl, ?ya12⟩) (by assumption) ?ra12
  case ya12 => (intro wq hSw; (try dsimp only at hSw); go_simp; (try with_reducible rfl))
  (try simp only [Act.put, List.getElem_toArray, List.getElem_cons_succ, List.getElem_cons_zero, List.setIfInBounds_toArray, List.set_cons_zero, List.set_cons_succ])
  refine wpAnyH_done (by kernel_rfl) ?_ _
  refine NoPanic.normal ?_
  clear z0 z1 z2 z3 z4 z5 f0 f1 f2 f3 f4 f5
  have T3 := Lib.hid (tree6 (HTC.out.next HB2.out) (HZ.out.next HB2.out) (.int .i64 R.x) (.int .i64 R.y) (.int .i64 R.w) (.int .i64 R.h) (.int .i64 R.last) (.slice p2 n2 c2))
  have R3 := Lib.hid (far6 (HRC.out.next HB2.out) (show rb ≠ w.heap.size + 1 + 1 by omega) (.int .i64 R.x) (.int .i64 R.y) (.int .i64 R.w) (.int .i64 R.h) (.int .i64 R.last) (.slice p2 n2 c2))
  have A3 := Lib.hid (far6 (HA.out.next HB2.out) (show w.heap.size ≠ w.heap.size + 1 + 1 by omega) (.int .i64 R.x) (.int .i64 R.y) (.int .i64 R.w) (.int .i64 R.h) (.int .i64 R.last) (.slice p2 n2 c2))
  have P3 := Lib.hid (far6 (HP.out.next HB2.out) (show w.heap.size + 1 ≠ w.heap.size + 1 + 1 by omega) (.int .i64 R.x) (.int .i64 R.y) (.int .i64 R.w) (.int .i64 R.h) (.int .i64 R.last) (.slice p2 n2 c2))
  have Z3 := Lib.hid (put6 (HZ.out.next HB2.out) (.int .i64 R.x) (.int .i64 R.y) (.int .i64 R.w) (.int .i64 R.h) (.int .i64 R.last) (.slice p2 n2 c2))
  have O3 := Lib.hid (rows6 HO2.out (HZ.out.next HB2.out) (.int .i64 R.x) (.int .i64 R.y) (.int .i64 R.w) (.int .i64 R.h) (.int .i64 R.last) (.slice p2 n2 c2))
  have L3 := Lib.hid (set6 (HB2.out.on HBL.out HBL.out.size) (show w0.heap.size ≤ w.heap.size + 1 + 1 by have := H5.out; omega) (.int .i64 R.x) (.int .i64 R.y) (.int .i64 R.w) (.int .i64 R.h) (.int .i64 R.last) (.slice p2 n2 c2))
  generalize ((((((w2.setCell ⟨w.heap.size + 1 + 1, 0, none⟩ (.int .i64 R.x)).setCell ⟨w.heap.size + 1 + 1, 1, none⟩ (.int .i64 R.y)).setCell ⟨w.heap.size + 1 + 1, 2, none⟩ (.int .i64 R.w)).setCell ⟨w.heap.size + 1 + 1, 3, none⟩ (.int .i64 R.h)).setCell ⟨w.heap.size + 1 + 1, 4, none⟩ (.int .i64 R.last)).setCell ⟨w.heap.size + 1 + 1, 5, none⟩ (.slice p2 n2 c2)) = w3 at T3 R3 A3 P3 Z3 O3 L3 ⊢
  obtain ⟨⟨b0, b1, b2, b3, b4, b5, b6⟩, -⟩ := A3.out.c7
  obtain ⟨⟨d0, d1⟩, -⟩ := P3.out.c2
  go_wp2_with (go_at_call 27; ((with_reducible refine (HCODE.out _ _ _ T3.out).mono ?_); rintro ex w4 ⟨rfl, hct⟩); have R4 := Lib.hid (CT.ref T3.out hct R3.out); have Z4 := Lib.hid (CT.ref T3.out hct Z3.out); have O4 := Lib.hid (CT.row T3.out hct O3.out); have CO := Lib.hid (CT.out hct L3.out HF.out); obtain ⟨q0, q1, q2, q3, q4, q5⟩ := Z4.out.at6.1; obtain ⟨⟨r0, r1, r2, r3, r4, r5⟩, ⟨g0, g1, g2, g3, g4, g5⟩⟩ := R4.out.at6; clear hct)
  go_ret
  obtain ⟨l', T4, L4, F4⟩ := CO.out
  exact ⟨ret_bool rfl, L', HSN.out, Bo.put T4 R4.out O4.out L4 H5.out F4⟩
set_option maxRecDepth 100000 in
set_option maxHeartbeats 2000000 in
theorem does_1 (S : Sane R L k) (hB : Bo w0 t rb R L w) {win oth x y a e : Int} (hi : I64 win) (_ho : I64 oth) : Calls Try.prog 12 #[treeP t, .pointer (some ⟨rb, 0, none⟩), .agg #[.int .i64 1, .int .i64 win, .int .i64 oth, .int .i64 x, .int .i64 y, .int .i64 a, .int .i64 e]] w fun ex w' => DoR w0 t rb R k ex w' := by
  obtain ⟨l, sv, hT, hR, hO, h4, h5, h6⟩ := hB
  obtain ⟨p, n, c, rfl⟩ := own_sl hO
  obtain ⟨L', err, S', hRef, hCode⟩ := both_raise S hi x y a e
  obtain ⟨wc, hwc⟩ : ∃ wc, wc = ((w.alloc (.cells #[.int .i64 1, .int .i64 win, .int .i64 oth, .int .i64 x, .int .i64 y, .int .i64 a, .int .i64 e] 39)).alloc (.cells #[.int .i64 x, .int .i64 y] 26)).alloc (.cells (refA R (.slice p n c)) 36) := ⟨_, rfl⟩
  have hbel : Below w.heap.size w wc := by rw [hwc]; exact (((Below.refl _ _).alloc (Nat.le_refl _) _).alloc (by simp) _).alloc (by simp; omega) _
  have B0 : Blk wc w.heap.size 39 #[.int .i64 1, .int .i64 win, .int .i64 oth, .int .i64 x, .int .i64 y, .int .i64 a, .int .i64 e] := by rw [hwc]; exact ((Blk.new w _ _).alloc _).alloc _
  have B1 : Blk wc (w.heap.size + 1) 26 #[.int .i64 x, .int .i64 y] := by
    rw [hwc]
    have := (Blk.new (w.alloc (.cells #[.int .i64 1, .int .i64 win, .int .i64 oth, .int .i64 x, .int .i64 y, .int .i64 a, .int .i64 e] 39)) 26 #[.int .i64 x, .int .i64 y]).alloc (.cells (refA R (.slice p n c)) 36)
    rwa [World.size_alloc] at this
  have B2 : Blk wc (w.heap.size + 1 + 1) 36 (refA R (.slice p n c)) := by
    rw [hwc]
    have := Blk.new ((w.alloc (.cells #[.int .i64 1, .int .i64 win, .int .i64 oth, .int .i64 x, .int .i64 y, .int .i64 a, .int .i64 e] 39)).alloc (.cells #[.int .i64 x, .int .i64 y] 26)) 36 (refA R (.slice p n c))
    rwa [World.size_alloc, World.size_alloc] at this
  have hrb : rb < w.heap.size := hR.lt
  obtain ⟨⟨i0, i1, i2, i3, i4, i5, i6⟩, -⟩ := (Blk.new w 39 #[.int .i64 1, .int .i64 win, .int .i64 oth, .int .i64 x, .int .i64 y, .int .i64 a, .int .i64 e]).c7
  obtain ⟨⟨j0, j1, j2, j3, j4, j5⟩, -⟩ := ((hR.alloc (.cells #[.int .i64 1, .int .i64 win, .int .i64 oth, .int .i64 x, .int .i64 y, .int .i64 a, .int .i64 e] 39)).alloc (.cells #[.int .i64 x, .int .i64 y] 26)).at6
  obtain ⟨⟨a0, a1, a2, a3, a4, a5, a6⟩, -⟩ := B0.c7
  have HS := Lib.hid (fun W (hW : Below wc.heap.size wc W) => (show (((W.cell? ⟨rb, 0, none⟩ = some (.int .i64 R.x) ∧ W.cell? ⟨rb, 1, none⟩ = some (.int .i64 R.y) ∧ W.cell? ⟨rb, 2, none⟩ = some (.int .i64 R.w) ∧ W.cell? ⟨rb, 3, none⟩ = some (.int .i64 R.h) ∧ W.cell? ⟨rb, 4, none⟩ = some (.int .i64 R.last) ∧ W.cell? ⟨rb, 5, none⟩ = some (.slice p n c)) ∧ W.cell? ⟨w.heap.size, 0, none⟩ = some (.int .i64 1) ∧ W.cell? ⟨w.heap.size, 1, none⟩ = some (.int .i64 win) ∧ W.cell? ⟨w.heap.size, 2, none⟩ = some (.int .i64 oth) ∧ W.cell? ⟨w.heap.size, 3, none⟩ = some (.int .i64 x) ∧ W.cell? ⟨w.heap.size, 4, none⟩ = some (.int .i64 y) ∧ W.cell? ⟨w.heap.size, 5, none⟩ = some (.int .i64 a) ∧ W.cell? ⟨w.heap.size, 6, none⟩ = some (.int .i64 e)) ∧ W.cell? ⟨w.heap.size + 1, 0, none⟩ = some (.int .i64 x) ∧ W.cell? ⟨w.heap.size + 1, 1, none⟩ = some (.int .i64 y)) from ⟨⟨((hR.next hbel).next hW).at6.1, (B0.next hW).c7.1⟩, (B1.next hW).c2.1⟩))
  have HSX := Lib.hid (fun W (hW : Below wc.heap.size wc W) (v0 v1 v2 v3 v4 v5 : Value) => (show (fun W => ((W.cell? ⟨rb, 0, none⟩ = some (.int .i64 R.x) ∧ W.cell? ⟨rb, 1, none⟩ = some (.int .i64 R.y) ∧ W.cell? ⟨rb, 2, none⟩ = some (.int .i64 R.w) ∧ W.cell? ⟨rb, 3, none⟩ = some (.int .i64 R.h) ∧ W.cell? ⟨rb, 4, none⟩ = some (.int .i64 R.last) ∧ W.cell? ⟨rb, 5, none⟩ = some (.slice p n c)) ∧ W.cell? ⟨w.heap.size, 0, none⟩ = some (.int .i64 1) ∧ W.cell? ⟨w.heap.size, 1, none⟩ = some (.int .i64 win) ∧ W.cell? ⟨w.heap.size, 2, none⟩ = some (.int .i64 oth) ∧ W.cell? ⟨w.heap.size, 3, none⟩ = some (.int .i64 x) ∧ W.cell? ⟨w.heap.size, 4, none⟩ = some (.int .i64 y) ∧ W.cell? ⟨w.heap.size, 5, none⟩ = some (.int .i64 a) ∧ W.cell? ⟨w.heap.size, 6, none⟩ = some (.int .i64 e)) ∧ W.cell? ⟨w.heap.size + 1, 0, none⟩ = some (.int .i64 x) ∧ W.cell? ⟨w.heap.size + 1, 1, none⟩ = some (.int .i64 y)) ((((((W.setCell ⟨w.heap.size + 1 + 1, 0, none⟩ v0).setCell ⟨w.heap.size + 1 + 1, 1, none⟩ v1).setCell ⟨w.heap.size + 1 + 1, 2, none⟩ v2).setCell ⟨w.heap.size + 1 + 1, 3, none⟩ v3).setCell ⟨w.heap.size + 1 + 1, 4, none⟩ v4).setCell ⟨w.heap.size + 1 + 1, 5, none⟩ v5) from
    ⟨⟨(far6 ((hR.next hbel).next hW) (by omega) v0 v1 v2 v3 v4 v5).at6.1, (far6 (B0.next hW) (by omega) v0 v1 v2 v3 v4 v5).c7.1⟩, (far6 (B1.next hW) (by omega) v0 v1 v2 v3 v4 v5).c2.1⟩))
  have HOC := Lib.hid (fun W (hW : Below wc.heap.size wc W) => (show RO W (.slice p n c) L from OwK.below (OwK.below hO hbel) hW))
  have HTC := Lib.hid (hT.next hbel)
  have HRC := Lib.hid (hR.next hbel)
  have HZ := Lib.hid B2
  have HA := Lib.hid B0
  have HP := Lib.hid B1
  have HBL := Lib.hid (hbel.on h4 h4.size)
  have HREF := Lib.hid hRef
  have HCODE := Lib.hid hCode
  have HSN := Lib.hid S'
  have HF := Lib.hid h6
  have HW := Lib.hid hwc
  have H5 := Lib.hid h5
  have hee : (err == err) = true := by simp
  clear hT hR hO h4 h5 h6 hRef hCode hbel B0 B1 B2 hwc S' S
  go_enter Try.func12, Try.ntmps12
  go_upto_region 3 with fail
  rw [← HW.out]
  clear i0 i1 i2 i3 i4 i5 i6 j0 j1 j2 j3 j4 j5
  go_wp2_with fail
  refine wp_region_noPanic ?_
  refine wp_region_held_drew (S := fun wx => ((wx.cell? ⟨rb, 0, none⟩ = some (.int .i64 R.x) ∧ wx.cell? ⟨rb, 1, none⟩ = some (.int .i64 R.y) ∧ wx.cell? ⟨rb, 2, none⟩ = some (.int .i64 R.w) ∧ wx.cell? ⟨rb, 3, none⟩ = some (.int .i64 R.h) ∧ wx.cell? ⟨rb, 4, none⟩ = some (.int .i64 R.last) ∧ wx.cell? ⟨rb, 5, none⟩ = some (.slice p n c)) ∧ wx.cell? ⟨w.heap.size, 0, none⟩ = some (.int .i64 1) ∧ wx.cell? ⟨w.heap.size, 1, none⟩ = some (.int .i64 win) ∧ wx.cell? ⟨w.heap.size, 2, none⟩ = some (.int .i64 oth) ∧ wx.cell? ⟨w.heap.size, 3, none⟩ = some (.int .i64 x) ∧ wx.cell? ⟨w.heap.size, 4, none⟩ = some (.int .i64 y) ∧ wx.cell? ⟨w.heap.size, 5, none⟩ = some (.int .i64 a) ∧ wx.cell? ⟨w.heap.size, 6, none⟩ = some (.int .i64 e)) ∧ wx.cell? ⟨w.heap.size + 1, 0, none⟩ = some (.int .i64 x) ∧ wx.cell? ⟨w.heap.size + 1, 1, none⟩ = some (.int .i64 y)) (by kernel_rfl) (by exact HS.out _ (Below.refl _ _).drew) (fun hHeld => ?_)
  refine wpAnyH_take (i := 0) (v := ?va0) rfl (by kernel_rfl) (by kernel_rfl) (by kernel_rfl) (fun _ _ _ h => h) (Or.inl ⟨by kernel_rfl, ?ya0⟩) (by assumption) ?ra0
  case ya0 => (intro wq hSw; (try dsimp only at hSw); go_simp; (try with_reducible rfl))
  (try simp only [Act.put, List.getElem_toArray, List.getElem_cons_zero, List.setIfInBounds_toArray, List.set_cons_zero, List.set_cons_succ])
  refine wpAnyH_take (i := 1) (v := ?va1) rfl (by kernel_rfl) (by kernel_rfl) (by kernel_rfl) (fun _ _ _ h => h) (Or.inl ⟨by kernel_rfl, ?ya1⟩) (by assumption) ?ra1
  case ya1 => (intro wq hSw; (try dsimp only at hSw); go_simp; (try with_reducible rfl))
  (try simp only [Act.put, List.getElem_toArray, List.getElem_cons_succ, List.getElem_cons_zero, List.setIfInBounds_toArray, List.set_cons_zero, List.set_cons_succ])
  refine wpAnyH_take (i := 2) (v := ?va2) rfl (by kernel_rfl) (by kernel_rfl) (by kernel_rfl) (fun _ _ _ h => h) (Or.inl ⟨by kernel_rfl, ?ya2⟩) (by assumption) ?ra2
  case ya2 => (intro wq hSw; (try dsimp only at hSw); go_simp; (try with_reducible rfl))
  (try simp only [Act.put, List.getElem_toArray, List.getElem_cons_succ, List.getElem_cons_zero, List.setIfInBounds_toArray, List.set_cons_zero, List.set_cons_succ])
  refine wpAnyH_take (i := 3) (v := ?va3) rfl (by kernel_rfl) (by kernel_rfl) (by kernel_rfl) (fun _ _ _ h => h) (Or.inl ⟨by kernel_rfl, ?ya3⟩) (by assumption) ?ra3
  case ya3 => (intro wq hSw; (try dsimp only at hSw); go_simp; (try with_reducible rfl))
  (try simp only [Act.put, List.getElem_toArray, List.getElem_cons_succ, List.getElem_cons_zero, List.setIfInBounds_toArray, List.set_cons_zero, List.set_cons_succ])
  refine wpAnyH_take (i := 4) (v := ?va4) rfl (by kernel_rfl) (by kernel_rfl) (by kernel_rfl) (fun _ _ _ h => h) (Or.inl ⟨by kernel_rfl, ?ya4⟩) (by assumption) ?ra4
  case ya4 => (intro wq hSw; (try dsimp only at hSw); go_simp; (try with_reducible rfl))
  (try simp only [Act.put, List.getElem_toArray, List.getElem_cons_succ, List.getElem_cons_zero, List.setIfInBounds_toArray, List.set_cons_zero, List.set_cons_succ])
  refine wpAnyH_take (i := 5) (v := ?va5) rfl (by kernel_rfl) (by kernel_rfl) (by kernel_rfl) (fun _ _ _ h => h) (Or.inl ⟨by kernel_rfl, ?ya5⟩) (by assumption) ?ra5
  case ya5 => (intro wq hSw; (try dsimp only at hSw); go_simp; (try with_reducible rfl))
  (try simp only [Act.put, List.getElem_toArray, List.getElem_cons_succ, List.getElem_cons_zero, List.setIfInBounds_toArray, List.set_cons_zero, List.set_cons_succ])
  refine wpAnyH_take (i := 6) (v := ?va6) rfl (by kernel_rfl) (by kernel_rfl) (by kernel_rfl) (fun _ _ _ h => h) (Or.inl ⟨by kernel_rfl, ?ya6⟩) (by assumption) ?ra6
  case ya6 => (intro wq hSw; (try dsimp only at hSw); go_simp; (try with_reducible rfl))
  (try simp only [Act.put, List.getElem_toArray, List.getElem_cons_succ, List.getElem_cons_zero, List.setIfInBounds_toArray, List.set_cons_zero, List.set_cons_succ])
  refine wpAnyH_ready (rs := [7]) (by kernel_rfl) (by simp) ?_
  refine AllReadyH.cons rfl (fun K hK => ?_) AllReadyH.nil
  go_simp
  refine (HREF.out _ _ (HOC.out _ (Below.refl wc.heap.size wc).drew)).mono ?_
  rintro ex w2 ⟨sv2, rfl, ho2, hb0⟩; have hb2 : Below wc.heap.size wc w2 := ((Below.refl _ wc).drew).trans hb0; obtain ⟨p2, n2, c2, rfl⟩ := own_sl ho2; have HO2 := Lib.hid ho2; have HB2 := Lib.hid hb2; clear ho2 hb0 hb2
  (try dsimp only)
  refine hK.out _ _ (by exact HS.out _ HB2.out) (fun hHeld => ?_)
  clear hK K
  (try simp only [Act.put, List.getElem_toArray, List.getElem_cons_succ, List.getElem_cons_zero, List.setIfInBounds_toArray, List.set_cons_zero, List.set_cons_succ])
  refine wpAnyH_take (i := 8) (v := ?va8) rfl (by kernel_rfl) (by kernel_rfl) (by kernel_rfl) (fun _ _ _ h => h) (Or.inl ⟨by kernel_rfl, ?ya8⟩) (by assumption) ?ra8
  case ya8 => (intro wq hSw; (try dsimp only at hSw); go_simp; (try with_reducible rfl))
  (try simp only [Act.put, List.getElem_toArray, List.getElem_cons_succ, List.getElem_cons_zero, List.setIfInBounds_toArray, List.set_cons_zero, List.set_cons_succ])
  refine wpAnyH_take (i := 9) (v := ?va9) rfl (by kernel_rfl) (by kernel_rfl) (by kernel_rfl) (fun _ _ _ h => h) (Or.inl ⟨by kernel_rfl, ?ya9⟩) (by assumption) ?ra9
  case ya9 => (intro wq hSw; (try dsimp only at hSw); go_simp; (try with_reducible rfl))
  (try simp only [Act.put, List.getElem_toArray, List.getElem_cons_succ, List.getElem_cons_zero, List.setIfInBounds_toArray, List.set_cons_zero, List.set_cons_succ])
  refine wpAnyH_take (i := 10) (v := ?va10) rfl (by kernel_rfl) (by kernel_rfl) (by kernel_rfl) (fun _ _ _ h => h) (Or.inl ⟨by kernel_rfl, ?ya10⟩) (by assumption) ?ra10
  case ya10 => (intro wq hSw; (try dsimp only at hSw); go_simp; (try with_reducible rfl))
  (try simp only [Act.put, List.getElem_toArray, List.getElem_cons_succ, List.getElem_cons_zero, List.setIfInBounds_toArray, List.set_cons_zero, List.set_cons_succ])
  obtain ⟨⟨z0, z1, z2, z3, z4, z5⟩, ⟨f0, f1, f2, f3, f4, f5⟩⟩ := (HZ.out.next HB2.out).at6
  refine wpAnyH_ready (rs := [11]) (by kernel_rfl) (by simp) ?_
  refine AllReadyH.cons rfl (fun K hK => ?_) AllReadyH.nil
  go_simp
  refine hK.out _ _ (by exact HSX.out _ HB2.out _ _ _ _ _ _) (fun hHeld => ?_)
  clear hK K
  (try simp only [Act.put, List.getElem_toArray, List.getElem_cons_succ, List.getElem_cons_zero, List.setIfInBounds_toArray, List.set_cons_zero, List.set_cons_succ])
  refine wpAnyH_take (i := 12) (v := ?va12) rfl (by kernel_rfl) (by kernel_rfl) (by kernel_rfl) (fun _ _ _ h => h) (Or.inl ⟨by kernel_rfl, ?ya12⟩) (by assumption) ?ra12
  case ya12 => (intro wq hSw; (try dsimp only at hSw); go_simp; (try with_reducible rfl))
  (try simp only [Act.put, List.getElem_toArray, List.getElem_cons_succ, List.getElem_cons_zero, List.setIfInBounds_toArray, List.set_cons_zero, List.set_cons_succ])
  refine wpAnyH_done (by kernel_rfl) ?_ _
  refine NoPanic.normal ?_
  clear z0 z1 z2 z3 z4 z5 f0 f1 f2 f3 f4 f5
  have T3 := Lib.hid (tree6 (HTC.out.next HB2.out) (HZ.out.next HB2.out) (.int .i64 R.x) (.int .i64 R.y) (.int .i64 R.w) (.int .i64 R.h) (.int .i64 R.last) (.slice p2 n2 c2))
  have R3 := Lib.hid (far6 (HRC.out.next HB2.out) (show rb ≠ w.heap.size + 1 + 1 by omega) (.int .i64 R.x) (.int .i64 R.y) (.int .i64 R.w) (.int .i64 R.h) (.int .i64 R.last) (.slice p2 n2 c2))
  have A3 := Lib.hid (far6 (HA.out.next HB2.out) (show w.heap.size ≠ w.heap.size + 1 + 1 by omega) (.int .i64 R.x) (.int .i64 R.y) (.int .i64 R.w) (.int .i64 R.h) (.int .i64 R.last) (.slice p2 n2 c2))
  have P3 := Lib.hid (far6 (HP.out.next HB2.out) (show w.heap.size + 1 ≠ w.heap.size + 1 + 1 by omega) (.int .i64 R.x) (.int .i64 R.y) (.int .i64 R.w) (.int .i64 R.h) (.int .i64 R.last) (.slice p2 n2 c2))
  have Z3 := Lib.hid (put6 (HZ.out.next HB2.out) (.int .i64 R.x) (.int .i64 R.y) (.int .i64 R.w) (.int .i64 R.h) (.int .i64 R.last) (.slice p2 n2 c2))
  have O3 := Lib.hid (rows6 HO2.out (HZ.out.next HB2.out) (.int .i64 R.x) (.int .i64 R.y) (.int .i64 R.w) (.int .i64 R.h) (.int .i64 R.last) (.slice p2 n2 c2))
  have L3 := Lib.hid (set6 (HB2.out.on HBL.out HBL.out.size) (show w0.heap.size ≤ w.heap.size + 1 + 1 by have := H5.out; omega) (.int .i64 R.x) (.int .i64 R.y) (.int .i64 R.w) (.int .i64 R.h) (.int .i64 R.last) (.slice p2 n2 c2))
  generalize ((((((w2.setCell ⟨w.heap.size + 1 + 1, 0, none⟩ (.int .i64 R.x)).setCell ⟨w.heap.size + 1 + 1, 1, none⟩ (.int .i64 R.y)).setCell ⟨w.heap.size + 1 + 1, 2, none⟩ (.int .i64 R.w)).setCell ⟨w.heap.size + 1 + 1, 3, none⟩ (.int .i64 R.h)).setCell ⟨w.heap.size + 1 + 1, 4, none⟩ (.int .i64 R.last)).setCell ⟨w.heap.size + 1 + 1, 5, none⟩ (.slice p2 n2 c2)) = w3 at T3 R3 A3 P3 Z3 O3 L3 ⊢
  obtain ⟨⟨b0, b1, b2, b3, b4, b5, b6⟩, -⟩ := A3.out.c7
  obtain ⟨⟨d0, d1⟩, -⟩ := P3.out.c2
  go_wp2_with (go_at_call 25; ((with_reducible refine (HCODE.out _ _ _ T3.out).mono ?_); rintro ex w4 ⟨rfl, hct⟩); have R4 := Lib.hid (CT.ref T3.out hct R3.out); have Z4 := Lib.hid (CT.ref T3.out hct Z3.out); have O4 := Lib.hid (CT.row T3.out hct O3.out); have CO := Lib.hid (CT.out hct L3.out HF.out); obtain ⟨q0, q1, q2, q3, q4, q5⟩ := Z4.out.at6.1; obtain ⟨⟨r0, r1, r2, r3, r4, r5⟩, ⟨g0, g1, g2, g3, g4, g5⟩⟩ := R4.out.at6; clear hct)
  go_ret
  obtain ⟨l', T4, L4, F4⟩ := CO.out
  exact ⟨ret_bool rfl, L', HSN.out, Bo.put T4 R4.out O4.out L4 H5.out F4⟩
set_option maxRecDepth 100000 in
set_option maxHeartbeats 2000000 in
theorem does_2 (S : Sane R L k) (hB : Bo w0 t rb R L w) {win oth x y a e : Int} (hi : I64 win) (_ho : I64 oth) : Calls Try.prog 12 #[treeP t, .pointer (some ⟨rb, 0, none⟩), .agg #[.int .i64 2, .int .i64 win, .int .i64 oth, .int .i64 x, .int .i64 y, .int .i64 a, .int .i64 e]] w fun ex w' => DoR w0 t rb R k ex w' := by
  obtain ⟨l, sv, hT, hR, hO, h4, h5, h6⟩ := hB
  obtain ⟨p, n, c, rfl⟩ := own_sl hO
  obtain ⟨L', err, S', hRef, hCode⟩ := both_lower S hi x y a e
  obtain ⟨wc, hwc⟩ : ∃ wc, wc = ((w.alloc (.cells #[.int .i64 2, .int .i64 win, .int .i64 oth, .int .i64 x, .int .i64 y, .int .i64 a, .int .i64 e] 39)).alloc (.cells #[.int .i64 x, .int .i64 y] 26)).alloc (.cells (refA R (.slice p n c)) 36) := ⟨_, rfl⟩
  have hbel : Below w.heap.size w wc := by rw [hwc]; exact (((Below.refl _ _).alloc (Nat.le_refl _) _).alloc (by simp) _).alloc (by simp; omega) _
  have B0 : Blk wc w.heap.size 39 #[.int .i64 2, .int .i64 win, .int .i64 oth, .int .i64 x, .int .i64 y, .int .i64 a, .int .i64 e] := by rw [hwc]; exact ((Blk.new w _ _).alloc _).alloc _
  have B1 : Blk wc (w.heap.size + 1) 26 #[.int .i64 x, .int .i64 y] := by
    rw [hwc]
    have := (Blk.new (w.alloc (.cells #[.int .i64 2, .int .i64 win, .int .i64 oth, .int .i64 x, .int .i64 y, .int .i64 a, .int .i64 e] 39)) 26 #[.int .i64 x, .int .i64 y]).alloc (.cells (refA R (.slice p n c)) 36)
    rwa [World.size_alloc] at this
  have B2 : Blk wc (w.heap.size + 1 + 1) 36 (refA R (.slice p n c)) := by
    rw [hwc]
    have := Blk.new ((w.alloc (.cells #[.int .i64 2, .int .i64 win, .int .i64 oth, .int .i64 x, .int .i64 y, .int .i64 a, .int .i64 e] 39)).alloc (.cells #[.int .i64 x, .int .i64 y] 26)) 36 (refA R (.slice p n c))
    rwa [World.size_alloc, World.size_alloc] at this
  have hrb : rb < w.heap.size := hR.lt
  obtain ⟨⟨i0, i1, i2, i3, i4, i5, i6⟩, -⟩ := (Blk.new w 39 #[.int .i64 2, .int .i64 win, .int .i64 oth, .int .i64 x, .int .i64 y, .int .i64 a, .int .i64 e]).c7
  obtain ⟨⟨j0, j1, j2, j3, j4, j5⟩, -⟩ := ((hR.alloc (.cells #[.int .i64 2, .int .i64 win, .int .i64 oth, .int .i64 x, .int .i64 y, .int .i64 a, .int .i64 e] 39)).alloc (.cells #[.int .i64 x, .int .i64 y] 26)).at6
  obtain ⟨⟨a0, a1, a2, a3, a4, a5, a6⟩, -⟩ := B0.c7
  have HS := Lib.hid (fun W (hW : Below wc.heap.size wc W) => (show (((W.cell? ⟨rb, 0, none⟩ = some (.int .i64 R.x) ∧ W.cell? ⟨rb, 1, none⟩ = some (.int .i64 R.y) ∧ W.cell? ⟨rb, 2, none⟩ = some (.int .i64 R.w) ∧ W.cell? ⟨rb, 3, none⟩ = some (.int .i64 R.h) ∧ W.cell? ⟨rb, 4, none⟩ = some (.int .i64 R.last) ∧ W.cell? ⟨rb, 5, none⟩ = some (.slice p n c)) ∧ W.cell? ⟨w.heap.size, 0, none⟩ = some (.int .i64 2) ∧ W.cell? ⟨w.heap.size, 1, none⟩ = some (.int .i64 win) ∧ W.cell? ⟨w.heap.size, 2, none⟩ = some (.int .i64 oth) ∧ W.cell? ⟨w.heap.size, 3, none⟩ = some (.int .i64 x) ∧ W.cell? ⟨w.heap.size, 4, none⟩ = some (.int .i64 y) ∧ W.cell? ⟨w.heap.size, 5, none⟩ = some (.int .i64 a) ∧ W.cell? ⟨w.heap.size, 6, none⟩ = some (.int .i64 e)) ∧ W.cell? ⟨w.heap.size + 1, 0, none⟩ = some (.int .i64 x) ∧ W.cell? ⟨w.heap.size + 1, 1, none⟩ = some (.int .i64 y)) from ⟨⟨((hR.next hbel).next hW).at6.1, (B0.next hW).c7.1⟩, (B1.next hW).c2.1⟩))
  have HSX := Lib.hid (fun W (hW : Below wc.heap.size wc W) (v0 v1 v2 v3 v4 v5 : Value) => (show (fun W => ((W.cell? ⟨rb, 0, none⟩ = some (.int .i64 R.x) ∧ W.cell? ⟨rb, 1, none⟩ = some (.int .i64 R.y) ∧ W.cell? ⟨rb, 2, none⟩ = some (.int .i64 R.w) ∧ W.cell? ⟨rb, 3, none⟩ = some (.int .i64 R.h) ∧ W.cell? ⟨rb, 4, none⟩ = some (.int .i64 R.last) ∧ W.cell? ⟨rb, 5, none⟩ = some (.slice p n c)) ∧ W.cell? ⟨w.heap.size, 0, none⟩ = some (.int .i64 2) ∧ W.cell? ⟨w.heap.size, 1, none⟩ = some (.int .i64 win) ∧ W.cell? ⟨w.heap.size, 2, none⟩ = some (.int .i64 oth) ∧ W.cell? ⟨w.heap.size, 3, none⟩ = some (.int .i64 x) ∧ W.cell? ⟨w.heap.size, 4, none⟩ = some (.int .i64 y) ∧ W.cell? ⟨w.heap.size, 5, none⟩ = some (.int .i64 a) ∧ W.cell? ⟨w.heap.size, 6, none⟩ = some (.int .i64 e)) ∧ W.cell? ⟨w.heap.size + 1, 0, none⟩ = some (.int .i64 x) ∧ W.cell? ⟨w.heap.size + 1, 1, none⟩ = some (.int .i64 y)) ((((((W.setCell ⟨w.heap.size + 1 + 1, 0, none⟩ v0).setCell ⟨w.heap.size + 1 + 1, 1, none⟩ v1).setCell ⟨w.heap.size + 1 + 1, 2, none⟩ v2).setCell ⟨w.heap.size + 1 + 1, 3, none⟩ v3).setCell ⟨w.heap.size + 1 + 1, 4, none⟩ v4).setCell ⟨w.heap.size + 1 + 1, 5, none⟩ v5) from
    ⟨⟨(far6 ((hR.next hbel).next hW) (by omega) v0 v1 v2 v3 v4 v5).at6.1, (far6 (B0.next hW) (by omega) v0 v1 v2 v3 v4 v5).c7.1⟩, (far6 (B1.next hW) (by omega) v0 v1 v2 v3 v4 v5).c2.1⟩))
  have HOC := Lib.hid (fun W (hW : Below wc.heap.size wc W) => (show RO W (.slice p n c) L from OwK.below (OwK.below hO hbel) hW))
  have HTC := Lib.hid (hT.next hbel)
  have HRC := Lib.hid (hR.next hbel)
  have HZ := Lib.hid B2
  have HA := Lib.hid B0
  have HP := Lib.hid B1
  have HBL := Lib.hid (hbel.on h4 h4.size)
  have HREF := Lib.hid hRef
  have HCODE := Lib.hid hCode
  have HSN := Lib.hid S'
  have HF := Lib.hid h6
  have HW := Lib.hid hwc
  have H5 := Lib.hid h5
  have hee : (err == err) = true := by simp
  clear hT hR hO h4 h5 h6 hRef hCode hbel B0 B1 B2 hwc S' S
  go_enter Try.func12, Try.ntmps12
  go_upto_region 3 with fail
  rw [← HW.out]
  clear i0 i1 i2 i3 i4 i5 i6 j0 j1 j2 j3 j4 j5
  go_wp2_with fail
  refine wp_region_noPanic ?_
  refine wp_region_held_drew (S := fun wx => ((wx.cell? ⟨rb, 0, none⟩ = some (.int .i64 R.x) ∧ wx.cell? ⟨rb, 1, none⟩ = some (.int .i64 R.y) ∧ wx.cell? ⟨rb, 2, none⟩ = some (.int .i64 R.w) ∧ wx.cell? ⟨rb, 3, none⟩ = some (.int .i64 R.h) ∧ wx.cell? ⟨rb, 4, none⟩ = some (.int .i64 R.last) ∧ wx.cell? ⟨rb, 5, none⟩ = some (.slice p n c)) ∧ wx.cell? ⟨w.heap.size, 0, none⟩ = some (.int .i64 2) ∧ wx.cell? ⟨w.heap.size, 1, none⟩ = some (.int .i64 win) ∧ wx.cell? ⟨w.heap.size, 2, none⟩ = some (.int .i64 oth) ∧ wx.cell? ⟨w.heap.size, 3, none⟩ = some (.int .i64 x) ∧ wx.cell? ⟨w.heap.size, 4, none⟩ = some (.int .i64 y) ∧ wx.cell? ⟨w.heap.size, 5, none⟩ = some (.int .i64 a) ∧ wx.cell? ⟨w.heap.size, 6, none⟩ = some (.int .i64 e)) ∧ wx.cell? ⟨w.heap.size + 1, 0, none⟩ = some (.int .i64 x) ∧ wx.cell? ⟨w.heap.size + 1, 1, none⟩ = some (.int .i64 y)) (by kernel_rfl) (by exact HS.out _ (Below.refl _ _).drew) (fun hHeld => ?_)
  refine wpAnyH_take (i := 0) (v := ?va0) rfl (by kernel_rfl) (by kernel_rfl) (by kernel_rfl) (fun _ _ _ h => h) (Or.inl ⟨by kernel_rfl, ?ya0⟩) (by assumption) ?ra0
  case ya0 => (intro wq hSw; (try dsimp only at hSw); go_simp; (try with_reducible rfl))
  (try simp only [Act.put, List.getElem_toArray, List.getElem_cons_zero, List.setIfInBounds_toArray, List.set_cons_zero, List.set_cons_succ])
  refine wpAnyH_take (i := 1) (v := ?va1) rfl (by kernel_rfl) (by kernel_rfl) (by kernel_rfl) (fun _ _ _ h => h) (Or.inl ⟨by kernel_rfl, ?ya1⟩) (by assumption) ?ra1
  case ya1 => (intro wq hSw; (try dsimp only at hSw); go_simp; (try with_reducible rfl))
  (try simp only [Act.put, List.getElem_toArray, List.getElem_cons_succ, List.getElem_cons_zero, List.setIfInBounds_toArray, List.set_cons_zero, List.set_cons_succ])
  refine wpAnyH_take (i := 2) (v := ?va2) rfl (by kernel_rfl) (by kernel_rfl) (by kernel_rfl) (fun _ _ _ h => h) (Or.inl ⟨by kernel_rfl, ?ya2⟩) (by assumption) ?ra2
  case ya2 => (intro wq hSw; (try dsimp only at hSw); go_simp; (try with_reducible rfl))
  (try simp only [Act.put, List.getElem_toArray, List.getElem_cons_succ, List.getElem_cons_zero, List.setIfInBounds_toArray, List.set_cons_zero, List.set_cons_succ])
  refine wpAnyH_take (i := 3) (v := ?va3) rfl (by kernel_rfl) (by kernel_rfl) (by kernel_rfl) (fun _ _ _ h => h) (Or.inl ⟨by kernel_rfl, ?ya3⟩) (by assumption) ?ra3
  case ya3 => (intro wq hSw; (try dsimp only at hSw); go_simp; (try with_reducible rfl))
  (try simp only [Act.put, List.getElem_toArray, List.getElem_cons_succ, List.getElem_cons_zero, List.setIfInBounds_toArray, List.set_cons_zero, List.set_cons_succ])
  refine wpAnyH_take (i := 4) (v := ?va4) rfl (by kernel_rfl) (by kernel_rfl) (by kernel_rfl) (fun _ _ _ h => h) (Or.inl ⟨by kernel_rfl, ?ya4⟩) (by assumption) ?ra4
  case ya4 => (intro wq hSw; (try dsimp only at hSw); go_simp; (try with_reducible rfl))
  (try simp only [Act.put, List.getElem_toArray, List.getElem_cons_succ, List.getElem_cons_zero, List.setIfInBounds_toArray, List.set_cons_zero, List.set_cons_succ])
  refine wpAnyH_take (i := 5) (v := ?va5) rfl (by kernel_rfl) (by kernel_rfl) (by kernel_rfl) (fun _ _ _ h => h) (Or.inl ⟨by kernel_rfl, ?ya5⟩) (by assumption) ?ra5
  case ya5 => (intro wq hSw; (try dsimp only at hSw); go_simp; (try with_reducible rfl))
  (try simp only [Act.put, List.getElem_toArray, List.getElem_cons_succ, List.getElem_cons_zero, List.setIfInBounds_toArray, List.set_cons_zero, List.set_cons_succ])
  refine wpAnyH_take (i := 6) (v := ?va6) rfl (by kernel_rfl) (by kernel_rfl) (by kernel_rfl) (fun _ _ _ h => h) (Or.inl ⟨by kernel_rfl, ?ya6⟩) (by assumption) ?ra6
  case ya6 => (intro wq hSw; (try dsimp only at hSw); go_simp; (try with_reducible rfl))
  (try simp only [Act.put, List.getElem_toArray, List.getElem_cons_succ, List.getElem_cons_zero, List.setIfInBounds_toArray, List.set_cons_zero, List.set_cons_succ])
  refine wpAnyH_ready (rs := [7]) (by kernel_rfl) (by simp) ?_
  refine AllReadyH.cons rfl (fun K hK => ?_) AllReadyH.nil
  go_simp
  refine (HREF.out _ _ (HOC.out _ (Below.refl wc.heap.size wc).drew)).mono ?_
  rintro ex w2 ⟨sv2, rfl, ho2, hb0⟩; have hb2 : Below wc.heap.size wc w2 := ((Below.refl _ wc).drew).trans hb0; obtain ⟨p2, n2, c2, rfl⟩ := own_sl ho2; have HO2 := Lib.hid ho2; have HB2 := Lib.hid hb2; clear ho2 hb0 hb2
  (try dsimp only)
  refine hK.out _ _ (by exact HS.out _ HB2.out) (fun hHeld => ?_)
  clear hK K
  (try simp only [Act.put, List.getElem_toArray, List.getElem_cons_succ, List.getElem_cons_zero, List.setIfInBounds_toArray, List.set_cons_zero, List.set_cons_succ])
  refine wpAnyH_take (i := 8) (v := ?va8) rfl (by kernel_rfl) (by kernel_rfl) (by kernel_rfl) (fun _ _ _ h => h) (Or.inl ⟨by kernel_rfl, ?ya8⟩) (by assumption) ?ra8
  case ya8 => (intro wq hSw; (try dsimp only at hSw); go_simp; (try with_reducible rfl))
  (try simp only [Act.put, List.getElem_toArray, List.getElem_cons_succ, List.getElem_cons_zero, List.setIfInBounds_toArray, List.set_cons_zero, List.set_cons_succ])
  refine wpAnyH_take (i := 9) (v := ?va9) rfl (by kernel_rfl) (by kernel_rfl) (by kernel_rfl) (fun _ _ _ h => h) (Or.inl ⟨by kernel_rfl, ?ya9⟩) (by assumption) ?ra9
  case ya9 => (intro wq hSw; (try dsimp only at hSw); go_simp; (try with_reducible rfl))
  (try simp only [Act.put, List.getElem_toArray, List.getElem_cons_succ, List.getElem_cons_zero, List.setIfInBounds_toArray, List.set_cons_zero, List.set_cons_succ])
  refine wpAnyH_take (i := 10) (v := ?va10) rfl (by kernel_rfl) (by kernel_rfl) (by kernel_rfl) (fun _ _ _ h => h) (Or.inl ⟨by kernel_rfl, ?ya10⟩) (by assumption) ?ra10
  case ya10 => (intro wq hSw; (try dsimp only at hSw); go_simp; (try with_reducible rfl))
  (try simp only [Act.put, List.getElem_toArray, List.getElem_cons_succ, List.getElem_cons_zero, List.setIfInBounds_toArray, List.set_cons_zero, List.set_cons_succ])
  obtain ⟨⟨z0, z1, z2, z3, z4, z5⟩, ⟨f0, f1, f2, f3, f4, f5⟩⟩ := (HZ.out.next HB2.out).at6
  refine wpAnyH_ready (rs := [11]) (by kernel_rfl) (by simp) ?_
  refine AllReadyH.cons rfl (fun K hK => ?_) AllReadyH.nil
  go_simp
  refine hK.out _ _ (by exact HSX.out _ HB2.out _ _ _ _ _ _) (fun hHeld => ?_)
  clear hK K
  (try simp only [Act.put, List.getElem_toArray, List.getElem_cons_succ, List.getElem_cons_zero, List.setIfInBounds_toArray, List.set_cons_zero, List.set_cons_succ])
  refine wpAnyH_take (i := 12) (v := ?va12) rfl (by kernel_rfl) (by kernel_rfl) (by kernel_rfl) (fun _ _ _ h => h) (Or.inl ⟨by kernel_rfl, ?ya12⟩) (by assumption) ?ra12
  case ya12 => (intro wq hSw; (try dsimp only at hSw); go_simp; (try with_reducible rfl))
  (try simp only [Act.put, List.getElem_toArray, List.getElem_cons_succ, List.getElem_cons_zero, List.setIfInBounds_toArray, List.set_cons_zero, List.set_cons_succ])
  refine wpAnyH_done (by kernel_rfl) ?_ _
  refine NoPanic.normal ?_
  clear z0 z1 z2 z3 z4 z5 f0 f1 f2 f3 f4 f5
  have T3 := Lib.hid (tree6 (HTC.out.next HB2.out) (HZ.out.next HB2.out) (.int .i64 R.x) (.int .i64 R.y) (.int .i64 R.w) (.int .i64 R.h) (.int .i64 R.last) (.slice p2 n2 c2))
  have R3 := Lib.hid (far6 (HRC.out.next HB2.out) (show rb ≠ w.heap.size + 1 + 1 by omega) (.int .i64 R.x) (.int .i64 R.y) (.int .i64 R.w) (.int .i64 R.h) (.int .i64 R.last) (.slice p2 n2 c2))
  have A3 := Lib.hid (far6 (HA.out.next HB2.out) (show w.heap.size ≠ w.heap.size + 1 + 1 by omega) (.int .i64 R.x) (.int .i64 R.y) (.int .i64 R.w) (.int .i64 R.h) (.int .i64 R.last) (.slice p2 n2 c2))
  have P3 := Lib.hid (far6 (HP.out.next HB2.out) (show w.heap.size + 1 ≠ w.heap.size + 1 + 1 by omega) (.int .i64 R.x) (.int .i64 R.y) (.int .i64 R.w) (.int .i64 R.h) (.int .i64 R.last) (.slice p2 n2 c2))
  have Z3 := Lib.hid (put6 (HZ.out.next HB2.out) (.int .i64 R.x) (.int .i64 R.y) (.int .i64 R.w) (.int .i64 R.h) (.int .i64 R.last) (.slice p2 n2 c2))
  have O3 := Lib.hid (rows6 HO2.out (HZ.out.next HB2.out) (.int .i64 R.x) (.int .i64 R.y) (.int .i64 R.w) (.int .i64 R.h) (.int .i64 R.last) (.slice p2 n2 c2))
  have L3 := Lib.hid (set6 (HB2.out.on HBL.out HBL.out.size) (show w0.heap.size ≤ w.heap.size + 1 + 1 by have := H5.out; omega) (.int .i64 R.x) (.int .i64 R.y) (.int .i64 R.w) (.int .i64 R.h) (.int .i64 R.last) (.slice p2 n2 c2))
  generalize ((((((w2.setCell ⟨w.heap.size + 1 + 1, 0, none⟩ (.int .i64 R.x)).setCell ⟨w.heap.size + 1 + 1, 1, none⟩ (.int .i64 R.y)).setCell ⟨w.heap.size + 1 + 1, 2, none⟩ (.int .i64 R.w)).setCell ⟨w.heap.size + 1 + 1, 3, none⟩ (.int .i64 R.h)).setCell ⟨w.heap.size + 1 + 1, 4, none⟩ (.int .i64 R.last)).setCell ⟨w.heap.size + 1 + 1, 5, none⟩ (.slice p2 n2 c2)) = w3 at T3 R3 A3 P3 Z3 O3 L3 ⊢
  obtain ⟨⟨b0, b1, b2, b3, b4, b5, b6⟩, -⟩ := A3.out.c7
  obtain ⟨⟨d0, d1⟩, -⟩ := P3.out.c2
  go_wp2_with (go_at_call 28; ((with_reducible refine (HCODE.out _ _ _ T3.out).mono ?_); rintro ex w4 ⟨rfl, hct⟩); have R4 := Lib.hid (CT.ref T3.out hct R3.out); have Z4 := Lib.hid (CT.ref T3.out hct Z3.out); have O4 := Lib.hid (CT.row T3.out hct O3.out); have CO := Lib.hid (CT.out hct L3.out HF.out); obtain ⟨q0, q1, q2, q3, q4, q5⟩ := Z4.out.at6.1; obtain ⟨⟨r0, r1, r2, r3, r4, r5⟩, ⟨g0, g1, g2, g3, g4, g5⟩⟩ := R4.out.at6; clear hct)
  go_ret
  obtain ⟨l', T4, L4, F4⟩ := CO.out
  exact ⟨ret_bool rfl, L', HSN.out, Bo.put T4 R4.out O4.out L4 H5.out F4⟩
set_option maxRecDepth 100000 in
set_option maxHeartbeats 2000000 in
theorem does_3 (S : Sane R L k) (hB : Bo w0 t rb R L w) {win oth x y a e : Int} (hi : I64 win) (_ho : I64 oth) : Calls Try.prog 12 #[treeP t, .pointer (some ⟨rb, 0, none⟩), .agg #[.int .i64 3, .int .i64 win, .int .i64 oth, .int .i64 x, .int .i64 y, .int .i64 a, .int .i64 e]] w fun ex w' => DoR w0 t rb R k ex w' := by
  obtain ⟨l, sv, hT, hR, hO, h4, h5, h6⟩ := hB
  obtain ⟨p, n, c, rfl⟩ := own_sl hO
  obtain ⟨L', err, S', hRef, hCode⟩ : ∃ L' err, Sane R L' k ∧ RefC 3 win x y a e R L L' err ∧ ∀ (W : World) (t : Nat) (l : Lay), TB W t l R L → Calls Try.prog 29 #[treeP t, .int .i64 win, .bool true] W fun ex w' => ex = .returned (.int .i64 err) ∧ CT R L' t l W w' := both_map S hi true x y a e
  obtain ⟨wc, hwc⟩ : ∃ wc, wc = ((w.alloc (.cells #[.int .i64 3, .int .i64 win, .int .i64 oth, .int .i64 x, .int .i64 y, .int .i64 a, .int .i64 e] 39)).alloc (.cells #[.int .i64 x, .int .i64 y] 26)).alloc (.cells (refA R (.slice p n c)) 36) := ⟨_, rfl⟩
  have hbel : Below w.heap.size w wc := by rw [hwc]; exact (((Below.refl _ _).alloc (Nat.le_refl _) _).alloc (by simp) _).alloc (by simp; omega) _
  have B0 : Blk wc w.heap.size 39 #[.int .i64 3, .int .i64 win, .int .i64 oth, .int .i64 x, .int .i64 y, .int .i64 a, .int .i64 e] := by rw [hwc]; exact ((Blk.new w _ _).alloc _).alloc _
  have B1 : Blk wc (w.heap.size + 1) 26 #[.int .i64 x, .int .i64 y] := by
    rw [hwc]
    have := (Blk.new (w.alloc (.cells #[.int .i64 3, .int .i64 win, .int .i64 oth, .int .i64 x, .int .i64 y, .int .i64 a, .int .i64 e] 39)) 26 #[.int .i64 x, .int .i64 y]).alloc (.cells (refA R (.slice p n c)) 36)
    rwa [World.size_alloc] at this
  have B2 : Blk wc (w.heap.size + 1 + 1) 36 (refA R (.slice p n c)) := by
    rw [hwc]
    have := Blk.new ((w.alloc (.cells #[.int .i64 3, .int .i64 win, .int .i64 oth, .int .i64 x, .int .i64 y, .int .i64 a, .int .i64 e] 39)).alloc (.cells #[.int .i64 x, .int .i64 y] 26)) 36 (refA R (.slice p n c))
    rwa [World.size_alloc, World.size_alloc] at this
  have hrb : rb < w.heap.size := hR.lt
  obtain ⟨⟨i0, i1, i2, i3, i4, i5, i6⟩, -⟩ := (Blk.new w 39 #[.int .i64 3, .int .i64 win, .int .i64 oth, .int .i64 x, .int .i64 y, .int .i64 a, .int .i64 e]).c7
  obtain ⟨⟨j0, j1, j2, j3, j4, j5⟩, -⟩ := ((hR.alloc (.cells #[.int .i64 3, .int .i64 win, .int .i64 oth, .int .i64 x, .int .i64 y, .int .i64 a, .int .i64 e] 39)).alloc (.cells #[.int .i64 x, .int .i64 y] 26)).at6
  obtain ⟨⟨a0, a1, a2, a3, a4, a5, a6⟩, -⟩ := B0.c7
  have HS := Lib.hid (fun W (hW : Below wc.heap.size wc W) => (show (((W.cell? ⟨rb, 0, none⟩ = some (.int .i64 R.x) ∧ W.cell? ⟨rb, 1, none⟩ = some (.int .i64 R.y) ∧ W.cell? ⟨rb, 2, none⟩ = some (.int .i64 R.w) ∧ W.cell? ⟨rb, 3, none⟩ = some (.int .i64 R.h) ∧ W.cell? ⟨rb, 4, none⟩ = some (.int .i64 R.last) ∧ W.cell? ⟨rb, 5, none⟩ = some (.slice p n c)) ∧ W.cell? ⟨w.heap.size, 0, none⟩ = some (.int .i64 3) ∧ W.cell? ⟨w.heap.size, 1, none⟩ = some (.int .i64 win) ∧ W.cell? ⟨w.heap.size, 2, none⟩ = some (.int .i64 oth) ∧ W.cell? ⟨w.heap.size, 3, none⟩ = some (.int .i64 x) ∧ W.cell? ⟨w.heap.size, 4, none⟩ = some (.int .i64 y) ∧ W.cell? ⟨w.heap.size, 5, none⟩ = some (.int .i64 a) ∧ W.cell? ⟨w.heap.size, 6, none⟩ = some (.int .i64 e)) ∧ W.cell? ⟨w.heap.size + 1, 0, none⟩ = some (.int .i64 x) ∧ W.cell? ⟨w.heap.size + 1, 1, none⟩ = some (.int .i64 y)) from ⟨⟨((hR.next hbel).next hW).at6.1, (B0.next hW).c7.1⟩, (B1.next hW).c2.1⟩))
  have HSX := Lib.hid (fun W (hW : Below wc.heap.size wc W) (v0 v1 v2 v3 v4 v5 : Value) => (show (fun W => ((W.cell? ⟨rb, 0, none⟩ = some (.int .i64 R.x) ∧ W.cell? ⟨rb, 1, none⟩ = some (.int .i64 R.y) ∧ W.cell? ⟨rb, 2, none⟩ = some (.int .i64 R.w) ∧ W.cell? ⟨rb, 3, none⟩ = some (.int .i64 R.h) ∧ W.cell? ⟨rb, 4, none⟩ = some (.int .i64 R.last) ∧ W.cell? ⟨rb, 5, none⟩ = some (.slice p n c)) ∧ W.cell? ⟨w.heap.size, 0, none⟩ = some (.int .i64 3) ∧ W.cell? ⟨w.heap.size, 1, none⟩ = some (.int .i64 win) ∧ W.cell? ⟨w.heap.size, 2, none⟩ = some (.int .i64 oth) ∧ W.cell? ⟨w.heap.size, 3, none⟩ = some (.int .i64 x) ∧ W.cell? ⟨w.heap.size, 4, none⟩ = some (.int .i64 y) ∧ W.cell? ⟨w.heap.size, 5, none⟩ = some (.int .i64 a) ∧ W.cell? ⟨w.heap.size, 6, none⟩ = some (.int .i64 e)) ∧ W.cell? ⟨w.heap.size + 1, 0, none⟩ = some (.int .i64 x) ∧ W.cell? ⟨w.heap.size + 1, 1, none⟩ = some (.int .i64 y)) ((((((W.setCell ⟨w.heap.size + 1 + 1, 0, none⟩ v0).setCell ⟨w.heap.size + 1 + 1, 1, none⟩ v1).setCell ⟨w.heap.size + 1 + 1, 2, none⟩ v2).setCell ⟨w.heap.size + 1 + 1, 3, none⟩ v3).setCell ⟨w.heap.size + 1 + 1, 4, none⟩ v4).setCell ⟨w.heap.size + 1 + 1, 5, none⟩ v5) from
    ⟨⟨(far6 ((hR.next hbel).next hW) (by omega) v0 v1 v2 v3 v4 v5).at6.1, (far6 (B0.next hW) (by omega) v0 v1 v2 v3 v4 v5).c7.1⟩, (far6 (B1.next hW) (by omega) v0 v1 v2 v3 v4 v5).c2.1⟩))
  have HOC := Lib.hid (fun W (hW : Below wc.heap.size wc W) => (show RO W (.slice p n c) L from OwK.below (OwK.below hO hbel) hW))
  have HTC := Lib.hid (hT.next hbel)
  have HRC := Lib.hid (hR.next hbel)
  have HZ := Lib.hid B2
  have HA := Lib.hid B0
  have HP := Lib.hid B1
  have HBL := Lib.hid (hbel.on h4 h4.size)
  have HREF := Lib.hid hRef
  have HCODE := Lib.hid hCode
  have HSN := Lib.hid S'
  have HF := Lib.hid h6
  have HW := Lib.hid hwc
  have H5 := Lib.hid h5
  have hee : (err == err) = true := by simp
  clear hT hR hO h4 h5 h6 hRef hCode hbel B0 B1 B2 hwc S' S
  go_enter Try.func12, Try.ntmps12
  go_upto_region 3 with fail
  rw [← HW.out]
  clear i0 i1 i2 i3 i4 i5 i6 j0 j1 j2 j3 j4 j5
  go_wp2_with fail
  refine wp_region_noPanic ?_
  refine wp_region_held_drew (S := fun wx => ((wx.cell? ⟨rb, 0, none⟩ = some (.int .i64 R.x) ∧ wx.cell? ⟨rb, 1, none⟩ = some (.int .i64 R.y) ∧ wx.cell? ⟨rb, 2, none⟩ = some (.int .i64 R.w) ∧ wx.cell? ⟨rb, 3, none⟩ = some (.int .i64 R.h) ∧ wx.cell? ⟨rb, 4, none⟩ = some (.int .i64 R.last) ∧ wx.cell? ⟨rb, 5, none⟩ = some (.slice p n c)) ∧ wx.cell? ⟨w.heap.size, 0, none⟩ = some (.int .i64 3) ∧ wx.cell? ⟨w.heap.size, 1, none⟩ = some (.int .i64 win) ∧ wx.cell? ⟨w.heap.size, 2, none⟩ = some (.int .i64 oth) ∧ wx.cell? ⟨w.heap.size, 3, none⟩ = some (.int .i64 x) ∧ wx.cell? ⟨w.heap.size, 4, none⟩ = some (.int .i64 y) ∧ wx.cell? ⟨w.heap.size, 5, none⟩ = some (.int .i64 a) ∧ wx.cell? ⟨w.heap.size, 6, none⟩ = some (.int .i64 e)) ∧ wx.cell? ⟨w.heap.size + 1, 0, none⟩ = some (.int .i64 x) ∧ wx.cell? ⟨w.heap.size + 1, 1, none⟩ = some (.int .i64 y)) (by kernel_rfl) (by exact HS.out _ (Below.refl _ _).drew) (fun hHeld => ?_)
  refine wpAnyH_take (i := 0) (v := ?va0) rfl (by kernel_rfl) (by kernel_rfl) (by kernel_rfl) (fun _ _ _ h => h) (Or.inl ⟨by kernel_rfl, ?ya0⟩) (by assumption) ?ra0
  case ya0 => (intro wq hSw; (try dsimp only at hSw); go_simp; (try with_reducible rfl))
  (try simp only [Act.put, List.getElem_toArray, List.getElem_cons_zero, List.setIfInBounds_toArray, List.set_cons_zero, List.set_cons_succ])
  refine wpAnyH_take (i := 1) (v := ?va1) rfl (by kernel_rfl) (by kernel_rfl) (by kernel_rfl) (fun _ _ _ h => h) (Or.inl ⟨by kernel_rfl, ?ya1⟩) (by assumption) ?ra1
  case ya1 => (intro wq hSw; (try dsimp only at hSw); go_simp; (try with_reducible rfl))
  (try simp only [Act.put, List.getElem_toArray, List.getElem_cons_succ, List.getElem_cons_zero, List.setIfInBounds_toArray, List.set_cons_zero, List.set_cons_succ])
  refine wpAnyH_take (i := 2) (v := ?va2) rfl (by kernel_rfl) (by kernel_rfl) (by kernel_rfl) (fun _ _ _ h => h) (Or.inl ⟨by kernel_rfl, ?ya2⟩) (by assumption) ?ra2
  case ya2 => (intro wq hSw; (try dsimp only at hSw); go_simp; (try with_reducible rfl))
  (try simp only [Act.put, List.getElem_toArray, List.getElem_cons_succ, List.getElem_cons_zero, List.setIfInBounds_toArray, List.set_cons_zero, List.set_cons_succ])
  refine wpAnyH_take (i := 3) (v := ?va3) rfl (by kernel_rfl) (by kernel_rfl) (by kernel_rfl) (fun _ _ _ h => h) (Or.inl ⟨by kernel_rfl, ?ya3⟩) (by assumption) ?ra3
  case ya3 => (intro wq hSw; (try dsimp only at hSw); go_simp; (try with_reducible rfl))
  (try simp only [Act.put, List.getElem_toArray, List.getElem_cons_succ, List.getElem_cons_zero, List.setIfInBounds_toArray, List.set_cons_zero, List.set_cons_succ])
  refine wpAnyH_take (i := 4) (v := ?va4) rfl (by kernel_rfl) (by kernel_rfl) (by kernel_rfl) (fun _ _ _ h => h) (Or.inl ⟨by kernel_rfl, ?ya4⟩) (by assumption) ?ra4
  case ya4 => (intro wq hSw; (try dsimp only at hSw); go_simp; (try with_reducible rfl))
  (try simp only [Act.put, List.getElem_toArray, List.getElem_cons_succ, List.getElem_cons_zero, List.setIfInBounds_toArray, List.set_cons_zero, List.set_cons_succ])
  refine wpAnyH_take (i := 5) (v := ?va5) rfl (by kernel_rfl) (by kernel_rfl) (by kernel_rfl) (fun _ _ _ h => h) (Or.inl ⟨by kernel_rfl, ?ya5⟩) (by assumption) ?ra5
  case ya5 => (intro wq hSw; (try dsimp only at hSw); go_simp; (try with_reducible rfl))
  (try simp only [Act.put, List.getElem_toArray, List.getElem_cons_succ, List.getElem_cons_zero, List.setIfInBounds_toArray, List.set_cons_zero, List.set_cons_succ])
  refine wpAnyH_take (i := 6) (v := ?va6) rfl (by kernel_rfl) (by kernel_rfl) (by kernel_rfl) (fun _ _ _ h => h) (Or.inl ⟨by kernel_rfl, ?ya6⟩) (by assumption) ?ra6
  case ya6 => (intro wq hSw; (try dsimp only at hSw); go_simp; (try with_reducible rfl))
  (try simp only [Act.put, List.getElem_toArray, List.getElem_cons_succ, List.getElem_cons_zero, List.setIfInBounds_toArray, List.set_cons_zero, List.set_cons_succ])
  refine wpAnyH_take (i := 7) (v := ?va7) rfl (by kernel_rfl) (by kernel_rfl) (by kernel_rfl) (fun _ _ _ h => h) (Or.inl ⟨by kernel_rfl, ?ya7⟩) (by assumption) ?ra7
  case ya7 => (intro wq hSw; (try dsimp only at hSw); go_simp; (try with_reducible rfl))
  (try simp only [Act.put, List.getElem_toArray, List.getElem_cons_succ, List.getElem_cons_zero, List.setIfInBounds_toArray, List.set_cons_zero, List.set_cons_succ])
  refine wpAnyH_take (i := 8) (v := ?va8) rfl (by kernel_rfl) (by kernel_rfl) (by kernel_rfl) (fun _ _ _ h => h) (Or.inl ⟨by kernel_rfl, ?ya8⟩) (by assumption) ?ra8
  case ya8 => (intro wq hSw; (try dsimp only at hSw); go_simp; (try with_reducible rfl))
  (try simp only [Act.put, List.getElem_toArray, List.getElem_cons_succ, List.getElem_cons_zero, List.setIfInBounds_toArray, List.set_cons_zero, List.set_cons_succ])
  refine wpAnyH_ready (rs := [9]) (by kernel_rfl) (by simp) ?_
  refine AllReadyH.cons rfl (fun K hK => ?_) AllReadyH.nil
  go_simp
  refine (HREF.out _ _ (HOC.out _ (Below.refl wc.heap.size wc).drew)).mono ?_
  rintro ex w2 ⟨sv2, rfl, ho2, hb0⟩; have hb2 : Below wc.heap.size wc w2 := ((Below.refl _ wc).drew).trans hb0; obtain ⟨p2, n2, c2, rfl⟩ := own_sl ho2; have HO2 := Lib.hid ho2; have HB2 := Lib.hid hb2; clear ho2 hb0 hb2
  (try dsimp only)
  refine hK.out _ _ (by exact HS.out _ HB2.out) (fun hHeld => ?_)
  clear hK K
  (try simp only [Act.put, List.getElem_toArray, List.getElem_cons_succ, List.getElem_cons_zero, List.setIfInBounds_toArray, List.set_cons_zero, List.set_cons_succ])
  refine wpAnyH_take (i := 10) (v := ?va10) rfl (by kernel_rfl) (by kernel_rfl) (by kernel_rfl) (fun _ _ _ h => h) (Or.inl ⟨by kernel_rfl, ?ya10⟩) (by assumption) ?ra10
  case ya10 => (intro wq hSw; (try dsimp only at hSw); go_simp; (try with_reducible rfl))
  (try simp only [Act.put, List.getElem_toArray, List.getElem_cons_succ, List.getElem_cons_zero, List.setIfInBounds_toArray, List.set_cons_zero, List.set_cons_succ])
  refine wpAnyH_take (i := 11) (v := ?va11) rfl (by kernel_rfl) (by kernel_rfl) (by kernel_rfl) (fun _ _ _ h => h) (Or.inl ⟨by kernel_rfl, ?ya11⟩) (by assumption) ?ra11
  case ya11 => (intro wq hSw; (try dsimp only at hSw); go_simp; (try with_reducible rfl))
  (try simp only [Act.put, List.getElem_toArray, List.getElem_cons_succ, List.getElem_cons_zero, List.setIfInBounds_toArray, List.set_cons_zero, List.set_cons_succ])
  refine wpAnyH_take (i := 12) (v := ?va12) rfl (by kernel_rfl) (by kernel_rfl) (by kernel_rfl) (fun _ _ _ h => h) (Or.inl ⟨by kernel_rfl, ?ya12⟩) (by assumption) ?ra12
  case ya12 => (intro wq hSw; (try dsimp only at hSw); go_simp; (try with_reducible rfl))
  (try simp only [Act.put, List.getElem_toArray, List.getElem_cons_succ, List.getElem_cons_zero, List.setIfInBounds_toArray, List.set_cons_zero, List.set_cons_succ])
  obtain ⟨⟨z0, z1, z2, z3, z4, z5⟩, ⟨f0, f1, f2, f3, f4, f5⟩⟩ := (HZ.out.next HB2.out).at6
  refine wpAnyH_ready (rs := [13]) (by kernel_rfl) (by simp) ?_
  refine AllReadyH.cons rfl (fun K hK => ?_) AllReadyH.nil
  go_simp
  refine hK.out _ _ (by exact HSX.out _ HB2.out _ _ _ _ _ _) (fun hHeld => ?_)
  clear hK K
  (try simp only [Act.put, List.getElem_toArray, List.getElem_cons_succ, List.getElem_cons_zero, List.setIfInBounds_toArray, List.set_cons_zero, List.set_cons_succ])
  refine wpAnyH_take (i := 14) (v := ?va14) rfl (by kernel_rfl) (by kernel_rfl) (by kernel_rfl) (fun _ _ _ h => h) (Or.inl ⟨by kernel_rfl, ?ya14⟩) (by assumption) ?ra14
  case ya14 => (intro wq hSw; (try dsimp only at hSw); go_simp; (try with_reducible rfl))
  (try simp only [Act.put, List.getElem_toArray, List.getElem_cons_succ, List.getElem_cons_zero, List.setIfInBounds_toArray, List.set_cons_zero, List.set_cons_succ])
  refine wpAnyH_done (by kernel_rfl) ?_ _
  refine NoPanic.normal ?_
  clear z0 z1 z2 z3 z4 z5 f0 f1 f2 f3 f4 f5
  have T3 := Lib.hid (tree6 (HTC.out.next HB2.out) (HZ.out.next HB2.out) (.int .i64 R.x) (.int .i64 R.y) (.int .i64 R.w) (.int .i64 R.h) (.int .i64 R.last) (.slice p2 n2 c2))
  have R3 := Lib.hid (far6 (HRC.out.next HB2.out) (show rb ≠ w.heap.size + 1 + 1 by omega) (.int .i64 R.x) (.int .i64 R.y) (.int .i64 R.w) (.int .i64 R.h) (.int .i64 R.last) (.slice p2 n2 c2))
  have A3 := Lib.hid (far6 (HA.out.next HB2.out) (show w.heap.size ≠ w.heap.size + 1 + 1 by omega) (.int .i64 R.x) (.int .i64 R.y) (.int .i64 R.w) (.int .i64 R.h) (.int .i64 R.last) (.slice p2 n2 c2))
  have P3 := Lib.hid (far6 (HP.out.next HB2.out) (show w.heap.size + 1 ≠ w.heap.size + 1 + 1 by omega) (.int .i64 R.x) (.int .i64 R.y) (.int .i64 R.w) (.int .i64 R.h) (.int .i64 R.last) (.slice p2 n2 c2))
  have Z3 := Lib.hid (put6 (HZ.out.next HB2.out) (.int .i64 R.x) (.int .i64 R.y) (.int .i64 R.w) (.int .i64 R.h) (.int .i64 R.last) (.slice p2 n2 c2))
  have O3 := Lib.hid (rows6 HO2.out (HZ.out.next HB2.out) (.int .i64 R.x) (.int .i64 R.y) (.int .i64 R.w) (.int .i64 R.h) (.int .i64 R.last) (.slice p2 n2 c2))
  have L3 := Lib.hid (set6 (HB2.out.on HBL.out HBL.out.size) (show w0.heap.size ≤ w.heap.size + 1 + 1 by have := H5.out; omega) (.int .i64 R.x) (.int .i64 R.y) (.int .i64 R.w) (.int .i64 R.h) (.int .i64 R.last) (.slice p2 n2 c2))
  generalize ((((((w2.setCell ⟨w.heap.size + 1 + 1, 0, none⟩ (.int .i64 R.x)).setCell ⟨w.heap.size + 1 + 1, 1, none⟩ (.int .i64 R.y)).setCell ⟨w.heap.size + 1 + 1, 2, none⟩ (.int .i64 R.w)).setCell ⟨w.heap.size + 1 + 1, 3, none⟩ (.int .i64 R.h)).setCell ⟨w.heap.size + 1 + 1, 4, none⟩ (.int .i64 R.last)).setCell ⟨w.heap.size + 1 + 1, 5, none⟩ (.slice p2 n2 c2)) = w3 at T3 R3 A3 P3 Z3 O3 L3 ⊢
  obtain ⟨⟨b0, b1, b2, b3, b4, b5, b6⟩, -⟩ := A3.out.c7
  obtain ⟨⟨d0, d1⟩, -⟩ := P3.out.c2
  go_wp2_with (go_at_call 29; ((with_reducible refine (HCODE.out _ _ _ T3.out).mono ?_); rintro ex w4 ⟨rfl, hct⟩); have R4 := Lib.hid (CT.ref T3.out hct R3.out); have Z4 := Lib.hid (CT.ref T3.out hct Z3.out); have O4 := Lib.hid (CT.row T3.out hct O3.out); have CO := Lib.hid (CT.out hct L3.out HF.out); obtain ⟨q0, q1, q2, q3, q4, q5⟩ := Z4.out.at6.1; obtain ⟨⟨r0, r1, r2, r3, r4, r5⟩, ⟨g0, g1, g2, g3, g4, g5⟩⟩ := R4.out.at6; clear hct)
  go_ret
  obtain ⟨l', T4, L4, F4⟩ := CO.out
  exact ⟨ret_bool rfl, L', HSN.out, Bo.put T4 R4.out O4.out L4 H5.out F4⟩
set_option maxRecDepth 100000 in
set_option maxHeartbeats 2000000 in
theorem does_4 (S : Sane R L k) (hB : Bo w0 t rb R L w) {win oth x y a e : Int} (hi : I64 win) (_ho : I64 oth) : Calls Try.prog 12 #[treeP t, .pointer (some ⟨rb, 0, none⟩), .agg #[.int .i64 4, .int .i64 win, .int .i64 oth, .int .i64 x, .int .i64 y, .int .i64 a, .int .i64 e]] w fun ex w' => DoR w0 t rb R k ex w' := by
  obtain ⟨l, sv, hT, hR, hO, h4, h5, h6⟩ := hB
  obtain ⟨p, n, c, rfl⟩ := own_sl hO
  obtain ⟨L', err, S', hRef, hCode⟩ : ∃ L' err, Sane R L' k ∧ RefC 4 win x y a e R L L' err ∧ ∀ (W : World) (t : Nat) (l : Lay), TB W t l R L → Calls Try.prog 29 #[treeP t, .int .i64 win, .bool false] W fun ex w' => ex = .returned (.int .i64 err) ∧ CT R L' t l W w' := both_map S hi false x y a e
  obtain ⟨wc, hwc⟩ : ∃ wc, wc = ((w.alloc (.cells #[.int .i64 4, .int .i64 win, .int .i64 oth, .int .i64 x, .int .i64 y, .int .i64 a, .int .i64 e] 39)).alloc (.cells #[.int .i64 x, .int .i64 y] 26)).alloc (.cells (refA R (.slice p n c)) 36) := ⟨_, rfl⟩
  have hbel : Below w.heap.size w wc := by rw [hwc]; exact (((Below.refl _ _).alloc (Nat.le_refl _) _).alloc (by simp) _).alloc (by simp; omega) _
  have B0 : Blk wc w.heap.size 39 #[.int .i64 4, .int .i64 win, .int .i64 oth, .int .i64 x, .int .i64 y, .int .i64 a, .int .i64 e] := by rw [hwc]; exact ((Blk.new w _ _).alloc _).alloc _
  have B1 : Blk wc (w.heap.size + 1) 26 #[.int .i64 x, .int .i64 y] := by
    rw [hwc]
    have := (Blk.new (w.alloc (.cells #[.int .i64 4, .int .i64 win, .int .i64 oth, .int .i64 x, .int .i64 y, .int .i64 a, .int .i64 e] 39)) 26 #[.int .i64 x, .int .i64 y]).alloc (.cells (refA R (.slice p n c)) 36)
    rwa [World.size_alloc] at this
  have B2 : Blk wc (w.heap.size + 1 + 1) 36 (refA R (.slice p n c)) := by
    rw [hwc]
    have := Blk.new ((w.alloc (.cells #[.int .i64 4, .int .i64 win, .int .i64 oth, .int .i64 x, .int .i64 y, .int .i64 a, .int .i64 e] 39)).alloc (.cells #[.int .i64 x, .int .i64 y] 26)) 36 (refA R (.slice p n c))
    rwa [World.size_alloc, World.size_alloc] at this
  have hrb : rb < w.heap.size := hR.lt
  obtain ⟨⟨i0, i1, i2, i3, i4, i5, i6⟩, -⟩ := (Blk.new w 39 #[.int .i64 4, .int .i64 win, .int .i64 oth, .int .i64 x, .int .i64 y, .int .i64 a, .int .i64 e]).c7
  obtain ⟨⟨j0, j1, j2, j3, j4, j5⟩, -⟩ := ((hR.alloc (.cells #[.int .i64 4, .int .i64 win, .int .i64 oth, .int .i64 x, .int .i64 y, .int .i64 a, .int .i64 e] 39)).alloc (.cells #[.int .i64 x, .int .i64 y] 26)).at6
  obtain ⟨⟨a0, a1, a2, a3, a4, a5, a6⟩, -⟩ := B0.c7
  have HS := Lib.hid (fun W (hW : Below wc.heap.size wc W) => (show (((W.cell? ⟨rb, 0, none⟩ = some (.int .i64 R.x) ∧ W.cell? ⟨rb, 1, none⟩ = some (.int .i64 R.y) ∧ W.cell? ⟨rb, 2, none⟩ = some (.int .i64 R.w) ∧ W.cell? ⟨rb, 3, none⟩ = some (.int .i64 R.h) ∧ W.cell? ⟨rb, 4, none⟩ = some (.int .i64 R.last) ∧ W.cell? ⟨rb, 5, none⟩ = some (.slice p n c)) ∧ W.cell? ⟨w.heap.size, 0, none⟩ = some (.int .i64 4) ∧ W.cell? ⟨w.heap.size, 1, none⟩ = some (.int .i64 win) ∧ W.cell? ⟨w.heap.size, 2, none⟩ = some (.int .i64 oth) ∧ W.cell? ⟨w.heap.size, 3, none⟩ = some (.int .i64 x) ∧ W.cell? ⟨w.heap.size, 4, none⟩ = some (.int .i64 y) ∧ W.cell? ⟨w.heap.size, 5, none⟩ = some (.int .i64 a) ∧ W.cell? ⟨w.heap.size, 6, none⟩ = some (.int .i64 e)) ∧ W.cell? ⟨w.heap.size + 1, 0, none⟩ = some (.int .i64 x) ∧ W.cell? ⟨w.heap.size + 1, 1, none⟩ = some (.int .i64 y)) from ⟨⟨((hR.next hbel).next hW).at6.1, (B0.next hW).c7.1⟩, (B1.next hW).c2.1⟩))
  have HSX := Lib.hid (fun W (hW : Below wc.heap.size wc W) (v0 v1 v2 v3 v4 v5 : Value) => (show (fun W => ((W.cell? ⟨rb, 0, none⟩ = some (.int .i64 R.x) ∧ W.cell? ⟨rb, 1, none⟩ = some (.int .i64 R.y) ∧ W.cell? ⟨rb, 2, none⟩ = some (.int .i64 R.w) ∧ W.cell? ⟨rb, 3, none⟩ = some (.int .i64 R.h) ∧ W.cell? ⟨rb, 4, none⟩ = some (.int .i64 R.last) ∧ W.cell? ⟨rb, 5, none⟩ = some (.slice p n c)) ∧ W.cell? ⟨w.heap.size, 0, none⟩ = some (.int .i64 4) ∧ W.cell? ⟨w.heap.size, 1, none⟩ = some (.int .i64 win) ∧ W.cell? ⟨w.heap.size, 2, none⟩ = some (.int .i64 oth) ∧ W.cell? ⟨w.heap.size, 3, none⟩ = some (.int .i64 x) ∧ W.cell? ⟨w.heap.size, 4, none⟩ = some (.int .i64 y) ∧ W.cell? ⟨w.heap.size, 5, none⟩ = some (.int .i64 a) ∧ W.cell? ⟨w.heap.size, 6, none⟩ = some (.int .i64 e)) ∧ W.cell? ⟨w.heap.size + 1, 0, none⟩ = some (.int .i64 x) ∧ W.cell? ⟨w.heap.size + 1, 1, none⟩ = some (.int .i64 y)) ((((((W.setCell ⟨w.heap.size + 1 + 1, 0, none⟩ v0).setCell ⟨w.heap.size + 1 + 1, 1, none⟩ v1).setCell ⟨w.heap.size + 1 + 1, 2, none⟩ v2).setCell ⟨w.heap.size + 1 + 1, 3, none⟩ v3).setCell ⟨w.heap.size + 1 + 1, 4, none⟩ v4).setCell ⟨w.heap.size + 1 + 1, 5, none⟩ v5) from
    ⟨⟨(far6 ((hR.next hbel).next hW) (by omega) v0 v1 v2 v3 v4 v5).at6.1, (far6 (B0.next hW) (by omega) v0 v1 v2 v3 v4 v5).c7.1⟩, (far6 (B1.next hW) (by omega) v0 v1 v2 v3 v4 v5).c2.1⟩))
  have HOC := Lib.hid (fun W (hW : Below wc.heap.size wc W) => (show RO W (.slice p n c) L from OwK.below (OwK.below hO hbel) hW))
  have HTC := Lib.hid (hT.next hbel)
  have HRC := Lib.hid (hR.next hbel)
  have HZ := Lib.hid B2
  have HA := Lib.hid B0
  have HP := Lib.hid B1
  have HBL := Lib.hid (hbel.on h4 h4.size)
  have HREF := Lib.hid hRef
  have HCODE := Lib.hid hCode
  have HSN := Lib.hid S'
  have HF := Lib.hid h6
  have HW := Lib.hid hwc
  have H5 := Lib.hid h5
  have hee : (err == err) = true := by simp
  clear hT hR hO h4 h5 h6 hRef hCode hbel B0 B1 B2 hwc S' S
  go_enter Try.func12, Try.ntmps12
  go_upto_region 3 with fail
  rw [← HW.out]
  clear i0 i1 i2 i3 i4 i5 i6 j0 j1 j2 j3 j4 j5
  go_wp2_with fail
  refine wp_region_noPanic ?_
  refine wp_region_held_drew (S := fun wx => ((wx.cell? ⟨rb, 0, none⟩ = some (.int .i64 R.x) ∧ wx.cell? ⟨rb, 1, none⟩ = some (.int .i64 R.y) ∧ wx.cell? ⟨rb, 2, none⟩ = some (.int .i64 R.w) ∧ wx.cell? ⟨rb, 3, none⟩ = some (.int .i64 R.h) ∧ wx.cell? ⟨rb, 4, none⟩ = some (.int .i64 R.last) ∧ wx.cell? ⟨rb, 5, none⟩ = some (.slice p n c)) ∧ wx.cell? ⟨w.heap.size, 0, none⟩ = some (.int .i64 4) ∧ wx.cell? ⟨w.heap.size, 1, none⟩ = some (.int .i64 win) ∧ wx.cell? ⟨w.heap.size, 2, none⟩ = some (.int .i64 oth) ∧ wx.cell? ⟨w.heap.size, 3, none⟩ = some (.int .i64 x) ∧ wx.cell? ⟨w.heap.size, 4, none⟩ = some (.int .i64 y) ∧ wx.cell? ⟨w.heap.size, 5, none⟩ = some (.int .i64 a) ∧ wx.cell? ⟨w.heap.size, 6, none⟩ = some (.int .i64 e)) ∧ wx.cell? ⟨w.heap.size + 1, 0, none⟩ = some (.int .i64 x) ∧ wx.cell? ⟨w.heap.size + 1, 1, none⟩ = some (.int .i64 y)) (by kernel_rfl) (by exact HS.out _ (Below.refl _ _).drew) (fun hHeld => ?_)
  refine wpAnyH_take (i := 0) (v := ?va0) rfl (by kernel_rfl) (by kernel_rfl) (by kernel_rfl) (fun _ _ _ h => h) (Or.inl ⟨by kernel_rfl, ?ya0⟩) (by assumption) ?ra0
  case ya0 => (intro wq hSw; (try dsimp only at hSw); go_simp; (try with_reducible rfl))
  (try simp only [Act.put, List.getElem_toArray, List.getElem_cons_zero, List.setIfInBounds_toArray, List.set_cons_zero, List.set_cons_succ])
  refine wpAnyH_take (i := 1) (v := ?va1) rfl (by kernel_rfl) (by kernel_rfl) (by kernel_rfl) (fun _ _ _ h => h) (Or.inl ⟨by kernel_rfl, ?ya1⟩) (by assumption) ?ra1
  case ya1 => (intro wq hSw; (try dsimp only at hSw); go_simp; (try with_reducible rfl))
  (try simp only [Act.put, List.getElem_toArray, List.getElem_cons_succ, List.getElem_cons_zero, List.setIfInBounds_toArray, List.set_cons_zero, List.set_cons_succ])
  refine wpAnyH_take (i := 2) (v := ?va2) rfl (by kernel_rfl) (by kernel_rfl) (by kernel_rfl) (fun _ _ _ h => h) (Or.inl ⟨by kernel_rfl, ?ya2⟩) (by assumption) ?ra2
  case ya2 => (intro wq hSw; (try dsimp only at hSw); go_simp; (try with_reducible rfl))
  (try simp only [Act.put, List.getElem_toArray, List.getElem_cons_succ, List.getElem_cons_zero, List.setIfInBounds_toArray, List.set_cons_zero, List.set_cons_succ])
  refine wpAnyH_take (i := 3) (v := ?va3) rfl (by kernel_rfl) (by kernel_rfl) (by kernel_rfl) (fun _ _ _ h => h) (Or.inl ⟨by kernel_rfl, ?ya3⟩) (by assumption) ?ra3
  case ya3 => (intro wq hSw; (try dsimp only at hSw); go_simp; (try with_reducible rfl))
  (try simp only [Act.put, List.getElem_toArray, List.getElem_cons_succ, List.getElem_cons_zero, List.setIfInBounds_toArray, List.set_cons_zero, List.set_cons_succ])
  refine wpAnyH_take (i := 4) (v := ?va4) rfl (by kernel_rfl) (by kernel_rfl) (by kernel_rfl) (fun _ _ _ h => h) (Or.inl ⟨by kernel_rfl, ?ya4⟩) (by assumption) ?ra4
  case ya4 => (intro wq hSw; (try dsimp only at hSw); go_simp; (try with_reducible rfl))
  (try simp only [Act.put, List.getElem_toArray, List.getElem_cons_succ, List.getElem_cons_zero, List.setIfInBounds_toArray, List.set_cons_zero, List.set_cons_succ])
  refine wpAnyH_take (i := 5) (v := ?va5) rfl (by kernel_rfl) (by kernel_rfl) (by kernel_rfl) (fun _ _ _ h => h) (Or.inl ⟨by kernel_rfl, ?ya5⟩) (by assumption) ?ra5
  case ya5 => (intro wq hSw; (try dsimp only at hSw); go_simp; (try with_reducible rfl))
  (try simp only [Act.put, List.getElem_toArray, List.getElem_cons_succ, List.getElem_cons_zero, List.setIfInBounds_toArray, List.set_cons_zero, List.set_cons_succ])
  refine wpAnyH_take (i := 6) (v := ?va6) rfl (by kernel_rfl) (by kernel_rfl) (by kernel_rfl) (fun _ _ _ h => h) (Or.inl ⟨by kernel_rfl, ?ya6⟩) (by assumption) ?ra6
  case ya6 => (intro wq hSw; (try dsimp only at hSw); go_simp; (try with_reducible rfl))
  (try simp only [Act.put, List.getElem_toArray, List.getElem_cons_succ, List.getElem_cons_zero, List.setIfInBounds_toArray, List.set_cons_zero, List.set_cons_succ])
  refine wpAnyH_take (i := 7) (v := ?va7) rfl (by kernel_rfl) (by kernel_rfl) (by kernel_rfl) (fun _ _ _ h => h) (Or.inl ⟨by kernel_rfl, ?ya7⟩) (by assumption) ?ra7
  case ya7 => (intro wq hSw; (try dsimp only at hSw); go_simp; (try with_reducible rfl))
  (try simp only [Act.put, List.getElem_toArray, List.getElem_cons_succ, List.getElem_cons_zero, List.setIfInBounds_toArray, List.set_cons_zero, List.set_cons_succ])
  refine wpAnyH_take (i := 8) (v := ?va8) rfl (by kernel_rfl) (by kernel_rfl) (by kernel_rfl) (fun _ _ _ h => h) (Or.inl ⟨by kernel_rfl, ?ya8⟩) (by assumption) ?ra8
  case ya8 => (intro wq hSw; (try dsimp only at hSw); go_simp; (try with_reducible rfl))
  (try simp only [Act.put, List.getElem_toArray, List.getElem_cons_succ, List.getElem_cons_zero, List.setIfInBounds_toArray, List.set_cons_zero, List.set_cons_succ])
  refine wpAnyH_ready (rs := [9]) (by kernel_rfl) (by simp) ?_
  refine AllReadyH.cons rfl (fun K hK => ?_) AllReadyH.nil
  go_simp
  refine (HREF.out _ _ (HOC.out _ (Below.refl wc.heap.size wc).drew)).mono ?_
  rintro ex w2 ⟨sv2, rfl, ho2, hb0⟩; have hb2 : Below wc.heap.size wc w2 := ((Below.refl _ wc).drew).trans hb0; obtain ⟨p2, n2, c2, rfl⟩ := own_sl ho2; have HO2 := Lib.hid ho2; have HB2 := Lib.hid hb2; clear ho2 hb0 hb2
  (try dsimp only)
  refine hK.out _ _ (by exact HS.out _ HB2.out) (fun hHeld => ?_)
  clear hK K
  (try simp only [Act.put, List.getElem_toArray, List.getElem_cons_succ, List.getElem_cons_zero, List.setIfInBounds_toArray, List.set_cons_zero, List.set_cons_succ])
  refine wpAnyH_take (i := 10) (v := ?va10) rfl (by kernel_rfl) (by kernel_rfl) (by kernel_rfl) (fun _ _ _ h => h) (Or.inl ⟨by kernel_rfl, ?ya10⟩) (by assumption) ?ra10
  case ya10 => (intro wq hSw; (try dsimp only at hSw); go_simp; (try with_reducible rfl))
  (try simp only [Act.put, List.getElem_toArray, List.getElem_cons_succ, List.getElem_cons_zero, List.setIfInBounds_toArray, List.set_cons_zero, List.set_cons_succ])
  refine wpAnyH_take (i := 11) (v := ?va11) rfl (by kernel_rfl) (by kernel_rfl) (by kernel_rfl) (fun _ _ _ h => h) (Or.inl ⟨by kernel_rfl, ?ya11⟩) (by assumption) ?ra11
  case ya11 => (intro wq hSw; (try dsimp only at hSw); go_simp; (try with_reducible rfl))
  (try simp only [Act.put, List.getElem_toArray, List.getElem_cons_succ, List.getElem_cons_zero, List.setIfInBounds_toArray, List.set_cons_zero, List.set_cons_succ])
  refine wpAnyH_take (i := 12) (v := ?va12) rfl (by kernel_rfl) (by kernel_rfl) (by kernel_rfl) (fun _ _ _ h => h) (Or.inl ⟨by kernel_rfl, ?ya12⟩) (by assumption) ?ra12
  case ya12 => (intro wq hSw; (try dsimp only at hSw); go_simp; (try with_reducible rfl))
  (try simp only [Act.put, List.getElem_toArray, List.getElem_cons_succ, List.getElem_cons_zero, List.setIfInBounds_toArray, List.set_cons_zero, List.set_cons_succ])
  obtain ⟨⟨z0, z1, z2, z3, z4, z5⟩, ⟨f0, f1, f2, f3, f4, f5⟩⟩ := (HZ.out.next HB2.out).at6
  refine wpAnyH_ready (rs := [13]) (by kernel_rfl) (by simp) ?_
  refine AllReadyH.cons rfl (fun K hK => ?_) AllReadyH.nil
  go_simp
  refine hK.out _ _ (by exact HSX.out _ HB2.out _ _ _ _ _ _) (fun hHeld => ?_)
  clear hK K
  (try simp only [Act.put, List.getElem_toArray, List.getElem_cons_succ, List.getElem_cons_zero, List.setIfInBounds_toArray, List.set_cons_zero, List.set_cons_succ])
  refine wpAnyH_take (i := 14) (v := ?va14) rfl (by kernel_rfl) (by kernel_rfl) (by kernel_rfl) (fun _ _ _ h => h) (Or.inl ⟨by kernel_rfl, ?ya14⟩) (by assumption) ?ra14
  case ya14 => (intro wq hSw; (try dsimp only at hSw); go_simp; (try with_reducible rfl))
  (try simp only [Act.put, List.getElem_toArray, List.getElem_cons_succ, List.getElem_cons_zero, List.setIfInBounds_toArray, List.set_cons_zero, List.set_cons_succ])
  refine wpAnyH_done (by kernel_rfl) ?_ _
  refine NoPanic.normal ?_
  clear z0 z1 z2 z3 z4 z5 f0 f1 f2 f3 f4 f5
  have T3 := Lib.hid (tree6 (HTC.out.next HB2.out) (HZ.out.next HB2.out) (.int .i64 R.x) (.int .i64 R.y) (.int .i64 R.w) (.int .i64 R.h) (.int .i64 R.last) (.slice p2 n2 c2))
  have R3 := Lib.hid (far6 (HRC.out.next HB2.out) (show rb ≠ w.heap.size + 1 + 1 by omega) (.int .i64 R.x) (.int .i64 R.y) (.int .i64 R.w) (.int .i64 R.h) (.int .i64 R.last) (.slice p2 n2 c2))
  have A3 := Lib.hid (far6 (HA.out.next HB2.out) (show w.heap.size ≠ w.heap.size + 1 + 1 by omega) (.int .i64 R.x) (.int .i64 R.y) (.int .i64 R.w) (.int .i64 R.h) (.int .i64 R.last) (.slice p2 n2 c2))
  have P3 := Lib.hid (far6 (HP.out.next HB2.out) (show w.heap.size + 1 ≠ w.heap.size + 1 + 1 by omega) (.int .i64 R.x) (.int .i64 R.y) (.int .i64 R.w) (.int .i64 R.h) (.int .i64 R.last) (.slice p2 n2 c2))
  have Z3 := Lib.hid (put6 (HZ.out.next HB2.out) (.int .i64 R.x) (.int .i64 R.y) (.int .i64 R.w) (.int .i64 R.h) (.int .i64 R.last) (.slice p2 n2 c2))
  have O3 := Lib.hid (rows6 HO2.out (HZ.out.next HB2.out) (.int .i64 R.x) (.int .i64 R.y) (.int .i64 R.w) (.int .i64 R.h) (.int .i64 R.last) (.slice p2 n2 c2))
  have L3 := Lib.hid (set6 (HB2.out.on HBL.out HBL.out.size) (show w0.heap.size ≤ w.heap.size + 1 + 1 by have := H5.out; omega) (.int .i64 R.x) (.int .i64 R.y) (.int .i64 R.w) (.int .i64 R.h) (.int .i64 R.last) (.slice p2 n2 c2))
  generalize ((((((w2.setCell ⟨w.heap.size + 1 + 1, 0, none⟩ (.int .i64 R.x)).setCell ⟨w.heap.size + 1 + 1, 1, none⟩ (.int .i64 R.y)).setCell ⟨w.heap.size + 1 + 1, 2, none⟩ (.int .i64 R.w)).setCell ⟨w.heap.size + 1 + 1, 3, none⟩ (.int .i64 R.h)).setCell ⟨w.heap.size + 1 + 1, 4, none⟩ (.int .i64 R.last)).setCell ⟨w.heap.size + 1 + 1, 5, none⟩ (.slice p2 n2 c2)) = w3 at T3 R3 A3 P3 Z3 O3 L3 ⊢
  obtain ⟨⟨b0, b1, b2, b3, b4, b5, b6⟩, -⟩ := A3.out.c7
  obtain ⟨⟨d0, d1⟩, -⟩ := P3.out.c2
  go_wp2_with (go_at_call 29; ((with_reducible refine (HCODE.out _ _ _ T3.out).mono ?_); rintro ex w4 ⟨rfl, hct⟩); have R4 := Lib.hid (CT.ref T3.out hct R3.out); have Z4 := Lib.hid (CT.ref T3.out hct Z3.out); have O4 := Lib.hid (CT.row T3.out hct O3.out); have CO := Lib.hid (CT.out hct L3.out HF.out); obtain ⟨q0, q1, q2, q3, q4, q5⟩ := Z4.out.at6.1; obtain ⟨⟨r0, r1, r2, r3, r4, r5⟩, ⟨g0, g1, g2, g3, g4, g5⟩⟩ := R4.out.at6; clear hct)
  go_ret
  obtain ⟨l', T4, L4, F4⟩ := CO.out
  exact ⟨ret_bool rfl, L', HSN.out, Bo.put T4 R4.out O4.out L4 H5.out F4⟩
set_option maxRecDepth 100000 in
set_option maxHeartbeats 2000000 in
theorem does_7 (S : Sane R L k) (hB : Bo w0 t rb R L w) {win oth x y a e : Int} (hi : I64 win) (_ho : I64 oth) : Calls Try.prog 12 #[treeP t, .pointer (some ⟨rb, 0, none⟩), .agg #[.int .i64 7, .int .i64 win, .int .i64 oth, .int .i64 x, .int .i64 y, .int .i64 a, .int .i64 e]] w fun ex w' => DoR w0 t rb R k ex w' := by
  obtain ⟨l, sv, hT, hR, hO, h4, h5, h6⟩ := hB
  obtain ⟨p, n, c, rfl⟩ := own_sl hO
  obtain ⟨L', err, S', hRef, hCode⟩ := both_repar S hi _ho x y
  obtain ⟨wc, hwc⟩ : ∃ wc, wc = ((w.alloc (.cells #[.int .i64 7, .int .i64 win, .int .i64 oth, .int .i64 x, .int .i64 y, .int .i64 a, .int .i64 e] 39)).alloc (.cells #[.int .i64 x, .int .i64 y] 26)).alloc (.cells (refA R (.slice p n c)) 36) := ⟨_, rfl⟩
  have hbel : Below w.heap.size w wc := by rw [hwc]; exact (((Below.refl _ _).alloc (Nat.le_refl _) _).alloc (by simp) _).alloc (by simp; omega) _
  have B0 : Blk wc w.heap.size 39 #[.int .i64 7, .int .i64 win, .int .i64 oth, .int .i64 x, .int .i64 y, .int .i64 a, .int .i64 e] := by rw [hwc]; exact ((Blk.new w _ _).alloc _).alloc _
  have B1 : Blk wc (w.heap.size + 1) 26 #[.int .i64 x, .int .i64 y] := by
    rw [hwc]
    have := (Blk.new (w.alloc (.cells #[.int .i64 7, .int .i64 win, .int .i64 oth, .int .i64 x, .int .i64 y, .int .i64 a, .int .i64 e] 39)) 26 #[.int .i64 x, .int .i64 y]).alloc (.cells (refA R (.slice p n c)) 36)
    rwa [World.size_alloc] at this
  have B2 : Blk wc (w.heap.size + 1 + 1) 36 (refA R (.slice p n c)) := by
    rw [hwc]
    have := Blk.new ((w.alloc (.cells #[.int .i64 7, .int .i64 win, .int .i64 oth, .int .i64 x, .int .i64 y, .int .i64 a, .int .i64 e] 39)).alloc (.cells #[.int .i64 x, .int .i64 y] 26)) 36 (refA R (.slice p n c))
    rwa [World.size_alloc, World.size_alloc] at this
  have hrb : rb < w.heap.size := hR.lt
  obtain ⟨⟨i0, i1, i2, i3, i4, i5, i6⟩, -⟩ := (Blk.new w 39 #[.int .i64 7, .int .i64 win, .int .i64 oth, .int .i64 x, .int .i64 y, .int .i64 a, .int .i64 e]).c7
  obtain ⟨⟨j0, j1, j2, j3, j4, j5⟩, -⟩ := ((hR.alloc (.cells #[.int .i64 7, .int .i64 win, .int .i64 oth, .int .i64 x, .int .i64 y, .int .i64 a, .int .i64 e] 39)).alloc (.cells #[.int .i64 x, .int .i64 y] 26)).at6
  obtain ⟨⟨a0, a1, a2, a3, a4, a5, a6⟩, -⟩ := B0.c7
  have HS := Lib.hid (fun W (hW : Below wc.heap.size wc W) => (show (((W.cell? ⟨rb, 0, none⟩ = some (.int .i64 R.x) ∧ W.cell? ⟨rb, 1, none⟩ = some (.int .i64 R.y) ∧ W.cell? ⟨rb, 2, none⟩ = some (.int .i64 R.w) ∧ W.cell? ⟨rb, 3, none⟩ = some (.int .i64 R.h) ∧ W.cell? ⟨rb, 4, none⟩ = some (.int .i64 R.last) ∧ W.cell? ⟨rb, 5, none⟩ = some (.slice p n c)) ∧ W.cell? ⟨w.heap.size, 0, none⟩ = some (.int .i64 7) ∧ W.cell? ⟨w.heap.size, 1, none⟩ = some (.int .i64 win) ∧ W.cell? ⟨w.heap.size, 2, none⟩ = some (.int .i64 oth) ∧ W.cell? ⟨w.heap.size, 3, none⟩ = some (.int .i64 x) ∧ W.cell? ⟨w.heap.size, 4, none⟩ = some (.int .i64 y) ∧ W.cell? ⟨w.heap.size, 5, none⟩ = some (.int .i64 a) ∧ W.cell? ⟨w.heap.size, 6, none⟩ = some (.int .i64 e)) ∧ W.cell? ⟨w.heap.size + 1, 0, none⟩ = some (.int .i64 x) ∧ W.cell? ⟨w.heap.size + 1, 1, none⟩ = some (.int .i64 y)) from ⟨⟨((hR.next hbel).next hW).at6.1, (B0.next hW).c7.1⟩, (B1.next hW).c2.1⟩))
  have HSX := Lib.hid (fun W (hW : Below wc.heap.size wc W) (v0 v1 v2 v3 v4 v5 : Value) => (show (fun W => ((W.cell? ⟨rb, 0, none⟩ = some (.int .i64 R.x) ∧ W.cell? ⟨rb, 1, none⟩ = some (.int .i64 R.y) ∧ W.cell? ⟨rb, 2, none⟩ = some (.int .i64 R.w) ∧ W.cell? ⟨rb, 3, none⟩ = some (.int .i64 R.h) ∧ W.cell? ⟨rb, 4, none⟩ = some (.int .i64 R.last) ∧ W.cell? ⟨rb, 5, none⟩ = some (.slice p n c)) ∧ W.cell? ⟨w.heap.size, 0, none⟩ = some (.int .i64 7) ∧ W.cell? ⟨w.heap.size, 1, none⟩ = some (.int .i64 win) ∧ W.cell? ⟨w.heap.size, 2, none⟩ = some (.int .i64 oth) ∧ W.cell? ⟨w.heap.size, 3, none⟩ = some (.int .i64 x) ∧ W.cell? ⟨w.heap.size, 4, none⟩ = some (.int .i64 y) ∧ W.cell? ⟨w.heap.size, 5, none⟩ = some (.int .i64 a) ∧ W.cell? ⟨w.heap.size, 6, none⟩ = some (.int .i64 e)) ∧ W.cell? ⟨w.heap.size + 1, 0, none⟩ = some (.int .i64 x) ∧ W.cell? ⟨w.heap.size + 1, 1, none⟩ = some (.int .i64 y)) ((((((W.setCell ⟨w.heap.size + 1 + 1, 0, none⟩ v0).setCell ⟨w.heap.size + 1 + 1, 1, none⟩ v1).setCell ⟨w.heap.size + 1 + 1, 2, none⟩ v2).setCell ⟨w.heap.size + 1 + 1, 3, none⟩ v3).setCell ⟨w.heap.size + 1 + 1, 4, none⟩ v4).setCell ⟨w.heap.size + 1 + 1, 5, none⟩ v5) from
    ⟨⟨(far6 ((hR.next hbel).next hW) (by omega) v0 v1 v2 v3 v4 v5).at6.1, (far6 (B0.next hW) (by omega) v0 v1 v2 v3 v4 v5).c7.1⟩, (far6 (B1.next hW) (by omega) v0 v1 v2 v3 v4 v5).c2.1⟩))
  have HOC := Lib.hid (fun W (hW : Below wc.heap.size wc W) => (show RO W (.slice p n c) L from OwK.below (OwK.below hO hbel) hW))
  have HTC := Lib.hid (hT.next hbel)
  have HRC := Lib.hid (hR.next hbel)
  have HZ := Lib.hid B2
  have HA := Lib.hid B0
  have HP := Lib.hid B1
  have HBL := Lib.hid (hbel.on h4 h4.size)
  have HREF := Lib.hid hRef
  have HCODE := Lib.hid hCode
  have HSN := Lib.hid S'
  have HF := Lib.hid h6
  have HW := Lib.hid hwc
  have H5 := Lib.hid h5
  have hee : (err == err) = true := by simp
  clear hT hR hO h4 h5 h6 hRef hCode hbel B0 B1 B2 hwc S' S
  go_enter Try.func12, Try.ntmps12
  go_upto_region 3 with fail
  rw [← HW.out]
  clear i0 i1 i2 i3 i4 i5 i6 j0 j1 j2 j3 j4 j5
  go_wp2_with fail
  refine wp_region_noPanic ?_
  refine wp_region_held_drew (S := fun wx => ((wx.cell? ⟨rb, 0, none⟩ = some (.int .i64 R.x) ∧ wx.cell? ⟨rb, 1, none⟩ = some (.int .i64 R.y) ∧ wx.cell? ⟨rb, 2, none⟩ = some (.int .i64 R.w) ∧ wx.cell? ⟨rb, 3, none⟩ = some (.int .i64 R.h) ∧ wx.cell? ⟨rb, 4, none⟩ = some (.int .i64 R.last) ∧ wx.cell? ⟨rb, 5, none⟩ = some (.slice p n c)) ∧ wx.cell? ⟨w.heap.size, 0, none⟩ = some (.int .i64 7) ∧ wx.cell? ⟨w.heap.size, 1, none⟩ = some (.int .i64 win) ∧ wx.cell? ⟨w.heap.size, 2, none⟩ = some (.int .i64 oth) ∧ wx.cell? ⟨w.heap.size, 3, none⟩ = some (.int .i64 x) ∧ wx.cell? ⟨w.heap.size, 4, none⟩ = some (.int .i64 y) ∧ wx.cell? ⟨w.heap.size, 5, none⟩ = some (.int .i64 a) ∧ wx.cell? ⟨w.heap.size, 6, none⟩ = some (.int .i64 e)) ∧ wx.cell? ⟨w.heap.size + 1, 0, none⟩ = some (.int .i64 x) ∧ wx.cell? ⟨w.heap.size + 1, 1, none⟩ = some (.int .i64 y)) (by kernel_rfl) (by exact HS.out _ (Below.refl _ _).drew) (fun hHeld => ?_)
  refine wpAnyH_take (i := 0) (v := ?va0) rfl (by kernel_rfl) (by kernel_rfl) (by kernel_rfl) (fun _ _ _ h => h) (Or.inl ⟨by kernel_rfl, ?ya0⟩) (by assumption) ?ra0
  case ya0 => (intro wq hSw; (try dsimp only at hSw); go_simp; (try with_reducible rfl))
  (try simp only [Act.put, List.getElem_toArray, List.getElem_cons_zero, List.setIfInBounds_toArray, List.set_cons_zero, List.set_cons_succ])
  refine wpAnyH_take (i := 1) (v := ?va1) rfl (by kernel_rfl) (by kernel_rfl) (by kernel_rfl) (fun _ _ _ h => h) (Or.inl ⟨by kernel_rfl, ?ya1⟩) (by assumption) ?ra1
  case ya1 => (intro wq hSw; (try dsimp only at hSw); go_simp; (try with_reducible rfl))
  (try simp only [Act.put, List.getElem_toArray, List.getElem_cons_succ, List.getElem_cons_zero, List.setIfInBounds_toArray, List.set_cons_zero, List.set_cons_succ])
  refine wpAnyH_take (i := 2) (v := ?va2) rfl (by kernel_rfl) (by kernel_rfl) (by kernel_rfl) (fun _ _ _ h => h) (Or.inl ⟨by kernel_rfl, ?ya2⟩) (by assumption) ?ra2
  case ya2 => (intro wq hSw; (try dsimp only at hSw); go_simp; (try with_reducible rfl))
  (try simp only [Act.put, List.getElem_toArray, List.getElem_cons_succ, List.getElem_cons_zero, List.setIfInBounds_toArray, List.set_cons_zero, List.set_cons_succ])
  refine wpAnyH_take (i := 3) (v := ?va3) rfl (by kernel_rfl) (by kernel_rfl) (by kernel_rfl) (fun _ _ _ h => h) (Or.inl ⟨by kernel_rfl, ?ya3⟩) (by assumption) ?ra3
  case ya3 => (intro wq hSw; (try dsimp only at hSw); go_simp; (try with_reducible rfl))
  (try simp only [Act.put, List.getElem_toArray, List.getElem_cons_succ, List.getElem_cons_zero, List.setIfInBounds_toArray, List.set_cons_zero, List.set_cons_succ])
  refine wpAnyH_take (i := 4) (v := ?va4) rfl (by kernel_rfl) (by kernel_rfl) (by kernel_rfl) (fun _ _ _ h => h) (Or.inl ⟨by kernel_rfl, ?ya4⟩) (by assumption) ?ra4
  case ya4 => (intro wq hSw; (try dsimp only at hSw); go_simp; (try with_reducible rfl))
  (try simp only [Act.put, List.getElem_toArray, List.getElem_cons_succ, List.getElem_cons_zero, List.setIfInBounds_toArray, List.set_cons_zero, List.set_cons_succ])
  refine wpAnyH_take (i := 5) (v := ?va5) rfl (by kernel_rfl) (by kernel_rfl) (by kernel_rfl) (fun _ _ _ h => h) (Or.inl ⟨by kernel_rfl, ?ya5⟩) (by assumption) ?ra5
  case ya5 => (intro wq hSw; (try dsimp only at hSw); go_simp; (try with_reducible rfl))
  (try simp only [Act.put, List.getElem_toArray, List.getElem_cons_succ, List.getElem_cons_zero, List.setIfInBounds_toArray, List.set_cons_zero, List.set_cons_succ])
  refine wpAnyH_take (i := 6) (v := ?va6) rfl (by kernel_rfl) (by kernel_rfl) (by kernel_rfl) (fun _ _ _ h => h) (Or.inl ⟨by kernel_rfl, ?ya6⟩) (by assumption) ?ra6
  case ya6 => (intro wq hSw; (try dsimp only at hSw); go_simp; (try with_reducible rfl))
  (try simp only [Act.put, List.getElem_toArray, List.getElem_cons_succ, List.getElem_cons_zero, List.setIfInBounds_toArray, List.set_cons_zero, List.set_cons_succ])
  refine wpAnyH_take (i := 7) (v := ?va7) rfl (by kernel_rfl) (by kernel_rfl) (by kernel_rfl) (fun _ _ _ h => h) (Or.inl ⟨by kernel_rfl, ?ya7⟩) (by assumption) ?ra7
  case ya7 => (intro wq hSw; (try dsimp only at hSw); go_simp; (try with_reducible rfl))
  (try simp only [Act.put, List.getElem_toArray, List.getElem_cons_succ, List.getElem_cons_zero, List.setIfInBounds_toArray, List.set_cons_zero, List.set_cons_succ])
  refine wpAnyH_ready (rs := [8]) (by kernel_rfl) (by simp) ?_
  refine AllReadyH.cons rfl (fun K hK => ?_) AllReadyH.nil
  go_simp
  refine (HREF.out _ _ (HOC.out _ (Below.refl wc.heap.size wc).drew)).mono ?_
  rintro ex w2 ⟨sv2, rfl, ho2, hb0⟩; have hb2 : Below wc.heap.size wc w2 := ((Below.refl _ wc).drew).trans hb0; obtain ⟨p2, n2, c2, rfl⟩ := own_sl ho2; have HO2 := Lib.hid ho2; have HB2 := Lib.hid hb2; clear ho2 hb0 hb2
  (try dsimp only)
  refine hK.out _ _ (by exact HS.out _ HB2.out) (fun hHeld => ?_)
  clear hK K
  (try simp only [Act.put, List.getElem_toArray, List.getElem_cons_succ, List.getElem_cons_zero, List.setIfInBounds_toArray, List.set_cons_zero, List.set_cons_succ])
  refine wpAnyH_take (i := 9) (v := ?va9) rfl (by kernel_rfl) (by kernel_rfl) (by kernel_rfl) (fun _ _ _ h => h) (Or.inl ⟨by kernel_rfl, ?ya9⟩) (by assumption) ?ra9
  case ya9 => (intro wq hSw; (try dsimp only at hSw); go_simp; (try with_reducible rfl))
  (try simp only [Act.put, List.getElem_toArray, List.getElem_cons_succ, List.getElem_cons_zero, List.setIfInBounds_toArray, List.set_cons_zero, List.set_cons_succ])
  refine wpAnyH_take (i := 10) (v := ?va10) rfl (by kernel_rfl) (by kernel_rfl) (by kernel_rfl) (fun _ _ _ h => h) (Or.inl ⟨by kernel_rfl, ?ya10⟩) (by assumption) ?ra10
  case ya10 => (intro wq hSw; (try dsimp only at hSw); go_simp; (try with_reducible rfl))
  (try simp only [Act.put, List.getElem_toArray, List.getElem_cons_succ, List.getElem_cons_zero, List.setIfInBounds_toArray, List.set_cons_zero, List.set_cons_succ])
  refine wpAnyH_take (i := 11) (v := ?va11) rfl (by kernel_rfl) (by kernel_rfl) (by kernel_rfl) (fun _ _ _ h => h) (Or.inl ⟨by kernel_rfl, ?ya11⟩) (by assumption) ?ra11
  case ya11 => (intro wq hSw; (try dsimp only at hSw); go_simp; (try with_reducible rfl))
  (try simp only [Act.put, List.getElem_toArray, List.getElem_cons_succ, List.getElem_cons_zero, List.setIfInBounds_toArray, List.set_cons_zero, List.set_cons_succ])
  obtain ⟨⟨z0, z1, z2, z3, z4, z5⟩, ⟨f0, f1, f2, f3, f4, f5⟩⟩ := (HZ.out.next HB2.out).at6
  refine wpAnyH_ready (rs := [12]) (by kernel_rfl) (by simp) ?_
  refine AllReadyH.cons rfl (fun K hK => ?_) AllReadyH.nil
  go_simp
  refine hK.out _ _ (by exact HSX.out _ HB2.out _ _ _ _ _ _) (fun hHeld => ?_)
  clear hK K
  (try simp only [Act.put, List.getElem_toArray, List.getElem_cons_succ, List.getElem_cons_zero, List.setIfInBounds_toArray, List.set_cons_zero, List.set_cons_succ])
  refine wpAnyH_take (i := 13) (v := ?va13) rfl (by kernel_rfl) (by kernel_rfl) (by kernel_rfl) (fun _ _ _ h => h) (Or.inl ⟨by kernel_rfl, ?ya13⟩) (by assumption) ?ra13
  case ya13 => (intro wq hSw; (try dsimp only at hSw); go_simp; (try with_reducible rfl))
  (try simp only [Act.put, List.getElem_toArray, List.getElem_cons_succ, List.getElem_cons_zero, List.setIfInBounds_toArray, List.set_cons_zero, List.set_cons_succ])
  refine wpAnyH_done (by kernel_rfl) ?_ _
  refine NoPanic.normal ?_
  clear z0 z1 z2 z3 z4 z5 f0 f1 f2 f3 f4 f5
  have T3 := Lib.hid (tree6 (HTC.out.next HB2.out) (HZ.out.next HB2.out) (.int .i64 R.x) (.int .i64 R.y) (.int .i64 R.w) (.int .i64 R.h) (.int .i64 R.last) (.slice p2 n2 c2))
  have R3 := Lib.hid (far6 (HRC.out.next HB2.out) (show rb ≠ w.heap.size + 1 + 1 by omega) (.int .i64 R.x) (.int .i64 R.y) (.int .i64 R.w) (.int .i64 R.h) (.int .i64 R.last) (.slice p2 n2 c2))
  have A3 := Lib.hid (far6 (HA.out.next HB2.out) (show w.heap.size ≠ w.heap.size + 1 + 1 by omega) (.int .i64 R.x) (.int .i64 R.y) (.int .i64 R.w) (.int .i64 R.h) (.int .i64 R.last) (.slice p2 n2 c2))
  have P3 := Lib.hid (far6 (HP.out.next HB2.out) (show w.heap.size + 1 ≠ w.heap.size + 1 + 1 by omega) (.int .i64 R.x) (.int .i64 R.y) (.int .i64 R.w) (.int .i64 R.h) (.int .i64 R.last) (.slice p2 n2 c2))
  have Z3 := Lib.hid (put6 (HZ.out.next HB2.out) (.int .i64 R.x) (.int .i64 R.y) (.int .i64 R.w) (.int .i64 R.h) (.int .i64 R.last) (.slice p2 n2 c2))
  have O3 := Lib.hid (rows6 HO2.out (HZ.out.next HB2.out) (.int .i64 R.x) (.int .i64 R.y) (.int .i64 R.w) (.int .i64 R.h) (.int .i64 R.last) (.slice p2 n2 c2))
  have L3 := Lib.hid (set6 (HB2.out.on HBL.out HBL.out.size) (show w0.heap.size ≤ w.heap.size + 1 + 1 by have := H5.out; omega) (.int .i64 R.x) (.int .i64 R.y) (.int .i64 R.w) (.int .i64 R.h) (.int .i64 R.last) (.slice p2 n2 c2))
  generalize ((((((w2.setCell ⟨w.heap.size + 1 + 1, 0, none⟩ (.int .i64 R.x)).setCell ⟨w.heap.size + 1 + 1, 1, none⟩ (.int .i64 R.y)).setCell ⟨w.heap.size + 1 + 1, 2, none⟩ (.int .i64 R.w)).setCell ⟨w.heap.size + 1 + 1, 3, none⟩ (.int .i64 R.h)).setCell ⟨w.heap.size + 1 + 1, 4, none⟩ (.int .i64 R.last)).setCell ⟨w.heap.size + 1 + 1, 5, none⟩ (.slice p2 n2 c2)) = w3 at T3 R3 A3 P3 Z3 O3 L3 ⊢
  obtain ⟨⟨b0, b1, b2, b3, b4, b5, b6⟩, -⟩ := A3.out.c7
  obtain ⟨⟨d0, d1⟩, -⟩ := P3.out.c2
  go_wp2_with (go_at_call 21; ((with_reducible refine (HCODE.out _ _ _ T3.out).mono ?_); rintro ex w4 ⟨rfl, hct⟩); have R4 := Lib.hid (CT.ref T3.out hct R3.out); have Z4 := Lib.hid (CT.ref T3.out hct Z3.out); have O4 := Lib.hid (CT.row T3.out hct O3.out); have CO := Lib.hid (CT.out hct L3.out HF.out); obtain ⟨q0, q1, q2, q3, q4, q5⟩ := Z4.out.at6.1; obtain ⟨⟨r0, r1, r2, r3, r4, r5⟩, ⟨g0, g1, g2, g3, g4, g5⟩⟩ := R4.out.at6; clear hct)
  go_ret
  obtain ⟨l', T4, L4, F4⟩ := CO.out
  exact ⟨ret_bool rfl, L', HSN.out, Bo.put T4 R4.out O4.out L4 H5.out F4⟩
end
end Go.Proofs.Ytphmlfklmleafaa
end
