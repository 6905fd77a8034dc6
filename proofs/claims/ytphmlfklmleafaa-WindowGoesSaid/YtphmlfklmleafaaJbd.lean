/- does: what is no call; does whole. The chapter's example, walked. filled: a tree behind calls, and the document's. What both sides show of a window. -/
import Derived.Test.YtphmlfklmleafaaJbc
import Derived.Test.YtphmlfklmleafaaJay
import Derived.Test.YtphmlfklmleafaaJan
section
namespace Go.Proofs.Ytphmlfklmleafaa
open Go.RowKit Go.Shelf Go.Maps
section
variable {w0 w : World} {t rb : Nat} {R : RT} {L : List Win} {k : Nat}
set_option maxRecDepth 100000 in
set_option maxHeartbeats 2000000 in
theorem does_z (S : Sane R L k) (hB : Bo w0 t rb R L w) {z win oth x y a e : Int} (hz : z < 0 ∨ 7 < z) : Calls Try.prog 12 #[treeP t, .pointer (some ⟨rb, 0, none⟩), .agg #[.int .i64 z, .int .i64 win, .int .i64 oth, .int .i64 x, .int .i64 y, .int .i64 a, .int .i64 e]] w fun ex w' => DoR w0 t rb R k ex w' := by
  obtain ⟨l, sv, hT, hR, hO, h4, h5, h6⟩ := hB
  obtain ⟨p, n, c, rfl⟩ := own_sl hO
  obtain ⟨wc, hwc⟩ : ∃ wc, wc = ((w.alloc (.cells #[.int .i64 z, .int .i64 win, .int .i64 oth, .int .i64 x, .int .i64 y, .int .i64 a, .int .i64 e] 39)).alloc (.cells #[.int .i64 x, .int .i64 y] 26)).alloc (.cells (refA R (.slice p n c)) 36) := ⟨_, rfl⟩
  have hbel : Below w.heap.size w wc := by rw [hwc]; exact (((Below.refl _ _).alloc (Nat.le_refl _) _).alloc (by simp) _).alloc (by simp; omega) _
  have B0 : Blk wc w.heap.size 39 #[.int .i64 z, .int .i64 win, .int .i64 oth, .int .i64 x, .int .i64 y, .int .i64 a, .int .i64 e] := by rw [hwc]; exact ((Blk.new w _ _).alloc _).alloc _
  have B1 : Blk wc (w.heap.size + 1) 26 #[.int .i64 x, .int .i64 y] := by
    rw [hwc]
    have := (Blk.new (w.alloc (.cells #[.int .i64 z, .int .i64 win, .int .i64 oth, .int .i64 x, .int .i64 y, .int .i64 a, .int .i64 e] 39)) 26 #[.int .i64 x, .int .i64 y]).alloc (.cells (refA R (.slice p n c)) 36)
    rwa [World.size_alloc] at this
  have B2 : Blk wc (w.heap.size + 1 + 1) 36 (refA R (.slice p n c)) := by
    rw [hwc]
    have := Blk.new ((w.alloc (.cells #[.int .i64 z, .int .i64 win, .int .i64 oth, .int .i64 x, .int .i64 y, .int .i64 a, .int .i64 e] 39)).alloc (.cells #[.int .i64 x, .int .i64 y] 26)) 36 (refA R (.slice p n c))
    rwa [World.size_alloc, World.size_alloc] at this
  have hrb : rb < w.heap.size := hR.lt
  obtain ⟨⟨i0, i1, i2, i3, i4, i5, i6⟩, -⟩ := (Blk.new w 39 #[.int .i64 z, .int .i64 win, .int .i64 oth, .int .i64 x, .int .i64 y, .int .i64 a, .int .i64 e]).c7
  obtain ⟨⟨j0, j1, j2, j3, j4, j5⟩, -⟩ := ((hR.alloc (.cells #[.int .i64 z, .int .i64 win, .int .i64 oth, .int .i64 x, .int .i64 y, .int .i64 a, .int .i64 e] 39)).alloc (.cells #[.int .i64 x, .int .i64 y] 26)).at6
  obtain ⟨⟨a0, a1, a2, a3, a4, a5, a6⟩, -⟩ := B0.c7
  have HS := Lib.hid (fun W (hW : Below wc.heap.size wc W) => (show (((W.cell? ⟨rb, 0, none⟩ = some (.int .i64 R.x) ∧ W.cell? ⟨rb, 1, none⟩ = some (.int .i64 R.y) ∧ W.cell? ⟨rb, 2, none⟩ = some (.int .i64 R.w) ∧ W.cell? ⟨rb, 3, none⟩ = some (.int .i64 R.h) ∧ W.cell? ⟨rb, 4, none⟩ = some (.int .i64 R.last) ∧ W.cell? ⟨rb, 5, none⟩ = some (.slice p n c)) ∧ W.cell? ⟨w.heap.size, 0, none⟩ = some (.int .i64 z) ∧ W.cell? ⟨w.heap.size, 1, none⟩ = some (.int .i64 win) ∧ W.cell? ⟨w.heap.size, 2, none⟩ = some (.int .i64 oth) ∧ W.cell? ⟨w.heap.size, 3, none⟩ = some (.int .i64 x) ∧ W.cell? ⟨w.heap.size, 4, none⟩ = some (.int .i64 y) ∧ W.cell? ⟨w.heap.size, 5, none⟩ = some (.int .i64 a) ∧ W.cell? ⟨w.heap.size, 6, none⟩ = some (.int .i64 e)) ∧ W.cell? ⟨w.heap.size + 1, 0, none⟩ = some (.int .i64 x) ∧ W.cell? ⟨w.heap.size + 1, 1, none⟩ = some (.int .i64 y)) from ⟨⟨((hR.next hbel).next hW).at6.1, (B0.next hW).c7.1⟩, (B1.next hW).c2.1⟩))
  have HSX := Lib.hid (fun W (hW : Below wc.heap.size wc W) (v0 v1 v2 v3 v4 v5 : Value) => (show (fun W => ((W.cell? ⟨rb, 0, none⟩ = some (.int .i64 R.x) ∧ W.cell? ⟨rb, 1, none⟩ = some (.int .i64 R.y) ∧ W.cell? ⟨rb, 2, none⟩ = some (.int .i64 R.w) ∧ W.cell? ⟨rb, 3, none⟩ = some (.int .i64 R.h) ∧ W.cell? ⟨rb, 4, none⟩ = some (.int .i64 R.last) ∧ W.cell? ⟨rb, 5, none⟩ = some (.slice p n c)) ∧ W.cell? ⟨w.heap.size, 0, none⟩ = some (.int .i64 z) ∧ W.cell? ⟨w.heap.size, 1, none⟩ = some (.int .i64 win) ∧ W.cell? ⟨w.heap.size, 2, none⟩ = some (.int .i64 oth) ∧ W.cell? ⟨w.heap.size, 3, none⟩ = some (.int .i64 x) ∧ W.cell? ⟨w.heap.size, 4, none⟩ = some (.int .i64 y) ∧ W.cell? ⟨w.heap.size, 5, none⟩ = some (.int .i64 a) ∧ W.cell? ⟨w.heap.size, 6, none⟩ = some (.int .i64 e)) ∧ W.cell? ⟨w.heap.size + 1, 0, none⟩ = some (.int .i64 x) ∧ W.cell? ⟨w.heap.size + 1, 1, none⟩ = some (.int .i64 y)) ((((((W.setCell ⟨w.heap.size + 1 + 1, 0, none⟩ v0).setCell ⟨w.heap.size + 1 + 1, 1, none⟩ v1).setCell ⟨w.heap.size + 1 + 1, 2, none⟩ v2).setCell ⟨w.heap.size + 1 + 1, 3, none⟩ v3).setCell ⟨w.heap.size + 1 + 1, 4, none⟩ v4).setCell ⟨w.heap.size + 1 + 1, 5, none⟩ v5) from
    ⟨⟨(far6 ((hR.next hbel).next hW) (by omega) v0 v1 v2 v3 v4 v5).at6.1, (far6 (B0.next hW) (by omega) v0 v1 v2 v3 v4 v5).c7.1⟩, (far6 (B1.next hW) (by omega) v0 v1 v2 v3 v4 v5).c2.1⟩))
  have HOC := Lib.hid (fun W (hW : Below wc.heap.size wc W) => (show RO W (.slice p n c) L from OwK.below (OwK.below hO hbel) hW))
  have HTC := Lib.hid (hT.next hbel)
  have HRC := Lib.hid (hR.next hbel)
  have HZ := Lib.hid B2
  have HA := Lib.hid B0
  have HP := Lib.hid B1
  have HBL := Lib.hid (hbel.on h4 h4.size)
  have HSN := Lib.hid S
  have HF := Lib.hid h6
  have HW := Lib.hid hwc
  have H5 := Lib.hid h5
  clear hT hR hO h4 h5 h6 hbel B0 B1 B2 hwc S
  have n0 : (z == 0) = false := by simp; omega
  have n1 : (z == 1) = false := by simp; omega
  have n2 : (z == 2) = false := by simp; omega
  have n3 : (z == 3) = false := by simp; omega
  have n4 : (z == 4) = false := by simp; omega
  have n5 : (z == 5) = false := by simp; omega
  have n6 : (z == 6) = false := by simp; omega
  have n7 : (z == 7) = false := by simp; omega
  have R3 := Lib.hid HRC.out
  obtain ⟨q0, q1, q2, q3, q4, q5⟩ := HZ.out.at6.1
  obtain ⟨⟨r0, r1, r2, r3, r4, r5⟩, ⟨g0, g1, g2, g3, g4, g5⟩⟩ := HRC.out.at6
  clear hz
  go_enter Try.func12, Try.ntmps12
  go_upto_region 3 with fail
  rw [← HW.out]
  clear i0 i1 i2 i3 i4 i5 i6 j0 j1 j2 j3 j4 j5
  go_wp2_with fail
  go_ret
  exact ⟨ret_bool rfl, L, HSN.out, Bo.put (sv' := .slice p n c) HTC.out HRC.out (HOC.out _ (Below.refl _ _)) HBL.out H5.out HF.out⟩
theorem does_c (S : Sane R L k) (hk1 : k + 1 ≤ 1000) (hB : Bo w0 t rb R L w) (A : Ac) (hA : A.ok) : Calls Try.prog 12 #[treeP t, .pointer (some ⟨rb, 0, none⟩), .agg #[.int .i64 A.kind, .int .i64 A.win, .int .i64 A.other, .int .i64 A.x, .int .i64 A.y, .int .i64 A.a, .int .i64 A.e]] w fun ex w' => DoQ w0 t rb R (k + 1) ex w' := by
  obtain ⟨z, win, oth, x, y, a, e⟩ := A
  obtain ⟨hi, ho⟩ := hA
  by_cases h0 : z < 0 ∨ 7 < z
  · exact (does_z S hB h0).mono fun ex w' h => DoR.q h hk1
  · have hz : z = 0 ∨ z = 1 ∨ z = 2 ∨ z = 3 ∨ z = 4 ∨ z = 5 ∨ z = 6 ∨ z = 7 := by omega
    rcases hz with rfl | rfl | rfl | rfl | rfl | rfl | rfl | rfl
    · exact (does_0 S hB hi ho).mono fun ex w' h => DoR.q h hk1
    · exact (does_1 S hB hi ho).mono fun ex w' h => DoR.q h hk1
    · exact (does_2 S hB hi ho).mono fun ex w' h => DoR.q h hk1
    · exact (does_3 S hB hi ho).mono fun ex w' h => DoR.q h hk1
    · exact (does_4 S hB hi ho).mono fun ex w' h => DoR.q h hk1
    · exact does_5 S hB hi ho hk1
    · exact (does_6 S hB hi ho).mono fun ex w' h => DoR.q h hk1
    · exact (does_7 S hB hi ho).mono fun ex w' h => DoR.q h hk1
end
end Go.Proofs.Ytphmlfklmleafaa
end
section
namespace Go.Proofs.Ytphmlfklmleafaa
open Go.RowKit Go.Shelf Go.Maps
theorem rect_w (x y a e : Int) (w : World) : Calls Try.prog 33 #[.int .i64 x, .int .i64 y, .int .i64 a, .int .i64 e] w fun ex w' => ex = .returned (.agg #[.int .i64 x, .int .i64 y, .int .i64 a, .int .i64 e]) ∧ Below w.heap.size w w' := by
  go_enter Try.func33, Try.ntmps33
  go_wp2_with fail
  refine bodyPost_ret (v := .agg #[.int .i64 x, .int .i64 y, .int .i64 a, .int .i64 e]) (by simp [results, Try.results33, go_sem]) rfl ?_
  exact ⟨rfl, (Below.refl _ w).alloc (Nat.le_refl _) _⟩
theorem begun_w {x y a b : Int} (w : World) (hr : emptyB x y a b = false) : Calls Try.prog 32 #[.agg #[.int .i64 x, .int .i64 y, .int .i64 a, .int .i64 b]] w fun e w' => ∃ t, e = .returned (treeP t) ∧ Wst w t (nd0 x y a b) 0 1 w' := by
  obtain ⟨wb, hwb⟩ : ∃ wb, wb = w.alloc (.cells #[.int .i64 x, .int .i64 y, .int .i64 a, .int .i64 b] 23) := ⟨_, rfl⟩
  have hbel : Below w.heap.size w wb := by rw [hwb]; exact (Below.refl _ _).alloc (Nat.le_refl _) _
  have hbx : Blk wb w.heap.size 23 #[.int .i64 x, .int .i64 y, .int .i64 a, .int .i64 b] := by rw [hwb]; exact Blk.new w _ _
  obtain ⟨⟨x0, x1, x2, x3⟩, -⟩ := hbx.c4
  have HN := Lib.hid (new_c wb hr)
  have HB := Lib.hid hbel
  have HW := Lib.hid hwb
  clear hr hbel hbx
  go_enter Try.func32, Try.ntmps32
  go_upto_region 1 with fail
  rw [← HW.out]
  clear hwb
  go_wp2_with (go_at_call 9; ((with_reducible refine (HN.out).mono ?_); rintro e w1 ⟨t, rfl, hT⟩); have HT := Lib.hid hT; clear hT)
  go_ret
  obtain ⟨l, _, h1, h2, h3⟩ := HT.out
  exact ⟨_, rfl, l, h1, h2.on HB.out HB.out.size, fun b hb => Nat.le_trans HB.out.size (h3 b hb)⟩
theorem point_kept {w w' : World} {x y : Int} (hb : Below (w.alloc (.cells #[.int .i64 x, .int .i64 y] 26)).heap.size (w.alloc (.cells #[.int .i64 x, .int .i64 y] 26)) w') : Blk w' w.heap.size 26 #[.int .i64 x, .int .i64 y] := (Blk.new w _ _).next hb
theorem Wst.alloc {w0 wx : World} {t : Nat} {nd : Int → Option Nd} {made : Int} {cnt : Nat} (h : Wst w0 t nd made cnt wx) (o : Obj) : Wst w0 t nd made cnt (wx.alloc o) := h.next ((Below.refl _ _).alloc (Nat.le_refl _) o)
theorem awk0_fresh : nd0 0 0 100 100 (0 + 1) = none := rfl
theorem awk1_fresh : awk1 (0 + 1 + 1) = none := rfl
theorem nd0_kids (x y a e : Int) : ∀ j dj, nd0 x y a e j = some dj → dj.kids.length ≤ 4096 := by
  intro j dj h
  unfold nd0 upd at h
  split at h
  · injection h with h; subst h; exact Nat.zero_le _
  · cases h
theorem awk1_kids : ∀ j dj, awk1 j = some dj → dj.kids.length ≤ 4096 := by
  intro i d h
  rw [awk1_is] at h
  split at h
  · injection h with h; subst h; decide
  · split at h
    · injection h with h; subst h; decide
    · cases h
set_option maxRecDepth 100000 in
set_option maxHeartbeats 8000000 in
theorem awake_c (w : World) : Calls Try.prog 11 #[] w fun e w' => e = .returned (.bool true) ∧ Below w.heap.size w w' := by
  have HBG := Lib.hid (fun W => begun_w (x := 0) (y := 0) (a := 100) (b := 100) W (by decide))
  have HR1 := Lib.hid (fun W => rect_w 0 0 100 100 W)
  have HR2 := Lib.hid (fun W => rect_w 10 10 50 50 W)
  have HR3 := Lib.hid (fun W => rect_w 5 5 50 50 W)
  have HC1 := Lib.hid (fun (w0 wx : World) (t : Nat) (h : Wst w0 t (nd0 0 0 100 100) 0 1 wx) => (show Calls Try.prog 26 #[treeP t, .int .i64 0, .agg #[.int .i64 10, .int .i64 10, .int .i64 50, .int .i64 50]] wx fun ex w' => ex = .returned (.tuple #[.int .i64 1, .int .i64 0]) ∧ Wst w0 t awk1 1 2 w' from
    h.create (d0 := rootNd 0 0 100 100) (q := 0) (x := 10) (y := 10) (a := 50) (e := 50) (dq := rootNd 0 0 100 100) rfl i64_0 (by decide) (by decide) awk0_fresh (by decide) (nd0_kids _ _ _ _) rfl (by decide)))
  have HC2 := Lib.hid (fun (w0 wx : World) (t : Nat) (h : Wst w0 t awk1 1 2 wx) => (show Calls Try.prog 26 #[treeP t, .int .i64 1, .agg #[.int .i64 5, .int .i64 5, .int .i64 50, .int .i64 50]] wx fun ex w' => ex = .returned (.tuple #[.int .i64 2, .int .i64 0]) ∧ Wst w0 t awk2 2 3 w' from
    h.create (d0 := ⟨⟨0, -1, 0, 0, 100, 100, true⟩, [1]⟩) (q := 1) (x := 5) (y := 5) (a := 50) (e := 50) (dq := ⟨⟨1, 0, 10, 10, 50, 50, false⟩, []⟩) rfl ⟨by decide, by decide⟩ (by decide) (by decide) awk1_fresh (by decide) awk1_kids rfl (by decide)))
  have HM1 := Lib.hid (fun (w0 wx : World) (t : Nat) (h : Wst w0 t awk2 2 3 wx) => (show Calls Try.prog 29 #[treeP t, .int .i64 1, .bool true] wx fun ex w' => ex = .returned (.int .i64 0) ∧ Wst w0 t awk3 2 3 w' from
    h.map (d0 := ⟨⟨0, -1, 0, 0, 100, 100, true⟩, [1]⟩) (i := 1) (d := ⟨⟨1, 0, 10, 10, 50, 50, false⟩, [2]⟩) rfl ⟨by decide, by decide⟩ rfl (by decide) true))
  have HM2 := Lib.hid (fun (w0 wx : World) (t : Nat) (h : Wst w0 t awk3 2 3 wx) => (show Calls Try.prog 29 #[treeP t, .int .i64 2, .bool true] wx fun ex w' => ex = .returned (.int .i64 0) ∧ Wst w0 t awk4 2 3 w' from
    h.map (d0 := ⟨⟨0, -1, 0, 0, 100, 100, true⟩, [1]⟩) (i := 2) (d := ⟨⟨2, 1, 5, 5, 50, 50, false⟩, []⟩) rfl ⟨by decide, by decide⟩ rfl (by decide) true))
  have HAB := Lib.hid (fun (w0 wx : World) (t : Nat) (h : Wst w0 t awk4 2 3 wx) => (show Calls Try.prog 22 #[treeP t, .int .i64 2] wx fun ex w' => ex = .returned (.tuple #[.agg #[.int .i64 15, .int .i64 15], .bool true]) ∧ Below wx.heap.size wx w' from
    h.abs awk4_wide awk4_way2))
  have HU1 := Lib.hid (fun (w0 wx : World) (t : Nat) (h : Wst w0 t awk4 2 3 wx) => (show Calls Try.prog 15 #[treeP t, .agg #[.int .i64 20, .int .i64 20]] wx fun ex w' => ex = .returned (.tuple #[.int .i64 2, .bool true]) ∧ Below wx.heap.size wx w' from
    (h.under awk4_wide awk4_kids (d := ⟨⟨0, -1, 0, 0, 100, 100, true⟩, [1]⟩) rfl awk4_tall).mono fun e w' ⟨he, hb⟩ => ⟨by rw [he, if_pos (by decide), awk4_see1], hb⟩))
  have HU2 := Lib.hid (fun (w0 wx : World) (t : Nat) (h : Wst w0 t awk4 2 3 wx) => (show Calls Try.prog 15 #[treeP t, .agg #[.int .i64 12, .int .i64 12]] wx fun ex w' => ex = .returned (.tuple #[.int .i64 1, .bool true]) ∧ Below wx.heap.size wx w' from
    (h.under awk4_wide awk4_kids (d := ⟨⟨0, -1, 0, 0, 100, 100, true⟩, [1]⟩) rfl awk4_tall).mono fun e w' ⟨he, hb⟩ => ⟨by rw [he, if_pos (by decide), awk4_see2], hb⟩))
  have HU3 := Lib.hid (fun (w0 wx : World) (t : Nat) (h : Wst w0 t awk4 2 3 wx) => (show Calls Try.prog 15 #[treeP t, .agg #[.int .i64 61, .int .i64 61]] wx fun ex w' => ex = .returned (.tuple #[.int .i64 0, .bool true]) ∧ Below wx.heap.size wx w' from
    (h.under awk4_wide awk4_kids (d := ⟨⟨0, -1, 0, 0, 100, 100, true⟩, [1]⟩) rfl awk4_tall).mono fun e w' ⟨he, hb⟩ => ⟨by rw [he, if_pos (by decide), awk4_see3], hb⟩))
  have HRP := Lib.hid (fun (w0 wx : World) (t : Nat) (h : Wst w0 t awk4 2 3 wx) => (show Calls Try.prog 21 #[treeP t, .int .i64 1, .int .i64 2, .agg #[.int .i64 15, .int .i64 15]] wx fun ex w' => ex = .returned (.int .i64 61) ∧ Below wx.heap.size wx w' from by
    obtain ⟨l, h1, h2, h3⟩ := h
    obtain ⟨b0, hb0⟩ := h1.block (i := 0) (d := ⟨⟨0, -1, 0, 0, 100, 100, true⟩, [1]⟩) rfl
    obtain ⟨b1, hb1⟩ := h1.block (i := 1) (d := ⟨⟨1, 0, 10, 10, 50, 50, true⟩, [2]⟩) rfl
    obtain ⟨b2, hb2⟩ := h1.block (i := 2) (d := ⟨⟨2, 1, 5, 5, 50, 50, true⟩, []⟩) rfl
    refine (repar_c h1 awk4_wide hb0 (i := 1) (q := 2) (x := 15) (y := 15) ⟨by decide, by decide⟩ ⟨by decide, by decide⟩ hb1 (d := ⟨⟨1, 0, 10, 10, 50, 50, true⟩, [2]⟩) rfl (by decide) hb0 (dp := ⟨⟨0, -1, 0, 0, 100, 100, true⟩, [1]⟩) rfl (by decide) i64_0 awk4_kids 2 (.inr awk4_way2)).mono ?_
    intro e w' hR
    unfold ReparR at hR
    rw [if_neg (by rw [hb2]; simp), if_pos (by decide)] at hR
    exact hR))
  go_enter Try.func11, Try.ntmps11
  go_wp2_with (first
    | (go_at_call 33; first | ((with_reducible refine (HR1.out _).mono ?_); rintro e wr1 ⟨rfl, hb1⟩; have HB1 := Lib.hid hb1; clear hb1 HR1) | ((with_reducible refine (HR2.out _).mono ?_); rintro e wr2 ⟨rfl, hb2⟩; have T2 := Lib.hid (T1.out.next hb2); clear hb2 HR2) | ((with_reducible refine (HR3.out _).mono ?_); rintro e wr3 ⟨rfl, hb3⟩; have T4 := Lib.hid (T3.out.next hb3); clear hb3 HR3))
    | (go_at_call 32; ((with_reducible refine (HBG.out _).mono ?_); rintro e wt1 ⟨t, rfl, hT⟩); have T1 := Lib.hid hT; clear hT)
    | (go_at_call 26; first | ((with_reducible refine (HC1.out _ _ _ T2.out).mono ?_); rintro e wt3 ⟨rfl, hT⟩; have T3 := Lib.hid hT; clear hT HC1) | ((with_reducible refine (HC2.out _ _ _ T4.out).mono ?_); rintro e wt5 ⟨rfl, hT⟩; have T5 := Lib.hid hT; clear hT HC2))
    | (go_at_call 29; first | ((with_reducible refine (HM1.out _ _ _ T5.out).mono ?_); rintro e wt6 ⟨rfl, hT⟩; have T6 := Lib.hid hT; clear hT HM1) | ((with_reducible refine (HM2.out _ _ _ T6.out).mono ?_); rintro e wt7 ⟨rfl, hT⟩; have T7 := Lib.hid hT; clear hT HM2))
    | (go_at_call 22; ((with_reducible refine (HAB.out _ _ _ T7.out).mono ?_); rintro e wt8 ⟨rfl, hb8⟩); have T8 := Lib.hid (T7.out.next hb8); clear hb8)
    | (go_at_call 15; first
      | ((with_reducible refine (HU1.out _ _ _ (T8.out.alloc _)).mono ?_); rintro e wt9 ⟨rfl, hb9⟩; have T9 := Lib.hid ((T8.out.alloc _).next hb9); have P9 := Lib.hid (point_kept hb9); clear hb9 HU1)
      | ((with_reducible refine (HU2.out _ _ _ T9.out).mono ?_); rintro e wt10 ⟨rfl, hb10⟩; have T10 := Lib.hid (T9.out.next hb10); have P10 := Lib.hid (P9.out.next hb10); clear hb10 HU2)
      | ((with_reducible refine (HU3.out _ _ _ T10.out).mono ?_); rintro e wt11 ⟨rfl, hb11⟩; have T11 := Lib.hid (T10.out.next hb11); obtain ⟨p0, p1⟩ := (P10.out.next hb11).c2.1; clear hb11 HU3))
    | (go_at_call 21; ((with_reducible refine (HRP.out _ _ _ T11.out).mono ?_); rintro e wt12 ⟨rfl, hb12⟩); have T12 := Lib.hid (T11.out.next hb12); clear hb12))
  go_ret
  exact ⟨rfl, T12.out.below.on HB1.out HB1.out.size⟩
end Go.Proofs.Ytphmlfklmleafaa
end
section
namespace Go.Proofs.Ytphmlfklmleafaa
open Go.RowKit Go.Shelf Go.Maps
abbrev R100 : RT := ⟨0, 0, 100, 100, 0⟩
theorem nd_begin (R : RT) : ndL R [] = nd0 R.x R.y R.w R.h := by
  funext i
  unfold ndL getR nd0 upd findL
  by_cases hi : i = 0
  · rw [if_pos hi, if_pos hi]; rfl
  · rw [if_neg hi, if_neg hi]; rfl
theorem good_begin (R : RT) : Good R [] := ⟨List.nodup_nil, (fun v hv => by cases hv), (fun v hv => by cases hv)⟩
theorem sane_begin (R : RT) (hl : R.last = 0) : Sane R [] 0 := ⟨good_begin R, by omega, by omega, Nat.le_refl _, by omega⟩
/-- The rounds of filled. -/
def FlS (w0 : World) (t rb : Nat) (k : Nat) (wr : World) : Prop := ∃ R L, (R.x = 0 ∧ R.y = 0 ∧ R.w = 100 ∧ R.h = 100) ∧ Sane R L k ∧ Bo w0 t rb R L wr
/-- What filled answers. -/
def FlR (w : World) (e : Ending) (w' : World) : Prop := ∃ t rb, e = .returned (.tuple #[treeP t, .pointer (some ⟨rb, 0, none⟩)]) ∧ FlS w t rb 40 w'
set_option maxRecDepth 100000 in
set_option maxHeartbeats 2000000 in
theorem filled_c (w : World) (va : Value) (As : List Ac) (hI : IsActs w.heap.size w va As) : Calls Try.prog 17 #[va] w fun e w' => FlR w e w' := by
  have HI := Lib.hid (fun W (hW : Below w.heap.size w W) => hI.below hW)
  obtain ⟨p, c, rfl, -⟩ := id hI
  have HBG := Lib.hid (fun W => begun_w (x := 0) (y := 0) (a := 100) (b := 100) W (by decide))
  obtain ⟨n, hn⟩ : ∃ n, n = As.length := ⟨_, rfl⟩
  rw [← hn] at HI ⊢
  have HN := Lib.hid hn
  clear hI hn
  go_enter Try.func17, Try.ntmps17
  go_upto_region 2 with (first
    | (go_at_call 33; ((with_reducible refine (rect_w 0 0 100 100 _).mono ?_); rintro e w1 ⟨rfl, hb1⟩); have HB1 := Lib.hid hb1; clear hb1)
    | (go_at_call 32; ((with_reducible refine (HBG.out _).mono ?_); rintro e w2 ⟨t, rfl, hst⟩); have HST := Lib.hid hst; clear hst))
  go_upto_region 3 with (go_at_call 33; ((with_reducible refine (rect_w 0 0 100 100 _).mono ?_); rintro e w3 ⟨rfl, hb3⟩); have HB3 := Lib.hid hb3; clear hb3)
  have hbo : Bo w t w3.heap.size R100 [] (w3.alloc (.cells #[.int .i64 0, .int .i64 0, .int .i64 100, .int .i64 100, .int .i64 0, .slice none 0 0] 36)) := by
    obtain ⟨l, h1, h2, h3⟩ := HST.out
    have h4 := HB3.out.alloc HB3.out.size (.cells #[.int .i64 0, .int .i64 0, .int .i64 100, .int .i64 100, .int .i64 0, .slice none 0 0] 36)
    have hw2 := h2.on HB1.out HB1.out.size
    refine ⟨l, .slice none 0 0, ?_, Blk.new _ _ _, OwK.nil _ _, h4.on hw2 hw2.size, Nat.le_trans hw2.size HB3.out.size, fun b hb => Nat.le_trans HB1.out.size (h3 b hb)⟩
    have h5 := h1.next h4
    rw [← nd_begin R100] at h5
    exact h5
  have HBO := Lib.hid hbo
  obtain ⟨rb, hrb⟩ : ∃ rb, rb = w3.heap.size := ⟨_, rfl⟩
  rw [← hrb] at HBO ⊢
  clear hbo hrb
  generalize w3.alloc (.cells #[.int .i64 0, .int .i64 0, .int .i64 100, .int .i64 100, .int .i64 0, .slice none 0 0] 36) = w4 at HBO ⊢
  go_wp2_with fail
  go_loopw [6] (fun z wr => ∃ k : Nat, k ≤ n ∧ k ≤ 40 ∧ z = .int .i64 k ∧ FlS w t rb k wr) (fun z _ => 40 - (intOf z).toNat)
  case atStart => exact ⟨0, Nat.zero_le _, by omega, rfl, R100, [], ⟨rfl, rfl, rfl, rfl⟩, sane_begin _ rfl, HBO.out⟩
  case round =>
    obtain ⟨k, hk, hk4, rfl, R, L, hR, hS, hB⟩ := hrel
    have HR := Lib.hid hR
    have HS := Lib.hid hS
    have HB := Lib.hid hB
    have hk0 : (0 : Int) ≤ (k : Int) := by omega
    clear hR hS hB
    by_cases hlt : k < n
    · have hk1 : (k : Int) < (n : Int) := by omega
      by_cases h40 : k < 40
      · have hk2 : (k : Int) < 40 := by omega
        obtain ⟨A, hA⟩ : ∃ A, As[k]? = some A := ⟨_, List.getElem?_eq_getElem (by rw [← HN.out]; exact hlt)⟩
        have hcell : ∃ b o, p = some ⟨b, o, none⟩ ∧ (∀ (i : Nat) (u : Value), A.cells[i]? = some u → wr.cell? ⟨b, o + k * 7 + i, none⟩ = some u) ∧ A.ok := by
          obtain ⟨p', c', e', -, hcell⟩ := HI.out wr HB.out.below
          injection e' with e1 _ _
          subst e1
          obtain ⟨b, o, hpb, -, hc, hok⟩ := hcell k A hA
          exact ⟨b, o, hpb, hc, hok⟩
        obtain ⟨b, o, rfl, hc, hok⟩ := hcell
        have HD := Lib.hid (does_c HS.out (by omega) HB.out A hok)
        obtain ⟨kk, win, oth, ax, ay, aa, ae⟩ := A
        have c0 : wr.cell? ⟨b, o + k * 7, none⟩ = some (.int .i64 kk) := hc 0 _ rfl
        have c1 : wr.cell? ⟨b, o + k * 7 + 1, none⟩ = some (.int .i64 win) := hc 1 _ rfl
        have c2 : wr.cell? ⟨b, o + k * 7 + 2, none⟩ = some (.int .i64 oth) := hc 2 _ rfl
        have c3 : wr.cell? ⟨b, o + k * 7 + 3, none⟩ = some (.int .i64 ax) := hc 3 _ rfl
        have c4 : wr.cell? ⟨b, o + k * 7 + 4, none⟩ = some (.int .i64 ay) := hc 4 _ rfl
        have c5 : wr.cell? ⟨b, o + k * 7 + 5, none⟩ = some (.int .i64 aa) := hc 5 _ rfl
        have c6 : wr.cell? ⟨b, o + k * 7 + 6, none⟩ = some (.int .i64 ae) := hc 6 _ rfl
        clear hc hok hA
        go_wp2_with (go_at_call 12; ((with_reducible refine (HD.out).mono ?_); rintro e w5 ⟨rfl, R', L', hs5, hS5, hB5⟩); have HS5 := Lib.hid hs5; have HSN5 := Lib.hid hS5; have HB5 := Lib.hid hB5; clear hs5 hS5 hB5)
        go_roundw
        case rel => exact ⟨k + 1, by omega, by omega, by go_num, R', L', by have h1 := HS5.out; have h2 := HR.out; exact ⟨h1.1.trans h2.1, h1.2.1.trans h2.2.1, h1.2.2.1.trans h2.2.2.1, h1.2.2.2.trans h2.2.2.2⟩, HSN5.out, HB5.out⟩
        case measure => simp [intOf]; omega
      · have hk2 : ¬ (k : Int) < 40 := by omega
        go_wp2_with fail
        go_ret2
        exact ⟨t, rb, rfl, R, L, HR.out, HS.out.le hk4 (by omega), HB.out⟩
    · have hk1 : ¬ (k : Int) < (n : Int) := by omega
      go_wp2_with fail
      go_ret2
      exact ⟨t, rb, rfl, R, L, HR.out, HS.out.le hk4 (by omega), HB.out⟩
end Go.Proofs.Ytphmlfklmleafaa
end
section
namespace Go.Proofs.Ytphmlfklmleafaa
open Go.RowKit Go.Shelf Go.Maps
section
variable {R : RT} {L : List Win} {k : Nat}
/-- What is shown of a window: the same by the code and by the document. -/
structure Shown (R : RT) (L : List Win) (i : Int) (v : Win) (ok : Bool) (px py : Int) (th : Bool) (ks : List Int) (vw : Bool) : Prop where
  cget : ∀ (W : World) (t : Nat) (l : Lay), TB W t l R L → Calls Try.prog 19 #[treeP t, .int .i64 i] W fun e w' => e = .returned (.tuple #[winV v, .bool ok]) ∧ Below W.heap.size W w'
  rget : ∀ (W : World) (sv : Value), RW W sv L → Calls Try.prog 39 #[refV R sv, .int .i64 i] W fun e w' => e = .returned (.tuple #[winV v, .bool ok]) ∧ Below W.heap.size W w'
  cabs : ∀ (W : World) (t : Nat) (l : Lay), TB W t l R L → Calls Try.prog 22 #[treeP t, .int .i64 i] W fun e w' => e = .returned (.tuple #[.agg #[.int .i64 px, .int .i64 py], .bool th]) ∧ Below W.heap.size W w'
  rabs : ∀ (W : World) (sv : Value), RW W sv L → Calls Try.prog 40 #[refV R sv, .int .i64 i] W fun e w' => e = .returned (.tuple #[.agg #[.int .i64 px, .int .i64 py], .bool th]) ∧ Below W.heap.size W w'
  ckids : ∀ (W : World) (t : Nat) (l : Lay), TB W t l R L → Calls Try.prog 18 #[treeP t, .int .i64 i] W fun e w' => ∃ v', e = .returned v' ∧ RdI w' v' ks ∧ Below W.heap.size W w'
  rkids : ∀ (W : World) (sv : Value), RW W sv L → Calls Try.prog 41 #[refV R sv, .int .i64 i] W fun e w' => ∃ v', e = .returned v' ∧ RdI w' v' ks ∧ Below W.heap.size W w'
  cview : ∀ (W : World) (t : Nat) (l : Lay), TB W t l R L → Calls Try.prog 24 #[treeP t, .int .i64 i] W fun e w' => e = .returned (.bool vw) ∧ Below W.heap.size W w'
  rview : ∀ (W : World) (sv : Value), RW W sv L → Calls Try.prog 42 #[refV R sv, .int .i64 i] W fun e w' => e = .returned (.bool vw) ∧ Below W.heap.size W w'
theorem no_kids (S : Sane R L k) {i : Int} (hn : ndL R L i = none) : kidsL L i = [] := by
  unfold kidsL
  rw [List.map_eq_nil_iff, List.filter_eq_nil_iff]
  intro u hu hp
  obtain ⟨d, hd⟩ := par_there S.toGood hu
  rw [show u.par = i by simpa using hp, hn] at hd
  cases hd
theorem shown_none (S : Sane R L k) {i : Int} (hi : I64 i) (hn : ndL R L i = none) : Shown R L i zeroW false 0 0 false [] false := by
  have hL : L.length ≤ 1048576 := by have := S.big; omega
  have hg : getR R L i = none := by
    unfold ndL at hn
    cases h : getR R L i with
    | none => rfl
    | some v => rw [h] at hn; cases hn
  have hk := no_kids S hn
  refine ⟨fun W t l hT => get_none hT hi (none_b hT hn), fun W sv hR => ?_, fun W t l hT => abs_none hT hi (none_b hT hn), fun W sv hR => rabs_none hR hL hg, fun W t l hT => (kids_none hT hi (none_b hT hn)).mono fun e w' h => ⟨_, h.1, ⟨none, 0, rfl, fun j x hx => by simp at hx⟩, h.2 ▸ Below.refl _ _⟩, fun W sv hR => ?_, fun W t l hT => (view_none hT hi (none_b hT hn)).mono fun e w' h => ⟨h.1, h.2 ▸ Below.refl _ _⟩, fun W sv hR => rview_none hR hL hg⟩
  · have h := rget_c (R := R) hR hL i
    rw [hg] at h
    exact h
  · have h := rkids_c (R := R) hR hL i
    rw [hk] at h
    exact h.mono fun e w' ⟨v', h1, h2, h3⟩ => ⟨v', h1, RdI.of (xs := []) h2, h3⟩
theorem shown_some (S : Sane R L k) {i : Int} (hi : I64 i) {d : Nd} (hd : ndL R L i = some d) : ∃ m, Way (ndL R L) m i ∧ Shown R L i d.win true (IntKind.i64.wrap (absX (ndL R L) m i)) (IntKind.i64.wrap (absY (ndL R L) m i)) true (kidsL L i) (viewB (ndL R L) m i) := by
  have hL : L.length ≤ 1048576 := by have := S.big; omega
  obtain ⟨m, hm⟩ := S.any hd
  obtain ⟨h1, h2⟩ := ndL_some hd
  refine ⟨m, hm, fun W t l hT => get_c hT hi hd, fun W sv hR => ?_, fun W t l hT => abs_c S.wide m i W hT hm, fun W sv hR => rabs_c hR hL hm hm.le, fun W t l hT => (kids_c hT hi hd (by have := S.kids _ _ hd; omega)).mono fun e w' h => ?_, fun W sv hR => (rkids_c (R := R) hR hL i).mono fun e w' ⟨v', h1, h2, h3⟩ => ⟨v', h1, RdI.of h2, h3⟩, fun W t l hT => (view_c S.wide m i W hT hm).mono fun e w' h => ⟨h.1, h.2 ▸ Below.refl _ _⟩, fun W sv hR => rview_c hR hL hm hm.le⟩
  · have h := rget_c (R := R) hR hL i
    rw [h1] at h
    exact h
  · obtain ⟨v', k1, k2⟩ := h
    rw [h2] at k2
    exact ⟨v', k1, RdI.of k2.1, k2.2⟩
end
end Go.Proofs.Ytphmlfklmleafaa
end
