/- shows, walked. -/
import Derived.Test.YtphmlfklmleafaaJbd
import Derived.Deep.RegionHeld3
section
namespace Go.Proofs.Ytphmlfklmleafaa
open Go.RowKit Go.Shelf Go.Maps
theorem ints_same (va vb : Value) (ks : List Int) (w : World) (ha : RdI w va ks) (hb : RdI w vb ks) (hl : ks.length ≤ 1048576) : Calls Try.prog 23 #[va, vb] w fun e w' => e = .returned (.bool true) ∧ Below w.heap.size w w' := by
  have h := ints_c va vb ks ks w ha hb hl hl
  rw [show decide (ks = ks) = true by simp] at h
  exact h
section
variable {w : World} {R : RT} {L : List Win} {sv : Value} {t : Nat} {l : Lay}
set_option maxRecDepth 100000 in
set_option maxHeartbeats 2000000 in
theorem shows_c {i : Int} {v : Win} {ok : Bool} {px py : Int} {th : Bool} {ks : List Int} {vb : Bool} (hS : Shown R L i v ok px py th ks vb) (hks : ks.length ≤ 1048576) (hT : TB w t l R L) (hR : RO w sv L) :
    Calls Try.prog 14 #[treeP t, refV R sv, .int .i64 i] w fun e w' => e = .returned (.bool true) ∧ Below w.heap.size w w' := by
  obtain ⟨p, n, c, rfl⟩ := own_sl hR
  obtain ⟨vid, vpar, vx, vy, vw, vh, von⟩ := v
  obtain ⟨wb, hwb⟩ : ∃ wb, wb = w.alloc (.cells (refA R (.slice p n c)) 36) := ⟨_, rfl⟩
  have hbel : Below w.heap.size w wb := by rw [hwb]; exact (Below.refl _ _).alloc (Nat.le_refl _) _
  have hbx : Blk wb w.heap.size 36 (refA R (.slice p n c)) := by rw [hwb]; exact Blk.new w _ _
  have HS0 := Lib.hid hS
  have HT0 := Lib.hid (fun W (hW : Below wb.heap.size wb W) => (show TB W t l R L from (hT.next hbel).next hW))
  have HR0 := Lib.hid (fun W (hW : Below wb.heap.size wb W) => RO.rd (L := L) (sv := .slice p n c) (OwK.below (OwK.below hR hbel) hW))
  have HX := Lib.hid (fun W (hW : Below wb.heap.size wb W) => hbx.next hW)
  have HK := Lib.hid hks
  have HB := Lib.hid hbel
  have HW := Lib.hid hwb
  have e0 : (vid == vid) = true := by simp
  have e1 : (vpar == vpar) = true := by simp
  have e2 : (vx == vx) = true := by simp
  have e3 : (vy == vy) = true := by simp
  have e4 : (vw == vw) = true := by simp
  have e5 : (vh == vh) = true := by simp
  have e6 : (von == von) = true := by simp
  have e7 : (ok == ok) = true := by simp
  have e8 : (px == px) = true := by simp
  have e9 : (py == py) = true := by simp
  have e10 : (th == th) = true := by simp
  have e11 : (vb == vb) = true := by simp
  clear hS hT hR hbel hbx hks
  go_enter Try.func14, Try.ntmps14
  go_upto_region 1 with fail
  rw [← HW.out]
  clear hwb
  go_upto_region 2 with (go_at_call 19; ((with_reducible refine (HS0.out.cget _ _ _ (HT0.out _ (Below.refl _ _))).mono ?_); rintro ex w1 ⟨rfl, hb⟩); have B1 := Lib.hid hb; have HBW1 := Lib.hid hb; clear hb)
  have b1 := B1.out.alloc B1.out.size (.cells #[.int .i64 vid, .int .i64 vpar, .int .i64 vx, .int .i64 vy, .int .i64 vw, .int .i64 vh, .bool von] 50)
  have X1 := Blk.new w1 50 #[.int .i64 vid, .int .i64 vpar, .int .i64 vx, .int .i64 vy, .int .i64 vw, .int .i64 vh, .bool von]
  obtain ⟨g1, hg1⟩ : ∃ g, g = w1.heap.size := ⟨_, rfl⟩
  rw [← hg1] at X1 ⊢
  generalize w1.alloc (.cells #[.int .i64 vid, .int .i64 vpar, .int .i64 vx, .int .i64 vy, .int .i64 vw, .int .i64 vh, .bool von] 50) = q1 at b1 X1 ⊢
  have XX1_1 := Lib.hid X1
  have BB1 := Lib.hid b1
  obtain ⟨x0, x1, x2, x3, x4, x5⟩ := (HX.out _ b1).at6.1
  clear b1 X1 hg1 
  go_upto_region 3 with (go_at_call 39; ((with_reducible refine (HS0.out.rget _ _ (HR0.out _ BB1.out)).mono ?_); rintro ex w2 ⟨rfl, hb⟩); have HBW2 := Lib.hid hb; have B2 := Lib.hid (hb.on BB1.out BB1.out.size); clear hb)
  have b2 := B2.out.alloc B2.out.size (.cells #[.int .i64 vid, .int .i64 vpar, .int .i64 vx, .int .i64 vy, .int .i64 vw, .int .i64 vh, .bool von] 50)
  have X2 := Blk.new w2 50 #[.int .i64 vid, .int .i64 vpar, .int .i64 vx, .int .i64 vy, .int .i64 vw, .int .i64 vh, .bool von]
  have Y1 := (XX1_1.out.next HBW2.out).alloc (.cells #[.int .i64 vid, .int .i64 vpar, .int .i64 vx, .int .i64 vy, .int .i64 vw, .int .i64 vh, .bool von] 50)
  obtain ⟨g2, hg2⟩ : ∃ g, g = w2.heap.size := ⟨_, rfl⟩
  rw [← hg2] at X2 ⊢
  generalize w2.alloc (.cells #[.int .i64 vid, .int .i64 vpar, .int .i64 vx, .int .i64 vy, .int .i64 vw, .int .i64 vh, .bool von] 50) = q2 at b2 X2 Y1 ⊢
  have XX2_2 := Lib.hid X2
  have XX1_2 := Lib.hid Y1
  have BB2 := Lib.hid b2
  obtain ⟨x0, x1, x2, x3, x4, x5⟩ := (HX.out _ b2).at6.1
  clear b2 X2 hg2 Y1
  go_upto_region 4 with (go_at_call 22; ((with_reducible refine (HS0.out.cabs _ _ _ (HT0.out _ BB2.out)).mono ?_); rintro ex w3 ⟨rfl, hb⟩); have HBW3 := Lib.hid hb; have B3 := Lib.hid (hb.on BB2.out BB2.out.size); clear hb)
  have b3 := B3.out.alloc B3.out.size (.cells #[.int .i64 px, .int .i64 py] 26)
  have X3 := Blk.new w3 26 #[.int .i64 px, .int .i64 py]
  have Y1 := (XX1_2.out.next HBW3.out).alloc (.cells #[.int .i64 px, .int .i64 py] 26)
  have Y2 := (XX2_2.out.next HBW3.out).alloc (.cells #[.int .i64 px, .int .i64 py] 26)
  obtain ⟨g3, hg3⟩ : ∃ g, g = w3.heap.size := ⟨_, rfl⟩
  rw [← hg3] at X3 ⊢
  generalize w3.alloc (.cells #[.int .i64 px, .int .i64 py] 26) = q3 at b3 X3 Y1 Y2 ⊢
  have XX3_3 := Lib.hid X3
  have XX1_3 := Lib.hid Y1
  have XX2_3 := Lib.hid Y2
  have BB3 := Lib.hid b3
  obtain ⟨x0, x1, x2, x3, x4, x5⟩ := (HX.out _ b3).at6.1
  clear b3 X3 hg3 Y1 Y2
  go_upto_region 5 with (go_at_call 40; ((with_reducible refine (HS0.out.rabs _ _ (HR0.out _ BB3.out)).mono ?_); rintro ex w4 ⟨rfl, hb⟩); have HBW4 := Lib.hid hb; have B4 := Lib.hid (hb.on BB3.out BB3.out.size); clear hb)
  have b4 := B4.out.alloc B4.out.size (.cells #[.int .i64 px, .int .i64 py] 26)
  have X4 := Blk.new w4 26 #[.int .i64 px, .int .i64 py]
  have Y1 := (XX1_3.out.next HBW4.out).alloc (.cells #[.int .i64 px, .int .i64 py] 26)
  have Y2 := (XX2_3.out.next HBW4.out).alloc (.cells #[.int .i64 px, .int .i64 py] 26)
  have Y3 := (XX3_3.out.next HBW4.out).alloc (.cells #[.int .i64 px, .int .i64 py] 26)
  obtain ⟨g4, hg4⟩ : ∃ g, g = w4.heap.size := ⟨_, rfl⟩
  rw [← hg4] at X4 ⊢
  generalize w4.alloc (.cells #[.int .i64 px, .int .i64 py] 26) = q4 at b4 X4 Y1 Y2 Y3 ⊢
  have XX4_4 := Lib.hid X4
  have XX1_4 := Lib.hid Y1
  have XX2_4 := Lib.hid Y2
  have XX3_4 := Lib.hid Y3
  have BB4 := Lib.hid b4
  obtain ⟨x0, x1, x2, x3, x4, x5⟩ := (HX.out _ b4).at6.1
  clear b4 X4 hg4 Y1 Y2 Y3
  have HS := Lib.hid (fun W (hW : Below q4.heap.size q4 W) => (show (((W.cell? ⟨w.heap.size, 0, none⟩ = some (.int .i64 R.x) ∧ W.cell? ⟨w.heap.size, 1, none⟩ = some (.int .i64 R.y) ∧ W.cell? ⟨w.heap.size, 2, none⟩ = some (.int .i64 R.w) ∧ W.cell? ⟨w.heap.size, 3, none⟩ = some (.int .i64 R.h) ∧ W.cell? ⟨w.heap.size, 4, none⟩ = some (.int .i64 R.last) ∧ W.cell? ⟨w.heap.size, 5, none⟩ = some (.slice p n c)) ∧ W.cell? ⟨g1, 0, none⟩ = some (.int .i64 vid) ∧ W.cell? ⟨g1, 1, none⟩ = some (.int .i64 vpar) ∧ W.cell? ⟨g1, 2, none⟩ = some (.int .i64 vx) ∧ W.cell? ⟨g1, 3, none⟩ = some (.int .i64 vy) ∧ W.cell? ⟨g1, 4, none⟩ = some (.int .i64 vw) ∧ W.cell? ⟨g1, 5, none⟩ = some (.int .i64 vh) ∧ W.cell? ⟨g1, 6, none⟩ = some (.bool von)) ∧ (W.cell? ⟨g2, 0, none⟩ = some (.int .i64 vid) ∧ W.cell? ⟨g2, 1, none⟩ = some (.int .i64 vpar) ∧ W.cell? ⟨g2, 2, none⟩ = some (.int .i64 vx) ∧ W.cell? ⟨g2, 3, none⟩ = some (.int .i64 vy) ∧ W.cell? ⟨g2, 4, none⟩ = some (.int .i64 vw) ∧ W.cell? ⟨g2, 5, none⟩ = some (.int .i64 vh) ∧ W.cell? ⟨g2, 6, none⟩ = some (.bool von)) ∧ (W.cell? ⟨g3, 0, none⟩ = some (.int .i64 px) ∧ W.cell? ⟨g3, 1, none⟩ = some (.int .i64 py)) ∧ W.cell? ⟨g4, 0, none⟩ = some (.int .i64 px) ∧ W.cell? ⟨g4, 1, none⟩ = some (.int .i64 py)) from ⟨⟨(HX.out _ (hW.on BB4.out BB4.out.size)).at6.1, (XX1_4.out.next hW).c7.1⟩, (XX2_4.out.next hW).c7.1, (XX3_4.out.next hW).c2.1, (XX4_4.out.next hW).c2.1⟩))
  have HT := Lib.hid (fun W (hW : Below q4.heap.size q4 W) => HT0.out W (hW.on BB4.out BB4.out.size))
  have HR := Lib.hid (fun W (hW : Below q4.heap.size q4 W) => HR0.out W (hW.on BB4.out BB4.out.size))
  refine wp_region_noPanic ?_
  refine wp_region_held_drew (S := fun wx => ((wx.cell? ⟨w.heap.size, 0, none⟩ = some (.int .i64 R.x) ∧ wx.cell? ⟨w.heap.size, 1, none⟩ = some (.int .i64 R.y) ∧ wx.cell? ⟨w.heap.size, 2, none⟩ = some (.int .i64 R.w) ∧ wx.cell? ⟨w.heap.size, 3, none⟩ = some (.int .i64 R.h) ∧ wx.cell? ⟨w.heap.size, 4, none⟩ = some (.int .i64 R.last) ∧ wx.cell? ⟨w.heap.size, 5, none⟩ = some (.slice p n c)) ∧ wx.cell? ⟨g1, 0, none⟩ = some (.int .i64 vid) ∧ wx.cell? ⟨g1, 1, none⟩ = some (.int .i64 vpar) ∧ wx.cell? ⟨g1, 2, none⟩ = some (.int .i64 vx) ∧ wx.cell? ⟨g1, 3, none⟩ = some (.int .i64 vy) ∧ wx.cell? ⟨g1, 4, none⟩ = some (.int .i64 vw) ∧ wx.cell? ⟨g1, 5, none⟩ = some (.int .i64 vh) ∧ wx.cell? ⟨g1, 6, none⟩ = some (.bool von)) ∧ (wx.cell? ⟨g2, 0, none⟩ = some (.int .i64 vid) ∧ wx.cell? ⟨g2, 1, none⟩ = some (.int .i64 vpar) ∧ wx.cell? ⟨g2, 2, none⟩ = some (.int .i64 vx) ∧ wx.cell? ⟨g2, 3, none⟩ = some (.int .i64 vy) ∧ wx.cell? ⟨g2, 4, none⟩ = some (.int .i64 vw) ∧ wx.cell? ⟨g2, 5, none⟩ = some (.int .i64 vh) ∧ wx.cell? ⟨g2, 6, none⟩ = some (.bool von)) ∧ (wx.cell? ⟨g3, 0, none⟩ = some (.int .i64 px) ∧ wx.cell? ⟨g3, 1, none⟩ = some (.int .i64 py)) ∧ wx.cell? ⟨g4, 0, none⟩ = some (.int .i64 px) ∧ wx.cell? ⟨g4, 1, none⟩ = some (.int .i64 py)) (by kernel_rfl) (by exact HS.out _ (Below.refl _ _).drew) (fun hHeld => ?_)
  refine wpAnyH_take (i := 0) (v := ?va0) rfl (by kernel_rfl) (by kernel_rfl) (by kernel_rfl) (fun _ _ _ h => h) (Or.inl ⟨by kernel_rfl, ?ya0⟩) (by assumption) ?ra0
  case ya0 => (intro wq hSw; (try dsimp only at hSw); go_simp; (try with_reducible rfl))
  (try simp only [Act.put, List.getElem_toArray, List.getElem_cons_zero, List.setIfInBounds_toArray, List.set_cons_zero, List.set_cons_succ])
  refine wpAnyH_take (i := 1) (v := ?va1) rfl (by kernel_rfl) (by kernel_rfl) (by kernel_rfl) (fun _ _ _ h => h) (Or.inl ⟨by kernel_rfl, ?ya1⟩) (by assumption) ?ra1
  case ya1 => (intro wq hSw; (try dsimp only at hSw); go_simp; (try with_reducible rfl))
  (try simp only [Act.put, List.getElem_toArray, List.getElem_cons_succ, List.getElem_cons_zero, List.setIfInBounds_toArray, List.set_cons_zero, List.set_cons_succ])
  refine wpAnyH_take (i := 2) (v := ?va2) rfl (by kernel_rfl) (by kernel_rfl) (by kernel_rfl) (fun _ _ _ h => h) (Or.inl ⟨by kernel_rfl, ?ya2⟩) (by assumption) ?ra2
  case ya2 => (intro wq hSw; (try dsimp only at hSw); go_simp; (try with_reducible rfl))
  (try simp only [Act.put, List.getElem_toArray, List.getElem_cons_succ, List.getElem_cons_zero, List.setIfInBounds_toArray, List.set_cons_zero, List.set_cons_succ])
  refine wpAnyH_take (i := 3) (v := ?va3) rfl (by kernel_rfl) (by kernel_rfl) (by kernel_rfl) (fun _ _ _ h => h) (Or.inl ⟨by kernel_rfl, ?ya3⟩) (by assumption) ?ra3
  case ya3 => (intro wq hSw; (try dsimp only at hSw); go_simp; (try with_reducible rfl))
  (try simp only [Act.put, List.getElem_toArray, List.getElem_cons_succ, List.getElem_cons_zero, List.setIfInBounds_toArray, List.set_cons_zero, List.set_cons_succ])
  refine wpAnyH_take (i := 4) (v := ?va4) rfl (by kernel_rfl) (by kernel_rfl) (by kernel_rfl) (fun _ _ _ h => h) (Or.inl ⟨by kernel_rfl, ?ya4⟩) (by assumption) ?ra4
  case ya4 => (intro wq hSw; (try dsimp only at hSw); go_simp; (try with_reducible rfl))
  (try simp only [Act.put, List.getElem_toArray, List.getElem_cons_succ, List.getElem_cons_zero, List.setIfInBounds_toArray, List.set_cons_zero, List.set_cons_succ])
  refine wpAnyH_take (i := 5) (v := ?va5) rfl (by kernel_rfl) (by kernel_rfl) (by kernel_rfl) (fun _ _ _ h => h) (Or.inl ⟨by kernel_rfl, ?ya5⟩) (by assumption) ?ra5
  case ya5 => (intro wq hSw; (try dsimp only at hSw); go_simp; (try with_reducible rfl))
  (try simp only [Act.put, List.getElem_toArray, List.getElem_cons_succ, List.getElem_cons_zero, List.setIfInBounds_toArray, List.set_cons_zero, List.set_cons_succ])
  refine wpAnyH_take (i := 6) (v := ?va6) rfl (by kernel_rfl) (by kernel_rfl) (by kernel_rfl) (fun _ _ _ h => h) (Or.inl ⟨by kernel_rfl, ?ya6⟩) (by assumption) ?ra6
  case ya6 => (intro wq hSw; (try dsimp only at hSw); go_simp; (try with_reducible rfl))
  (try simp only [Act.put, List.getElem_toArray, List.getElem_cons_succ, List.getElem_cons_zero, List.setIfInBounds_toArray, List.set_cons_zero, List.set_cons_succ])
  refine wpAnyH_take (i := 7) (v := ?va7) rfl (by kernel_rfl) (by kernel_rfl) (by kernel_rfl) (fun _ _ _ h => h) (Or.inl ⟨by kernel_rfl, ?ya7⟩) (by assumption) ?ra7
  case ya7 => (intro wq hSw; (try dsimp only at hSw); go_simp; (try with_reducible rfl))
  (try simp only [Act.put, List.getElem_toArray, List.getElem_cons_succ, List.getElem_cons_zero, List.setIfInBounds_toArray, List.set_cons_zero, List.set_cons_succ])
  refine wpAnyH_take (i := 8) (v := ?va8) rfl (by kernel_rfl) (by kernel_rfl) (by kernel_rfl) (fun _ _ _ h => h) (Or.inl ⟨by kernel_rfl, ?ya8⟩) (by assumption) ?ra8
  case ya8 => (intro wq hSw; (try dsimp only at hSw); go_simp; (try with_reducible rfl))
  (try simp only [Act.put, List.getElem_toArray, List.getElem_cons_succ, List.getElem_cons_zero, List.setIfInBounds_toArray, List.set_cons_zero, List.set_cons_succ])
  refine wpAnyH_take (i := 9) (v := ?va9) rfl (by kernel_rfl) (by kernel_rfl) (by kernel_rfl) (fun _ _ _ h => h) (Or.inl ⟨by kernel_rfl, ?ya9⟩) (by assumption) ?ra9
  case ya9 => (intro wq hSw; (try dsimp only at hSw); go_simp; (try with_reducible rfl))
  (try simp only [Act.put, List.getElem_toArray, List.getElem_cons_succ, List.getElem_cons_zero, List.setIfInBounds_toArray, List.set_cons_zero, List.set_cons_succ])
  refine wpAnyH_take (i := 10) (v := ?va10) rfl (by kernel_rfl) (by kernel_rfl) (by kernel_rfl) (fun _ _ _ h => h) (Or.inl ⟨by kernel_rfl, ?ya10⟩) (by assumption) ?ra10
  case ya10 => (intro wq hSw; (try dsimp only at hSw); go_simp; (try with_reducible rfl))
  (try simp only [Act.put, List.getElem_toArray, List.getElem_cons_succ, List.getElem_cons_zero, List.setIfInBounds_toArray, List.set_cons_zero, List.set_cons_succ])
  refine wpAnyH_take (i := 11) (v := ?va11) rfl (by kernel_rfl) (by kernel_rfl) (by kernel_rfl) (fun _ _ _ h => h) (Or.inl ⟨by kernel_rfl, ?ya11⟩) (by assumption) ?ra11
  case ya11 => (intro wq hSw; (try dsimp only at hSw); go_simp; (try with_reducible rfl))
  (try simp only [Act.put, List.getElem_toArray, List.getElem_cons_succ, List.getElem_cons_zero, List.setIfInBounds_toArray, List.set_cons_zero, List.set_cons_succ])
  refine wpAnyH_take (i := 12) (v := ?va12) rfl (by kernel_rfl) (by kernel_rfl) (by kernel_rfl) (fun _ _ _ h => h) (Or.inl ⟨by kernel_rfl, ?ya12⟩) (by assumption) ?ra12
  case ya12 => (intro wq hSw; (try dsimp only at hSw); go_simp; (try with_reducible rfl))
  (try simp only [Act.put, List.getElem_toArray, List.getElem_cons_succ, List.getElem_cons_zero, List.setIfInBounds_toArray, List.set_cons_zero, List.set_cons_succ])
  refine wpAnyH_take (i := 13) (v := ?va13) rfl (by kernel_rfl) (by kernel_rfl) (by kernel_rfl) (fun _ _ _ h => h) (Or.inl ⟨by kernel_rfl, ?ya13⟩) (by assumption) ?ra13
  case ya13 => (intro wq hSw; (try dsimp only at hSw); go_simp; (try with_reducible rfl))
  (try simp only [Act.put, List.getElem_toArray, List.getElem_cons_succ, List.getElem_cons_zero, List.setIfInBounds_toArray, List.set_cons_zero, List.set_cons_succ])
  refine wpAnyH_take (i := 14) (v := ?va14) rfl (by kernel_rfl) (by kernel_rfl) (by kernel_rfl) (fun _ _ _ h => h) (Or.inl ⟨by kernel_rfl, ?ya14⟩) (by assumption) ?ra14
  case ya14 => (intro wq hSw; (try dsimp only at hSw); go_simp; (try with_reducible rfl))
  (try simp only [Act.put, List.getElem_toArray, List.getElem_cons_succ, List.getElem_cons_zero, List.setIfInBounds_toArray, List.set_cons_zero, List.set_cons_succ])
  refine wpAnyH_take (i := 15) (v := ?va15) rfl (by kernel_rfl) (by kernel_rfl) (by kernel_rfl) (fun _ _ _ h => h) (Or.inl ⟨by kernel_rfl, ?ya15⟩) (by assumption) ?ra15
  case ya15 => (intro wq hSw; (try dsimp only at hSw); go_simp; (try with_reducible rfl))
  (try simp only [Act.put, List.getElem_toArray, List.getElem_cons_succ, List.getElem_cons_zero, List.setIfInBounds_toArray, List.set_cons_zero, List.set_cons_succ])
  refine wpAnyH_take (i := 16) (v := ?va16) rfl (by kernel_rfl) (by kernel_rfl) (by kernel_rfl) (fun _ _ _ h => h) (Or.inl ⟨by kernel_rfl, ?ya16⟩) (by assumption) ?ra16
  case ya16 => (intro wq hSw; (try dsimp only at hSw); go_simp; (try with_reducible rfl))
  (try simp only [Act.put, List.getElem_toArray, List.getElem_cons_succ, List.getElem_cons_zero, List.setIfInBounds_toArray, List.set_cons_zero, List.set_cons_succ])
  refine wpAnyH_take (i := 17) (v := ?va17) rfl (by kernel_rfl) (by kernel_rfl) (by kernel_rfl) (fun _ _ _ h => h) (Or.inl ⟨by kernel_rfl, ?ya17⟩) (by assumption) ?ra17
  case ya17 => (intro wq hSw; (try dsimp only at hSw); go_simp; (try with_reducible rfl))
  (try simp only [Act.put, List.getElem_toArray, List.getElem_cons_succ, List.getElem_cons_zero, List.setIfInBounds_toArray, List.set_cons_zero, List.set_cons_succ])
  refine wpAnyH_take (i := 18) (v := ?va18) rfl (by kernel_rfl) (by kernel_rfl) (by kernel_rfl) (fun _ _ _ h => h) (Or.inl ⟨by kernel_rfl, ?ya18⟩) (by assumption) ?ra18
  case ya18 => (intro wq hSw; (try dsimp only at hSw); go_simp; (try with_reducible rfl))
  (try simp only [Act.put, List.getElem_toArray, List.getElem_cons_succ, List.getElem_cons_zero, List.setIfInBounds_toArray, List.set_cons_zero, List.set_cons_succ])
  refine wpAnyH_take (i := 19) (v := ?va19) rfl (by kernel_rfl) (by kernel_rfl) (by kernel_rfl) (fun _ _ _ h => h) (Or.inl ⟨by kernel_rfl, ?ya19⟩) (by assumption) ?ra19
  case ya19 => (intro wq hSw; (try dsimp only at hSw); go_simp; (try with_reducible rfl))
  (try simp only [Act.put, List.getElem_toArray, List.getElem_cons_succ, List.getElem_cons_zero, List.setIfInBounds_toArray, List.set_cons_zero, List.set_cons_succ])
  refine wpAnyH_take (i := 20) (v := ?va20) rfl (by kernel_rfl) (by kernel_rfl) (by kernel_rfl) (fun _ _ _ h => h) (Or.inl ⟨by kernel_rfl, ?ya20⟩) (by assumption) ?ra20
  case ya20 => (intro wq hSw; (try dsimp only at hSw); go_simp; (try with_reducible rfl))
  (try simp only [Act.put, List.getElem_toArray, List.getElem_cons_succ, List.getElem_cons_zero, List.setIfInBounds_toArray, List.set_cons_zero, List.set_cons_succ])
  refine wpAnyH_take (i := 22) (v := ?va22) rfl (by kernel_rfl) (by kernel_rfl) (by kernel_rfl) (fun _ _ _ h => h) (Or.inl ⟨by kernel_rfl, ?ya22⟩) (by assumption) ?ra22
  case ya22 => (intro wq hSw; (try dsimp only at hSw); go_simp; (try with_reducible rfl))
  (try simp only [Act.put, List.getElem_toArray, List.getElem_cons_succ, List.getElem_cons_zero, List.setIfInBounds_toArray, List.set_cons_zero, List.set_cons_succ])
  refine wpAnyH_take (i := 23) (v := ?va23) rfl (by kernel_rfl) (by kernel_rfl) (by kernel_rfl) (fun _ _ _ h => h) (Or.inl ⟨by kernel_rfl, ?ya23⟩) (by assumption) ?ra23
  case ya23 => (intro wq hSw; (try dsimp only at hSw); go_simp; (try with_reducible rfl))
  (try simp only [Act.put, List.getElem_toArray, List.getElem_cons_succ, List.getElem_cons_zero, List.setIfInBounds_toArray, List.set_cons_zero, List.set_cons_succ])
  refine wpAnyH_ready (rs := [21]) (by kernel_rfl) (by simp) ?_
  refine AllReadyH.cons rfl (fun K hK => ?_) AllReadyH.nil
  go_simp
  refine (HS0.out.ckids _ _ _ (HT.out _ (Below.refl q4.heap.size q4).drew)).mono ?_
  rintro ex w6 ⟨v6, rfl, hr6, hb0⟩; have b6 : Below q4.heap.size q4 w6 := ((Below.refl _ q4).drew).trans hb0; have R6 := Lib.hid hr6; have B6 := Lib.hid b6; clear hb0 hr6 b6
  (try dsimp only)
  refine hK.out _ _ (by exact HS.out _ B6.out) (fun hHeld => ?_)
  clear hK K
  (try simp only [Act.put, List.getElem_toArray, List.getElem_cons_succ, List.getElem_cons_zero, List.setIfInBounds_toArray, List.set_cons_zero, List.set_cons_succ])
  refine wpAnyH_ready (rs := [24]) (by kernel_rfl) (by simp) ?_
  refine AllReadyH.cons rfl (fun K hK => ?_) AllReadyH.nil
  go_simp
  refine (HS0.out.rkids _ _ (HR.out _ B6.out)).mono ?_
  rintro ex w7 ⟨v7, rfl, hr7, hb0⟩; have R7 := Lib.hid hr7; have R6b := Lib.hid (R6.out.next hb0); have B7 := Lib.hid (hb0.on B6.out B6.out.size); clear hb0 hr7
  (try dsimp only)
  refine hK.out _ _ (by exact HS.out _ B7.out) (fun hHeld => ?_)
  clear hK K
  (try simp only [Act.put, List.getElem_toArray, List.getElem_cons_succ, List.getElem_cons_zero, List.setIfInBounds_toArray, List.set_cons_zero, List.set_cons_succ])
  refine wpAnyH_ready (rs := [25]) (by kernel_rfl) (by simp) ?_
  refine AllReadyH.cons rfl (fun K hK => ?_) AllReadyH.nil
  go_simp
  refine (ints_same v6 v7 ks w7 R6b.out R7.out HK.out).mono ?_
  rintro ex w8 ⟨rfl, hb0⟩; have B8 := Lib.hid (hb0.on B7.out B7.out.size); clear hb0
  (try dsimp only)
  refine hK.out _ _ (by exact HS.out _ B8.out) (fun hHeld => ?_)
  clear hK K
  (try simp only [Act.put, List.getElem_toArray, List.getElem_cons_succ, List.getElem_cons_zero, List.setIfInBounds_toArray, List.set_cons_zero, List.set_cons_succ])
  refine wpAnyH_take (i := 26) (v := ?vb26) rfl (by kernel_rfl) (by kernel_rfl) (by kernel_rfl) (fun _ _ _ h => h) (Or.inl ⟨by kernel_rfl, ?yb26⟩) (by assumption) ?rb26
  case yb26 => (intro wq hSw; (try dsimp only at hSw); go_simp; (try with_reducible rfl))
  (try simp only [Act.put, List.getElem_toArray, List.getElem_cons_succ, List.getElem_cons_zero, List.setIfInBounds_toArray, List.set_cons_zero, List.set_cons_succ])
  refine wpAnyH_take (i := 27) (v := ?vb27) rfl (by kernel_rfl) (by kernel_rfl) (by kernel_rfl) (fun _ _ _ h => h) (Or.inl ⟨by kernel_rfl, ?yb27⟩) (by assumption) ?rb27
  case yb27 => (intro wq hSw; (try dsimp only at hSw); go_simp; (try with_reducible rfl))
  (try simp only [Act.put, List.getElem_toArray, List.getElem_cons_succ, List.getElem_cons_zero, List.setIfInBounds_toArray, List.set_cons_zero, List.set_cons_succ])
  refine wpAnyH_take (i := 28) (v := ?vb28) rfl (by kernel_rfl) (by kernel_rfl) (by kernel_rfl) (fun _ _ _ h => h) (Or.inl ⟨by kernel_rfl, ?yb28⟩) (by assumption) ?rb28
  case yb28 => (intro wq hSw; (try dsimp only at hSw); go_simp; (try with_reducible rfl))
  (try simp only [Act.put, List.getElem_toArray, List.getElem_cons_succ, List.getElem_cons_zero, List.setIfInBounds_toArray, List.set_cons_zero, List.set_cons_succ])
  refine wpAnyH_take (i := 29) (v := ?vb29) rfl (by kernel_rfl) (by kernel_rfl) (by kernel_rfl) (fun _ _ _ h => h) (Or.inl ⟨by kernel_rfl, ?yb29⟩) (by assumption) ?rb29
  case yb29 => (intro wq hSw; (try dsimp only at hSw); go_simp; (try with_reducible rfl))
  (try simp only [Act.put, List.getElem_toArray, List.getElem_cons_succ, List.getElem_cons_zero, List.setIfInBounds_toArray, List.set_cons_zero, List.set_cons_succ])
  refine wpAnyH_take (i := 31) (v := ?vb31) rfl (by kernel_rfl) (by kernel_rfl) (by kernel_rfl) (fun _ _ _ h => h) (Or.inl ⟨by kernel_rfl, ?yb31⟩) (by assumption) ?rb31
  case yb31 => (intro wq hSw; (try dsimp only at hSw); go_simp; (try with_reducible rfl))
  (try simp only [Act.put, List.getElem_toArray, List.getElem_cons_succ, List.getElem_cons_zero, List.setIfInBounds_toArray, List.set_cons_zero, List.set_cons_succ])
  refine wpAnyH_take (i := 32) (v := ?vb32) rfl (by kernel_rfl) (by kernel_rfl) (by kernel_rfl) (fun _ _ _ h => h) (Or.inl ⟨by kernel_rfl, ?yb32⟩) (by assumption) ?rb32
  case yb32 => (intro wq hSw; (try dsimp only at hSw); go_simp; (try with_reducible rfl))
  (try simp only [Act.put, List.getElem_toArray, List.getElem_cons_succ, List.getElem_cons_zero, List.setIfInBounds_toArray, List.set_cons_zero, List.set_cons_succ])
  refine wpAnyH_ready (rs := [30]) (by kernel_rfl) (by simp) ?_
  refine AllReadyH.cons rfl (fun K hK => ?_) AllReadyH.nil
  go_simp
  refine (HS0.out.cview _ _ _ (HT.out _ B8.out)).mono ?_
  rintro ex w9 ⟨rfl, hb0⟩; have B9 := Lib.hid (hb0.on B8.out B8.out.size); clear hb0
  (try dsimp only)
  refine hK.out _ _ (by exact HS.out _ B9.out) (fun hHeld => ?_)
  clear hK K
  (try simp only [Act.put, List.getElem_toArray, List.getElem_cons_succ, List.getElem_cons_zero, List.setIfInBounds_toArray, List.set_cons_zero, List.set_cons_succ])
  refine wpAnyH_ready (rs := [33]) (by kernel_rfl) (by simp) ?_
  refine AllReadyH.cons rfl (fun K hK => ?_) AllReadyH.nil
  go_simp
  refine (HS0.out.rview _ _ (HR.out _ B9.out)).mono ?_
  rintro ex w10 ⟨rfl, hb0⟩; have B10 := Lib.hid (hb0.on B9.out B9.out.size); clear hb0
  (try dsimp only)
  refine hK.out _ _ (by exact HS.out _ B10.out) (fun hHeld => ?_)
  clear hK K
  (try simp only [Act.put, List.getElem_toArray, List.getElem_cons_succ, List.getElem_cons_zero, List.setIfInBounds_toArray, List.set_cons_zero, List.set_cons_succ])
  refine wpAnyH_take (i := 34) (v := ?vb34) rfl (by kernel_rfl) (by kernel_rfl) (by kernel_rfl) (fun _ _ _ h => h) (Or.inl ⟨by kernel_rfl, ?yb34⟩) (by assumption) ?rb34
  case yb34 => (intro wq hSw; (try dsimp only at hSw); go_simp; (try with_reducible rfl))
  (try simp only [Act.put, List.getElem_toArray, List.getElem_cons_succ, List.getElem_cons_zero, List.setIfInBounds_toArray, List.set_cons_zero, List.set_cons_succ])
  refine wpAnyH_take (i := 35) (v := ?vb35) rfl (by kernel_rfl) (by kernel_rfl) (by kernel_rfl) (fun _ _ _ h => h) (Or.inl ⟨by kernel_rfl, ?yb35⟩) (by assumption) ?rb35
  case yb35 => (intro wq hSw; (try dsimp only at hSw); go_simp; (try with_reducible rfl))
  (try simp only [Act.put, List.getElem_toArray, List.getElem_cons_succ, List.getElem_cons_zero, List.setIfInBounds_toArray, List.set_cons_zero, List.set_cons_succ])
  refine wpAnyH_take (i := 36) (v := ?vb36) rfl (by kernel_rfl) (by kernel_rfl) (by kernel_rfl) (fun _ _ _ h => h) (Or.inl ⟨by kernel_rfl, ?yb36⟩) (by assumption) ?rb36
  case yb36 => (intro wq hSw; (try dsimp only at hSw); go_simp; (try with_reducible rfl))
  (try simp only [Act.put, List.getElem_toArray, List.getElem_cons_succ, List.getElem_cons_zero, List.setIfInBounds_toArray, List.set_cons_zero, List.set_cons_succ])
  refine wpAnyH_done (by kernel_rfl) ?_ _
  refine NoPanic.normal ?_
  go_wp2_with fail
  go_ret
  exact ⟨ret_bool rfl, (B10.out.on BB4.out BB4.out.size).on HB.out HB.out.size⟩
end
end Go.Proofs.Ytphmlfklmleafaa
end
