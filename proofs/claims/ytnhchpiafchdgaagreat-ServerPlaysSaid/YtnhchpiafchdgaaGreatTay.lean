/- Texts SuG. -/
import Derived.Test.YtnhchpiafchdgaaGreatTax
import Derived.Test.YtnhchpiafchdgaaGreatTaa
namespace Go.Proofs.YtnhchpiafchdgaaGreat
open Go.RowKit Go.Shelf Go.Maps
theorem tRepar_no {R : RT} {i q x y : Int} {L : List Win} (h : (tRepar R i q x y L).2 ≠ 0) : (tRepar R i q x y L).1 = L := by
 unfold tRepar at h ⊢
 repeat' split
 all_goals first
  | rfl
  | skip
 all_goals (rename_i h1 h2 h3 v h4 h5; simp_all)
theorem other_m (X : Xs) (a : Int) (q : Rq) (h : isManage q.kind = true) : X.other a q = X.manage a q := by unfold Xs.other; rw [if_pos h]
theorem other_c (X : Xs) (a : Int) (q : Rq) (h : isManage q.kind = false) : X.other a q = X.change a q := by unfold Xs.other; rw [if_neg (by rw [h]; decide)]
section
variable {w w' w0 : World} {r : Nat} {Z : Zl} {X : Xs} {k : Nat}
set_option maxRecDepth 100000 in
set_option maxHeartbeats 16000000 in
theorem rother_c (h : Ref w r Z X) (hV : V0 X k) (hML : X.M.length ≤ 1000) (a : Int) (q : Rq) (hq : 2 ≤ q.kind ∧ q.kind ≤ 11) (hi : I64 q.win) (ho : I64 q.other) (z1 : q.p.name.size ≤ maxLen) (z2 : q.p.typ.size ≤ maxLen) :
   Calls Tryz.prog 63 #[refP r, .int .i64 a, rqV q] w fun ex w' => ex = .returned (.int .i64 (X.other a q).1) ∧ RefTo w r Z (X.other a q).2 w' := by
 obtain ⟨wb, hwb⟩ : ∃ wb, wb = w.alloc (.cells #[.int .i64 q.kind, .int .i64 q.win, .int .i64 q.other, .int .i64 q.x, .int .i64 q.y, .int .i64 q.a, .int .i64 q.e, .string q.p.name, .string q.p.typ, .string q.p.data] 37) := ⟨_, rfl⟩
 have hbel : Below w.heap.size w wb := by rw [hwb]; exact (Below.refl _ _).alloc (Nat.le_refl _) _
 have hbx : Blk wb w.heap.size 37 (rqL q) := by rw [hwb]; exact Blk.new w _ _
 have hs := h.next hbel
 obtain ⟨x0, x1, x2, x3, x4, x5, x6, x7, x8, x9⟩ := hbx.c10
 obtain ⟨pl, cl, hlv⟩ := h.l.slice
 have HLV := Lib.hid hlv
 have HW := Lib.hid hwb
 have HB := Lib.hid hbel
 have HX := Lib.hid hbx
 have HR := Lib.hid hs
 have HV0 := Lib.hid hV
 have HML := Lib.hid hML
 have HNF := Lib.hid (show ¬ Z.foot r w.heap.size from fun hf => Nat.lt_irrefl _ (h.foot_lt hf))
 obtain ⟨th, hth⟩ : ∃ th, th = thereL X.R X.L q.win := ⟨_, rfl⟩
 have HTH := Lib.hid hth
 have HIS := Lib.hid (fun W (hW : Below wb.heap.size wb W) => (show Calls Tryz.prog 59 #[refV X.R (.slice pl X.L.length cl), .int .i64 q.win] W fun e w' => e = .returned (.bool th) ∧ Below W.heap.size W w' from by
   rw [hth, ← isL_there, ← hlv]; exact is_c (RO.rd (hs.next hW).l) (Nat.le_trans hV.s.big (by decide)) q.win))
 have HS1 := Lib.hid (fun W (hW : Below wb.heap.size wb W) => (show (fun wx => wx.cell? ⟨r, 0, none⟩ = some (.int .i64 X.R.x) ∧ wx.cell? ⟨r, 1, none⟩ = some (.int .i64 X.R.y) ∧ wx.cell? ⟨r, 2, none⟩ = some (.int .i64 X.R.w) ∧ wx.cell? ⟨r, 3, none⟩ = some (.int .i64 X.R.h) ∧ wx.cell? ⟨r, 4, none⟩ = some (.int .i64 X.R.last) ∧ wx.cell? ⟨r, 5, none⟩ = some (.slice pl X.L.length cl) ∧ wx.cell? ⟨w.heap.size, 1, none⟩ = some (.int .i64 q.win)) W from by
   have hy := (HR.out.next hW).blk.at11
   rw [HLV.out] at hy
   exact ⟨hy.1, hy.2.1, hy.2.2.1, hy.2.2.2.1, hy.2.2.2.2.1, hy.2.2.2.2.2.1, (HX.out.next hW).c10.2.1⟩))
 have S1 := HS1.out wb (Below.refl _ _)
 obtain ⟨Y, hY⟩ : ∃ Y, Y = X.other a q := ⟨_, rfl⟩
 rw [← hY]
 have HY := Lib.hid hY
 have HQ0 := Lib.hid (fun W (hW : Below wb.heap.size wb W) => (show RefTo w r Z X W from RefTo.same h (hW.on hbel hbel.size)))
 clear h hV hs hbx hbel hlv hth hML hY
 go_enter Tryz.func63, Tryz.ntmps63
 go_upto_region 1 with fail
 rw [← HW.out]
 clear hwb
 by_cases hm : isManage q.kind = true
 · have HYM := Lib.hid (HY.out.trans (other_m X a q hm))
   by_cases ha : a = 0
   · subst ha
     have HY2 := Lib.hid (HYM.out)
     cases th with
     | false =>
       have HYE := Lib.hid (show Y = (6, X) from HYM.out.trans (by unfold Xs.manage; rw [if_neg (by simp), if_pos HTH.out.symm]))
       have hk : q.kind = 9 ∨ q.kind = 11 ∨ q.kind = 8 := by simpa [isManage] using hm
       clear hm hq
       rcases hk with hk | hk | hk
       · rw [hk] at x0
         go_upto_region 4 with fail
         refine wp_region_noPanic ?_
         refine wp_region_held_drew (S := fun wx => wx.cell? ⟨r, 0, none⟩ = some (.int .i64 X.R.x) ∧ wx.cell? ⟨r, 1, none⟩ = some (.int .i64 X.R.y) ∧ wx.cell? ⟨r, 2, none⟩ = some (.int .i64 X.R.w) ∧ wx.cell? ⟨r, 3, none⟩ = some (.int .i64 X.R.h) ∧ wx.cell? ⟨r, 4, none⟩ = some (.int .i64 X.R.last) ∧ wx.cell? ⟨r, 5, none⟩ = some (.slice pl X.L.length cl) ∧ wx.cell? ⟨w.heap.size, 1, none⟩ = some (.int .i64 q.win)) (by kernel_rfl) (by exact S1) (fun hHeld => ?_)
         refine tk 0 ?va0 rfl ?ya0 ?ra0
         case ya0 => (intro q h; (try dsimp only at h); go_simp; (try with_reducible rfl))
         (try simp only [Act.put, p1, p3, p4, p5, p6])
         refine tk 1 ?va1 rfl ?ya1 ?ra1
         case ya1 => (intro q h; (try dsimp only at h); go_simp; (try with_reducible rfl))
         (try simp only [Act.put, p1, p2, p3, p4, p5, p6])
         refine tk 2 ?va2 rfl ?ya2 ?ra2
         case ya2 => (intro q h; (try dsimp only at h); go_simp; (try with_reducible rfl))
         (try simp only [Act.put, p1, p2, p3, p4, p5, p6])
         refine tk 3 ?va3 rfl ?ya3 ?ra3
         case ya3 => (intro q h; (try dsimp only at h); go_simp; (try with_reducible rfl))
         (try simp only [Act.put, p1, p2, p3, p4, p5, p6])
         refine tk 4 ?va4 rfl ?ya4 ?ra4
         case ya4 => (intro q h; (try dsimp only at h); go_simp; (try with_reducible rfl))
         (try simp only [Act.put, p1, p2, p3, p4, p5, p6])
         refine tk 5 ?va5 rfl ?ya5 ?ra5
         case ya5 => (intro q h; (try dsimp only at h); go_simp; (try with_reducible rfl))
         (try simp only [Act.put, p1, p2, p3, p4, p5, p6])
         refine wpAnyH_ready (rs := [6]) (by kernel_rfl) (by simp) ?_
         refine AllReadyH.cons rfl (fun K hK => ?_) AllReadyH.nil
         go_simp
         refine (HIS.out _ (Below.refl _ _).drew).mono ?_
         rintro ex w1 ⟨rfl, T1⟩; have HB1 := Lib.hid (T1.on (Below.refl wb.heap.size wb).drew (Below.refl wb.heap.size wb).drew.size); clear T1; have S4 := HS1.out _ HB1.out
         (try dsimp only)
         refine hK.out _ _ (by exact S4) (fun hHeld => ?_)
         clear hK K
         (try simp only [Act.put, p1, p2, p3, p4, p5, p6])
         refine tk 7 ?va7 rfl ?ya7 ?ra7
         case ya7 => (intro q h; (try dsimp only at h); go_simp; (try with_reducible rfl))
         (try simp only [Act.put, p1, p2, p3, p4, p5, p6])
         refine wpAnyH_done (by kernel_rfl) ?_ _
         refine NoPanic.normal ?_
         have HS3 := Lib.hid (HR.out.next HB1.out)
         have HBXD := Lib.hid (HX.out.next HB1.out)
         have HBD := Lib.hid (HB1.out.on HB.out HB.out.size)
         clear x0 x1 x2 x3 x4 x5 x6 x7 x8 x9 S1 S4
         obtain ⟨x0, x1, x2, x3, x4, x5, x6, x7, x8, x9⟩ := HBXD.out.c10
         rw [hk] at x0
         have HZ := Lib.hid (HQ0.out _ HB1.out)
         go_wp2_with fail
         go_ret
         exact ⟨by rw [HYE.out]; rfl, by rw [HYE.out]; exact HZ.out⟩
       · rw [hk] at x0
         go_upto_region 4 with fail
         refine wp_region_noPanic ?_
         refine wp_region_held_drew (S := fun wx => wx.cell? ⟨r, 0, none⟩ = some (.int .i64 X.R.x) ∧ wx.cell? ⟨r, 1, none⟩ = some (.int .i64 X.R.y) ∧ wx.cell? ⟨r, 2, none⟩ = some (.int .i64 X.R.w) ∧ wx.cell? ⟨r, 3, none⟩ = some (.int .i64 X.R.h) ∧ wx.cell? ⟨r, 4, none⟩ = some (.int .i64 X.R.last) ∧ wx.cell? ⟨r, 5, none⟩ = some (.slice pl X.L.length cl) ∧ wx.cell? ⟨w.heap.size, 1, none⟩ = some (.int .i64 q.win)) (by kernel_rfl) (by exact S1) (fun hHeld => ?_)
         refine tk 0 ?vb0 rfl ?yb0 ?rb0
         case yb0 => (intro q h; (try dsimp only at h); go_simp; (try with_reducible rfl))
         (try simp only [Act.put, p1, p3, p4, p5, p6])
         refine tk 1 ?vb1 rfl ?yb1 ?rb1
         case yb1 => (intro q h; (try dsimp only at h); go_simp; (try with_reducible rfl))
         (try simp only [Act.put, p1, p2, p3, p4, p5, p6])
         refine tk 2 ?vb2 rfl ?yb2 ?rb2
         case yb2 => (intro q h; (try dsimp only at h); go_simp; (try with_reducible rfl))
         (try simp only [Act.put, p1, p2, p3, p4, p5, p6])
         refine tk 3 ?vb3 rfl ?yb3 ?rb3
         case yb3 => (intro q h; (try dsimp only at h); go_simp; (try with_reducible rfl))
         (try simp only [Act.put, p1, p2, p3, p4, p5, p6])
         refine tk 4 ?vb4 rfl ?yb4 ?rb4
         case yb4 => (intro q h; (try dsimp only at h); go_simp; (try with_reducible rfl))
         (try simp only [Act.put, p1, p2, p3, p4, p5, p6])
         refine tk 5 ?vb5 rfl ?yb5 ?rb5
         case yb5 => (intro q h; (try dsimp only at h); go_simp; (try with_reducible rfl))
         (try simp only [Act.put, p1, p2, p3, p4, p5, p6])
         refine wpAnyH_ready (rs := [6]) (by kernel_rfl) (by simp) ?_
         refine AllReadyH.cons rfl (fun K hK => ?_) AllReadyH.nil
         go_simp
         refine (HIS.out _ (Below.refl _ _).drew).mono ?_
         rintro ex w1 ⟨rfl, T1⟩; have HB1 := Lib.hid (T1.on (Below.refl wb.heap.size wb).drew (Below.refl wb.heap.size wb).drew.size); clear T1; have S4 := HS1.out _ HB1.out
         (try dsimp only)
         refine hK.out _ _ (by exact S4) (fun hHeld => ?_)
         clear hK K
         (try simp only [Act.put, p1, p2, p3, p4, p5, p6])
         refine tk 7 ?vb7 rfl ?yb7 ?rb7
         case yb7 => (intro q h; (try dsimp only at h); go_simp; (try with_reducible rfl))
         (try simp only [Act.put, p1, p2, p3, p4, p5, p6])
         refine wpAnyH_done (by kernel_rfl) ?_ _
         refine NoPanic.normal ?_
         have HS3 := Lib.hid (HR.out.next HB1.out)
         have HBXD := Lib.hid (HX.out.next HB1.out)
         have HBD := Lib.hid (HB1.out.on HB.out HB.out.size)
         clear x0 x1 x2 x3 x4 x5 x6 x7 x8 x9 S1 S4
         obtain ⟨x0, x1, x2, x3, x4, x5, x6, x7, x8, x9⟩ := HBXD.out.c10
         rw [hk] at x0
         have HZ := Lib.hid (HQ0.out _ HB1.out)
         go_wp2_with fail
         go_ret
         exact ⟨by rw [HYE.out]; rfl, by rw [HYE.out]; exact HZ.out⟩
       · rw [hk] at x0
         go_upto_region 4 with fail
         refine wp_region_noPanic ?_
         refine wp_region_held_drew (S := fun wx => wx.cell? ⟨r, 0, none⟩ = some (.int .i64 X.R.x) ∧ wx.cell? ⟨r, 1, none⟩ = some (.int .i64 X.R.y) ∧ wx.cell? ⟨r, 2, none⟩ = some (.int .i64 X.R.w) ∧ wx.cell? ⟨r, 3, none⟩ = some (.int .i64 X.R.h) ∧ wx.cell? ⟨r, 4, none⟩ = some (.int .i64 X.R.last) ∧ wx.cell? ⟨r, 5, none⟩ = some (.slice pl X.L.length cl) ∧ wx.cell? ⟨w.heap.size, 1, none⟩ = some (.int .i64 q.win)) (by kernel_rfl) (by exact S1) (fun hHeld => ?_)
         refine tk 0 ?vc0 rfl ?yc0 ?rc0
         case yc0 => (intro q h; (try dsimp only at h); go_simp; (try with_reducible rfl))
         (try simp only [Act.put, p1, p3, p4, p5, p6])
         refine tk 1 ?vc1 rfl ?yc1 ?rc1
         case yc1 => (intro q h; (try dsimp only at h); go_simp; (try with_reducible rfl))
         (try simp only [Act.put, p1, p2, p3, p4, p5, p6])
         refine tk 2 ?vc2 rfl ?yc2 ?rc2
         case yc2 => (intro q h; (try dsimp only at h); go_simp; (try with_reducible rfl))
         (try simp only [Act.put, p1, p2, p3, p4, p5, p6])
         refine tk 3 ?vc3 rfl ?yc3 ?rc3
         case yc3 => (intro q h; (try dsimp only at h); go_simp; (try with_reducible rfl))
         (try simp only [Act.put, p1, p2, p3, p4, p5, p6])
         refine tk 4 ?vc4 rfl ?yc4 ?rc4
         case yc4 => (intro q h; (try dsimp only at h); go_simp; (try with_reducible rfl))
         (try simp only [Act.put, p1, p2, p3, p4, p5, p6])
         refine tk 5 ?vc5 rfl ?yc5 ?rc5
         case yc5 => (intro q h; (try dsimp only at h); go_simp; (try with_reducible rfl))
         (try simp only [Act.put, p1, p2, p3, p4, p5, p6])
         refine wpAnyH_ready (rs := [6]) (by kernel_rfl) (by simp) ?_
         refine AllReadyH.cons rfl (fun K hK => ?_) AllReadyH.nil
         go_simp
         refine (HIS.out _ (Below.refl _ _).drew).mono ?_
         rintro ex w1 ⟨rfl, T1⟩; have HB1 := Lib.hid (T1.on (Below.refl wb.heap.size wb).drew (Below.refl wb.heap.size wb).drew.size); clear T1; have S4 := HS1.out _ HB1.out
         (try dsimp only)
         refine hK.out _ _ (by exact S4) (fun hHeld => ?_)
         clear hK K
         (try simp only [Act.put, p1, p2, p3, p4, p5, p6])
         refine tk 7 ?vc7 rfl ?yc7 ?rc7
         case yc7 => (intro q h; (try dsimp only at h); go_simp; (try with_reducible rfl))
         (try simp only [Act.put, p1, p2, p3, p4, p5, p6])
         refine wpAnyH_done (by kernel_rfl) ?_ _
         refine NoPanic.normal ?_
         have HS3 := Lib.hid (HR.out.next HB1.out)
         have HBXD := Lib.hid (HX.out.next HB1.out)
         have HBD := Lib.hid (HB1.out.on HB.out HB.out.size)
         clear x0 x1 x2 x3 x4 x5 x6 x7 x8 x9 S1 S4
         obtain ⟨x0, x1, x2, x3, x4, x5, x6, x7, x8, x9⟩ := HBXD.out.c10
         rw [hk] at x0
         have HZ := Lib.hid (HQ0.out _ HB1.out)
         go_wp2_with fail
         go_ret
         exact ⟨by rw [HYE.out]; rfl, by rw [HYE.out]; exact HZ.out⟩
     | true =>
       have hth : ¬ thereL X.R X.L q.win = false := by rw [← HTH.out]; decide
       have hk : q.kind = 9 ∨ q.kind = 11 ∨ q.kind = 8 := by simpa [isManage] using hm
       have hna : ¬ ((0 : Int) ≠ 0) := by simp
       clear hm hq
       rcases hk with hk | hk | hk
       · have hk8 : ¬ q.kind = 8 := by omega
         have hk11 : ¬ q.kind = 11 := by omega
         rw [hk] at x0
         by_cases h0 : q.win = 0
         · have h0' : (q.win != 0) = false := by simpa using h0
           have HYE := Lib.hid (show Y = (0, { X with F := q.win }) from HYM.out.trans (by unfold Xs.manage; rw [if_neg hna, if_neg hth, if_neg hk8, if_neg hk11, if_neg (fun hh => hh.1 h0)]))
           clear hth hna hk8 hk11 h0
           go_upto_region 4 with fail
           refine wp_region_noPanic ?_
           refine wp_region_held_drew (S := fun wx => wx.cell? ⟨r, 0, none⟩ = some (.int .i64 X.R.x) ∧ wx.cell? ⟨r, 1, none⟩ = some (.int .i64 X.R.y) ∧ wx.cell? ⟨r, 2, none⟩ = some (.int .i64 X.R.w) ∧ wx.cell? ⟨r, 3, none⟩ = some (.int .i64 X.R.h) ∧ wx.cell? ⟨r, 4, none⟩ = some (.int .i64 X.R.last) ∧ wx.cell? ⟨r, 5, none⟩ = some (.slice pl X.L.length cl) ∧ wx.cell? ⟨w.heap.size, 1, none⟩ = some (.int .i64 q.win)) (by kernel_rfl) (by exact S1) (fun hHeld => ?_)
           refine tk 0 ?vd0 rfl ?yd0 ?rd0
           case yd0 => (intro q h; (try dsimp only at h); go_simp; (try with_reducible rfl))
           (try simp only [Act.put, p1, p3, p4, p5, p6])
           refine tk 1 ?vd1 rfl ?yd1 ?rd1
           case yd1 => (intro q h; (try dsimp only at h); go_simp; (try with_reducible rfl))
           (try simp only [Act.put, p1, p2, p3, p4, p5, p6])
           refine tk 2 ?vd2 rfl ?yd2 ?rd2
           case yd2 => (intro q h; (try dsimp only at h); go_simp; (try with_reducible rfl))
           (try simp only [Act.put, p1, p2, p3, p4, p5, p6])
           refine tk 3 ?vd3 rfl ?yd3 ?rd3
           case yd3 => (intro q h; (try dsimp only at h); go_simp; (try with_reducible rfl))
           (try simp only [Act.put, p1, p2, p3, p4, p5, p6])
           refine tk 4 ?vd4 rfl ?yd4 ?rd4
           case yd4 => (intro q h; (try dsimp only at h); go_simp; (try with_reducible rfl))
           (try simp only [Act.put, p1, p2, p3, p4, p5, p6])
           refine tk 5 ?vd5 rfl ?yd5 ?rd5
           case yd5 => (intro q h; (try dsimp only at h); go_simp; (try with_reducible rfl))
           (try simp only [Act.put, p1, p2, p3, p4, p5, p6])
           refine wpAnyH_ready (rs := [6]) (by kernel_rfl) (by simp) ?_
           refine AllReadyH.cons rfl (fun K hK => ?_) AllReadyH.nil
           go_simp
           refine (HIS.out _ (Below.refl _ _).drew).mono ?_
           rintro ex w1 ⟨rfl, T1⟩; have HB1 := Lib.hid (T1.on (Below.refl wb.heap.size wb).drew (Below.refl wb.heap.size wb).drew.size); clear T1; have S4 := HS1.out _ HB1.out
           (try dsimp only)
           refine hK.out _ _ (by exact S4) (fun hHeld => ?_)
           clear hK K
           (try simp only [Act.put, p1, p2, p3, p4, p5, p6])
           refine tk 7 ?vd7 rfl ?yd7 ?rd7
           case yd7 => (intro q h; (try dsimp only at h); go_simp; (try with_reducible rfl))
           (try simp only [Act.put, p1, p2, p3, p4, p5, p6])
           refine wpAnyH_done (by kernel_rfl) ?_ _
           refine NoPanic.normal ?_
           have HS3 := Lib.hid (HR.out.next HB1.out)
           have HBXD := Lib.hid (HX.out.next HB1.out)
           have HBD := Lib.hid (HB1.out.on HB.out HB.out.size)
           clear x0 x1 x2 x3 x4 x5 x6 x7 x8 x9 S1 S4
           obtain ⟨x0, x1, x2, x3, x4, x5, x6, x7, x8, x9⟩ := HBXD.out.c10
           rw [hk] at x0
           have b8 := HS3.out.blk.at_ (i := 8) (v := .int .i64 X.F) rfl
           have f8 := HS3.out.blk.frozen 8
           have HF := Lib.hid (fun n => (show RefTo w r Z { X with F := q.win } ((w1.drewN n).setCell ⟨r, 8, none⟩ (.int .i64 q.win)) from RefTo.after HBD.out (RefTo.after (below_drewN (Below.refl _ _) n) ((HS3.out.drewN n).cell 8 _ (X' := { X with F := q.win }) rfl rfl rfl rfl rfl))))
           go_upto_region 11 with fail
           go_quiet (fail)
           go_wp2_with fail
           go_ret
           exact ⟨by rw [HYE.out]; rfl, by rw [HYE.out]; exact HF.out _⟩
         · have h0' : (q.win != 0) = true := by simpa using h0
           have HVW := Lib.hid (fun W (hW : Below wb.heap.size wb W) => (show Calls Tryz.prog 42 #[refV X.R (.slice pl X.L.length cl), .int .i64 q.win] W fun e w' => e = .returned (.bool (viewL X.R X.L q.win)) ∧ Below W.heap.size W w' from by
             rw [← HLV.out]; exact (shows_all HV0.out.s hi).rview W Z.lv (RO.rd (HR.out.next hW).l)))
           cases hv : viewL X.R X.L q.win with
           | false =>
             rw [hv] at HVW
             have HYE := Lib.hid (show Y = (8, X) from HYM.out.trans (by unfold Xs.manage; rw [if_neg hna, if_neg hth, if_neg hk8, if_neg hk11, if_pos ⟨h0, hv⟩]))
             clear hth hna hk8 hk11 h0 hv
             go_upto_region 4 with fail
             refine wp_region_noPanic ?_
             refine wp_region_held_drew (S := fun wx => wx.cell? ⟨r, 0, none⟩ = some (.int .i64 X.R.x) ∧ wx.cell? ⟨r, 1, none⟩ = some (.int .i64 X.R.y) ∧ wx.cell? ⟨r, 2, none⟩ = some (.int .i64 X.R.w) ∧ wx.cell? ⟨r, 3, none⟩ = some (.int .i64 X.R.h) ∧ wx.cell? ⟨r, 4, none⟩ = some (.int .i64 X.R.last) ∧ wx.cell? ⟨r, 5, none⟩ = some (.slice pl X.L.length cl) ∧ wx.cell? ⟨w.heap.size, 1, none⟩ = some (.int .i64 q.win)) (by kernel_rfl) (by exact S1) (fun hHeld => ?_)
             refine tk 0 ?ve0 rfl ?ye0 ?re0
             case ye0 => (intro q h; (try dsimp only at h); go_simp; (try with_reducible rfl))
             (try simp only [Act.put, p1, p3, p4, p5, p6])
             refine tk 1 ?ve1 rfl ?ye1 ?re1
             case ye1 => (intro q h; (try dsimp only at h); go_simp; (try with_reducible rfl))
             (try simp only [Act.put, p1, p2, p3, p4, p5, p6])
             refine tk 2 ?ve2 rfl ?ye2 ?re2
             case ye2 => (intro q h; (try dsimp only at h); go_simp; (try with_reducible rfl))
             (try simp only [Act.put, p1, p2, p3, p4, p5, p6])
             refine tk 3 ?ve3 rfl ?ye3 ?re3
             case ye3 => (intro q h; (try dsimp only at h); go_simp; (try with_reducible rfl))
             (try simp only [Act.put, p1, p2, p3, p4, p5, p6])
             refine tk 4 ?ve4 rfl ?ye4 ?re4
             case ye4 => (intro q h; (try dsimp only at h); go_simp; (try with_reducible rfl))
             (try simp only [Act.put, p1, p2, p3, p4, p5, p6])
             refine tk 5 ?ve5 rfl ?ye5 ?re5
             case ye5 => (intro q h; (try dsimp only at h); go_simp; (try with_reducible rfl))
             (try simp only [Act.put, p1, p2, p3, p4, p5, p6])
             refine wpAnyH_ready (rs := [6]) (by kernel_rfl) (by simp) ?_
             refine AllReadyH.cons rfl (fun K hK => ?_) AllReadyH.nil
             go_simp
             refine (HIS.out _ (Below.refl _ _).drew).mono ?_
             rintro ex w1 ⟨rfl, T1⟩; have HB1 := Lib.hid (T1.on (Below.refl wb.heap.size wb).drew (Below.refl wb.heap.size wb).drew.size); clear T1; have S4 := HS1.out _ HB1.out
             (try dsimp only)
             refine hK.out _ _ (by exact S4) (fun hHeld => ?_)
             clear hK K
             (try simp only [Act.put, p1, p2, p3, p4, p5, p6])
             refine tk 7 ?ve7 rfl ?ye7 ?re7
             case ye7 => (intro q h; (try dsimp only at h); go_simp; (try with_reducible rfl))
             (try simp only [Act.put, p1, p2, p3, p4, p5, p6])
             refine wpAnyH_done (by kernel_rfl) ?_ _
             refine NoPanic.normal ?_
             have HS3 := Lib.hid (HR.out.next HB1.out)
             have HBXD := Lib.hid (HX.out.next HB1.out)
             have HBD := Lib.hid (HB1.out.on HB.out HB.out.size)
             clear x0 x1 x2 x3 x4 x5 x6 x7 x8 x9 S1 S4
             obtain ⟨x0, x1, x2, x3, x4, x5, x6, x7, x8, x9⟩ := HBXD.out.c10
             rw [hk] at x0
             have HVW := Lib.hid (fun W (hW : Below w1.heap.size w1 W) => HVW.out W (hW.on HB1.out HB1.out.size))
             have S6 := HS1.out _ HB1.out
             go_upto_region 11 with fail
             refine wp_region_noPanic ?_
             refine wp_region_held_drew (S := fun wx => wx.cell? ⟨r, 0, none⟩ = some (.int .i64 X.R.x) ∧ wx.cell? ⟨r, 1, none⟩ = some (.int .i64 X.R.y) ∧ wx.cell? ⟨r, 2, none⟩ = some (.int .i64 X.R.w) ∧ wx.cell? ⟨r, 3, none⟩ = some (.int .i64 X.R.h) ∧ wx.cell? ⟨r, 4, none⟩ = some (.int .i64 X.R.last) ∧ wx.cell? ⟨r, 5, none⟩ = some (.slice pl X.L.length cl) ∧ wx.cell? ⟨w.heap.size, 1, none⟩ = some (.int .i64 q.win)) (by kernel_rfl) (by exact S6) (fun hHeld => ?_)
             refine tk 0 ?vee0 rfl ?yee0 ?ree0
             case yee0 => (intro q h; (try dsimp only at h); go_simp; (try with_reducible rfl))
             (try simp only [Act.put, p1, p3, p4, p5, p6])
             refine tk 1 ?vee1 rfl ?yee1 ?ree1
             case yee1 => (intro q h; (try dsimp only at h); go_simp; (try with_reducible rfl))
             (try simp only [Act.put, p1, p2, p3, p4, p5, p6])
             refine tk 2 ?vee2 rfl ?yee2 ?ree2
             case yee2 => (intro q h; (try dsimp only at h); go_simp; (try with_reducible rfl))
             (try simp only [Act.put, p1, p2, p3, p4, p5, p6])
             refine tk 3 ?vee3 rfl ?yee3 ?ree3
             case yee3 => (intro q h; (try dsimp only at h); go_simp; (try with_reducible rfl))
             (try simp only [Act.put, p1, p2, p3, p4, p5, p6])
             refine tk 4 ?vee4 rfl ?yee4 ?ree4
             case yee4 => (intro q h; (try dsimp only at h); go_simp; (try with_reducible rfl))
             (try simp only [Act.put, p1, p2, p3, p4, p5, p6])
             refine tk 5 ?vee5 rfl ?yee5 ?ree5
             case yee5 => (intro q h; (try dsimp only at h); go_simp; (try with_reducible rfl))
             (try simp only [Act.put, p1, p2, p3, p4, p5, p6])
             refine tk 6 ?vee6 rfl ?yee6 ?ree6
             case yee6 => (intro q h; (try dsimp only at h); go_simp; (try with_reducible rfl))
             (try simp only [Act.put, p1, p2, p3, p4, p5, p6])
             refine tk 7 ?vee7 rfl ?yee7 ?ree7
             case yee7 => (intro q h; (try dsimp only at h); go_simp; (try with_reducible rfl))
             (try simp only [Act.put, p1, p2, p3, p4, p5, p6])
             refine tk 8 ?vee8 rfl ?yee8 ?ree8
             case yee8 => (intro q h; (try dsimp only at h); go_simp; (try with_reducible rfl))
             (try simp only [Act.put, p1, p2, p3, p4, p5, p6])
             refine tk 9 ?vee9 rfl ?yee9 ?ree9
             case yee9 => (intro q h; (try dsimp only at h); go_simp; (try with_reducible rfl))
             (try simp only [Act.put, p1, p2, p3, p4, p5, p6])
             refine wpAnyH_ready (rs := [10]) (by kernel_rfl) (by simp) ?_
             refine AllReadyH.cons rfl (fun K hK => ?_) AllReadyH.nil
             go_simp
             refine (HVW.out _ (Below.refl _ _).drew).mono ?_
             rintro ex w4 ⟨rfl, T4⟩; have HB4 := Lib.hid (T4.on (Below.refl w1.heap.size w1).drew (Below.refl w1.heap.size w1).drew.size); clear T4; have S8 := HS1.out _ (HB4.out.on HB1.out HB1.out.size)
             (try dsimp only)
             refine hK.out _ _ (by exact S8) (fun hHeld => ?_)
             clear hK K
             (try simp only [Act.put, p1, p2, p3, p4, p5, p6])
             refine tk 11 ?vee11 rfl ?yee11 ?ree11
             case yee11 => (intro q h; (try dsimp only at h); go_simp; (try with_reducible rfl))
             (try simp only [Act.put, p1, p2, p3, p4, p5, p6])
             refine tk 12 ?vee12 rfl ?yee12 ?ree12
             case yee12 => (intro q h; (try dsimp only at h); go_simp; (try with_reducible rfl))
             (try simp only [Act.put, p1, p2, p3, p4, p5, p6])
             refine wpAnyH_done (by kernel_rfl) ?_ _
             refine NoPanic.normal ?_
             have HZ := Lib.hid (HQ0.out _ (HB4.out.on HB1.out HB1.out.size))
             go_wp2_with fail
             go_ret
             exact ⟨by rw [HYE.out]; rfl, by rw [HYE.out]; exact HZ.out⟩
           | true =>
             rw [hv] at HVW
             have HYE := Lib.hid (show Y = (0, { X with F := q.win }) from HYM.out.trans (by unfold Xs.manage; rw [if_neg hna, if_neg hth, if_neg hk8, if_neg hk11, if_neg (fun hh => by rw [hv] at hh; exact absurd hh.2 (by decide))]))
             clear hth hna hk8 hk11 h0 hv
             go_upto_region 4 with fail
             refine wp_region_noPanic ?_
             refine wp_region_held_drew (S := fun wx => wx.cell? ⟨r, 0, none⟩ = some (.int .i64 X.R.x) ∧ wx.cell? ⟨r, 1, none⟩ = some (.int .i64 X.R.y) ∧ wx.cell? ⟨r, 2, none⟩ = some (.int .i64 X.R.w) ∧ wx.cell? ⟨r, 3, none⟩ = some (.int .i64 X.R.h) ∧ wx.cell? ⟨r, 4, none⟩ = some (.int .i64 X.R.last) ∧ wx.cell? ⟨r, 5, none⟩ = some (.slice pl X.L.length cl) ∧ wx.cell? ⟨w.heap.size, 1, none⟩ = some (.int .i64 q.win)) (by kernel_rfl) (by exact S1) (fun hHeld => ?_)
             refine tk 0 ?vf0 rfl ?yf0 ?rf0
             case yf0 => (intro q h; (try dsimp only at h); go_simp; (try with_reducible rfl))
             (try simp only [Act.put, p1, p3, p4, p5, p6])
             refine tk 1 ?vf1 rfl ?yf1 ?rf1
             case yf1 => (intro q h; (try dsimp only at h); go_simp; (try with_reducible rfl))
             (try simp only [Act.put, p1, p2, p3, p4, p5, p6])
             refine tk 2 ?vf2 rfl ?yf2 ?rf2
             case yf2 => (intro q h; (try dsimp only at h); go_simp; (try with_reducible rfl))
             (try simp only [Act.put, p1, p2, p3, p4, p5, p6])
             refine tk 3 ?vf3 rfl ?yf3 ?rf3
             case yf3 => (intro q h; (try dsimp only at h); go_simp; (try with_reducible rfl))
             (try simp only [Act.put, p1, p2, p3, p4, p5, p6])
             refine tk 4 ?vf4 rfl ?yf4 ?rf4
             case yf4 => (intro q h; (try dsimp only at h); go_simp; (try with_reducible rfl))
             (try simp only [Act.put, p1, p2, p3, p4, p5, p6])
             refine tk 5 ?vf5 rfl ?yf5 ?rf5
             case yf5 => (intro q h; (try dsimp only at h); go_simp; (try with_reducible rfl))
             (try simp only [Act.put, p1, p2, p3, p4, p5, p6])
             refine wpAnyH_ready (rs := [6]) (by kernel_rfl) (by simp) ?_
             refine AllReadyH.cons rfl (fun K hK => ?_) AllReadyH.nil
             go_simp
             refine (HIS.out _ (Below.refl _ _).drew).mono ?_
             rintro ex w1 ⟨rfl, T1⟩; have HB1 := Lib.hid (T1.on (Below.refl wb.heap.size wb).drew (Below.refl wb.heap.size wb).drew.size); clear T1; have S4 := HS1.out _ HB1.out
             (try dsimp only)
             refine hK.out _ _ (by exact S4) (fun hHeld => ?_)
             clear hK K
             (try simp only [Act.put, p1, p2, p3, p4, p5, p6])
             refine tk 7 ?vf7 rfl ?yf7 ?rf7
             case yf7 => (intro q h; (try dsimp only at h); go_simp; (try with_reducible rfl))
             (try simp only [Act.put, p1, p2, p3, p4, p5, p6])
             refine wpAnyH_done (by kernel_rfl) ?_ _
             refine NoPanic.normal ?_
             have HS3 := Lib.hid (HR.out.next HB1.out)
             have HBXD := Lib.hid (HX.out.next HB1.out)
             have HBD := Lib.hid (HB1.out.on HB.out HB.out.size)
             clear x0 x1 x2 x3 x4 x5 x6 x7 x8 x9 S1 S4
             obtain ⟨x0, x1, x2, x3, x4, x5, x6, x7, x8, x9⟩ := HBXD.out.c10
             rw [hk] at x0
             have HVW := Lib.hid (fun W (hW : Below w1.heap.size w1 W) => HVW.out W (hW.on HB1.out HB1.out.size))
             have S6 := HS1.out _ HB1.out
             go_upto_region 11 with fail
             refine wp_region_noPanic ?_
             refine wp_region_held_drew (S := fun wx => wx.cell? ⟨r, 0, none⟩ = some (.int .i64 X.R.x) ∧ wx.cell? ⟨r, 1, none⟩ = some (.int .i64 X.R.y) ∧ wx.cell? ⟨r, 2, none⟩ = some (.int .i64 X.R.w) ∧ wx.cell? ⟨r, 3, none⟩ = some (.int .i64 X.R.h) ∧ wx.cell? ⟨r, 4, none⟩ = some (.int .i64 X.R.last) ∧ wx.cell? ⟨r, 5, none⟩ = some (.slice pl X.L.length cl) ∧ wx.cell? ⟨w.heap.size, 1, none⟩ = some (.int .i64 q.win)) (by kernel_rfl) (by exact S6) (fun hHeld => ?_)
             refine tk 0 ?vff0 rfl ?yff0 ?rff0
             case yff0 => (intro q h; (try dsimp only at h); go_simp; (try with_reducible rfl))
             (try simp only [Act.put, p1, p3, p4, p5, p6])
             refine tk 1 ?vff1 rfl ?yff1 ?rff1
             case yff1 => (intro q h; (try dsimp only at h); go_simp; (try with_reducible rfl))
             (try simp only [Act.put, p1, p2, p3, p4, p5, p6])
             refine tk 2 ?vff2 rfl ?yff2 ?rff2
             case yff2 => (intro q h; (try dsimp only at h); go_simp; (try with_reducible rfl))
             (try simp only [Act.put, p1, p2, p3, p4, p5, p6])
             refine tk 3 ?vff3 rfl ?yff3 ?rff3
             case yff3 => (intro q h; (try dsimp only at h); go_simp; (try with_reducible rfl))
             (try simp only [Act.put, p1, p2, p3, p4, p5, p6])
             refine tk 4 ?vff4 rfl ?yff4 ?rff4
             case yff4 => (intro q h; (try dsimp only at h); go_simp; (try with_reducible rfl))
             (try simp only [Act.put, p1, p2, p3, p4, p5, p6])
             refine tk 5 ?vff5 rfl ?yff5 ?rff5
             case yff5 => (intro q h; (try dsimp only at h); go_simp; (try with_reducible rfl))
             (try simp only [Act.put, p1, p2, p3, p4, p5, p6])
             refine tk 6 ?vff6 rfl ?yff6 ?rff6
             case yff6 => (intro q h; (try dsimp only at h); go_simp; (try with_reducible rfl))
             (try simp only [Act.put, p1, p2, p3, p4, p5, p6])
             refine tk 7 ?vff7 rfl ?yff7 ?rff7
             case yff7 => (intro q h; (try dsimp only at h); go_simp; (try with_reducible rfl))
             (try simp only [Act.put, p1, p2, p3, p4, p5, p6])
             refine tk 8 ?vff8 rfl ?yff8 ?rff8
             case yff8 => (intro q h; (try dsimp only at h); go_simp; (try with_reducible rfl))
             (try simp only [Act.put, p1, p2, p3, p4, p5, p6])
             refine tk 9 ?vff9 rfl ?yff9 ?rff9
             case yff9 => (intro q h; (try dsimp only at h); go_simp; (try with_reducible rfl))
             (try simp only [Act.put, p1, p2, p3, p4, p5, p6])
             refine wpAnyH_ready (rs := [10]) (by kernel_rfl) (by simp) ?_
             refine AllReadyH.cons rfl (fun K hK => ?_) AllReadyH.nil
             go_simp
             refine (HVW.out _ (Below.refl _ _).drew).mono ?_
             rintro ex w4 ⟨rfl, T4⟩; have HB4 := Lib.hid (T4.on (Below.refl w1.heap.size w1).drew (Below.refl w1.heap.size w1).drew.size); clear T4; have S8 := HS1.out _ (HB4.out.on HB1.out HB1.out.size)
             (try dsimp only)
             refine hK.out _ _ (by exact S8) (fun hHeld => ?_)
             clear hK K
             (try simp only [Act.put, p1, p2, p3, p4, p5, p6])
             refine tk 11 ?vff11 rfl ?yff11 ?rff11
             case yff11 => (intro q h; (try dsimp only at h); go_simp; (try with_reducible rfl))
             (try simp only [Act.put, p1, p2, p3, p4, p5, p6])
             refine tk 12 ?vff12 rfl ?yff12 ?rff12
             case yff12 => (intro q h; (try dsimp only at h); go_simp; (try with_reducible rfl))
             (try simp only [Act.put, p1, p2, p3, p4, p5, p6])
             refine wpAnyH_done (by kernel_rfl) ?_ _
             refine NoPanic.normal ?_
             have hs4 := HS3.out.next HB4.out
             have b8 := hs4.blk.at_ (i := 8) (v := .int .i64 X.F) rfl
             have f8 := hs4.blk.frozen 8
             clear x0 x1 x2 x3 x4 x5 x6 x7 x8 x9
             obtain ⟨x0, x1, x2, x3, x4, x5, x6, x7, x8, x9⟩ := (HBXD.out.next HB4.out).c10
             rw [hk] at x0
             have HZ := Lib.hid (show RefTo w r Z { X with F := q.win } (w4.setCell ⟨r, 8, none⟩ (.int .i64 q.win)) from RefTo.after HBD.out (RefTo.after HB4.out (hs4.cell 8 _ (X' := { X with F := q.win }) rfl rfl rfl rfl rfl)))
             clear hs4
             go_wp2_with fail
             go_ret
             exact ⟨by rw [HYE.out]; rfl, by rw [HYE.out]; exact HZ.out⟩
       · have hk8 : ¬ q.kind = 8 := by omega
         rw [hk] at x0
         have HYE := Lib.hid (show Y = X.save q.win (q.other != 0) from HYM.out.trans (by
           unfold Xs.manage
           rw [if_neg hna, if_neg hth, if_neg hk8, if_pos hk]
           by_cases hh : q.other = 0
           · simp [hh]
           · rw [show (q.other != 0) = true by simpa using hh]; simp [hh]))
         clear hth hna hk8
         go_upto_region 4 with fail
         refine wp_region_noPanic ?_
         refine wp_region_held_drew (S := fun wx => wx.cell? ⟨r, 0, none⟩ = some (.int .i64 X.R.x) ∧ wx.cell? ⟨r, 1, none⟩ = some (.int .i64 X.R.y) ∧ wx.cell? ⟨r, 2, none⟩ = some (.int .i64 X.R.w) ∧ wx.cell? ⟨r, 3, none⟩ = some (.int .i64 X.R.h) ∧ wx.cell? ⟨r, 4, none⟩ = some (.int .i64 X.R.last) ∧ wx.cell? ⟨r, 5, none⟩ = some (.slice pl X.L.length cl) ∧ wx.cell? ⟨w.heap.size, 1, none⟩ = some (.int .i64 q.win)) (by kernel_rfl) (by exact S1) (fun hHeld => ?_)
         refine tk 0 ?vg0 rfl ?yg0 ?rg0
         case yg0 => (intro q h; (try dsimp only at h); go_simp; (try with_reducible rfl))
         (try simp only [Act.put, p1, p3, p4, p5, p6])
         refine tk 1 ?vg1 rfl ?yg1 ?rg1
         case yg1 => (intro q h; (try dsimp only at h); go_simp; (try with_reducible rfl))
         (try simp only [Act.put, p1, p2, p3, p4, p5, p6])
         refine tk 2 ?vg2 rfl ?yg2 ?rg2
         case yg2 => (intro q h; (try dsimp only at h); go_simp; (try with_reducible rfl))
         (try simp only [Act.put, p1, p2, p3, p4, p5, p6])
         refine tk 3 ?vg3 rfl ?yg3 ?rg3
         case yg3 => (intro q h; (try dsimp only at h); go_simp; (try with_reducible rfl))
         (try simp only [Act.put, p1, p2, p3, p4, p5, p6])
         refine tk 4 ?vg4 rfl ?yg4 ?rg4
         case yg4 => (intro q h; (try dsimp only at h); go_simp; (try with_reducible rfl))
         (try simp only [Act.put, p1, p2, p3, p4, p5, p6])
         refine tk 5 ?vg5 rfl ?yg5 ?rg5
         case yg5 => (intro q h; (try dsimp only at h); go_simp; (try with_reducible rfl))
         (try simp only [Act.put, p1, p2, p3, p4, p5, p6])
         refine wpAnyH_ready (rs := [6]) (by kernel_rfl) (by simp) ?_
         refine AllReadyH.cons rfl (fun K hK => ?_) AllReadyH.nil
         go_simp
         refine (HIS.out _ (Below.refl _ _).drew).mono ?_
         rintro ex w1 ⟨rfl, T1⟩; have HB1 := Lib.hid (T1.on (Below.refl wb.heap.size wb).drew (Below.refl wb.heap.size wb).drew.size); clear T1; have S4 := HS1.out _ HB1.out
         (try dsimp only)
         refine hK.out _ _ (by exact S4) (fun hHeld => ?_)
         clear hK K
         (try simp only [Act.put, p1, p2, p3, p4, p5, p6])
         refine tk 7 ?vg7 rfl ?yg7 ?rg7
         case yg7 => (intro q h; (try dsimp only at h); go_simp; (try with_reducible rfl))
         (try simp only [Act.put, p1, p2, p3, p4, p5, p6])
         refine wpAnyH_done (by kernel_rfl) ?_ _
         refine NoPanic.normal ?_
         have HS3 := Lib.hid (HR.out.next HB1.out)
         have HBXD := Lib.hid (HX.out.next HB1.out)
         have HBD := Lib.hid (HB1.out.on HB.out HB.out.size)
         clear x0 x1 x2 x3 x4 x5 x6 x7 x8 x9 S1 S4
         obtain ⟨x0, x1, x2, x3, x4, x5, x6, x7, x8, x9⟩ := HBXD.out.c10
         rw [hk] at x0
         have HSV := Lib.hid (rsave_c HS3.out (Nat.le_trans HML.out (by decide)) q.win (q.other != 0))
         go_wp2_with (go_at_call 58; ((with_reducible refine (HSV.out).mono ?_); rintro e w3 ⟨rfl, T3⟩); have HZ := Lib.hid (RefTo.after HBD.out T3); clear T3)
         go_ret
         exact ⟨by rw [HYE.out]; rfl, by rw [HYE.out]; exact HZ.out⟩
       · rw [hk] at x0
         obtain ⟨er, her⟩ : ∃ er, er = (tRepar X.R q.win q.other q.x q.y X.L).2 := ⟨_, rfl⟩
         obtain ⟨L', hLp⟩ : ∃ L', L' = (tRepar X.R q.win q.other q.x q.y X.L).1 := ⟨_, rfl⟩
         have HYE := Lib.hid (show Y = (er, { X with L := L' }) from HYM.out.trans (by unfold Xs.manage; rw [if_neg hna, if_neg hth, if_pos hk, her, hLp]))
         have HLE := Lib.hid (And.intro hLp her)
         have HZE := Lib.hid (show er ≠ 0 → L' = X.L from fun hh => by rw [hLp]; rw [her] at hh; exact tRepar_no hh)
         clear hth hna her hLp
         go_upto_region 4 with fail
         refine wp_region_noPanic ?_
         refine wp_region_held_drew (S := fun wx => wx.cell? ⟨r, 0, none⟩ = some (.int .i64 X.R.x) ∧ wx.cell? ⟨r, 1, none⟩ = some (.int .i64 X.R.y) ∧ wx.cell? ⟨r, 2, none⟩ = some (.int .i64 X.R.w) ∧ wx.cell? ⟨r, 3, none⟩ = some (.int .i64 X.R.h) ∧ wx.cell? ⟨r, 4, none⟩ = some (.int .i64 X.R.last) ∧ wx.cell? ⟨r, 5, none⟩ = some (.slice pl X.L.length cl) ∧ wx.cell? ⟨w.heap.size, 1, none⟩ = some (.int .i64 q.win)) (by kernel_rfl) (by exact S1) (fun hHeld => ?_)
         refine tk 0 ?vh0 rfl ?yh0 ?rh0
         case yh0 => (intro q h; (try dsimp only at h); go_simp; (try with_reducible rfl))
         (try simp only [Act.put, p1, p3, p4, p5, p6])
         refine tk 1 ?vh1 rfl ?yh1 ?rh1
         case yh1 => (intro q h; (try dsimp only at h); go_simp; (try with_reducible rfl))
         (try simp only [Act.put, p1, p2, p3, p4, p5, p6])
         refine tk 2 ?vh2 rfl ?yh2 ?rh2
         case yh2 => (intro q h; (try dsimp only at h); go_simp; (try with_reducible rfl))
         (try simp only [Act.put, p1, p2, p3, p4, p5, p6])
         refine tk 3 ?vh3 rfl ?yh3 ?rh3
         case yh3 => (intro q h; (try dsimp only at h); go_simp; (try with_reducible rfl))
         (try simp only [Act.put, p1, p2, p3, p4, p5, p6])
         refine tk 4 ?vh4 rfl ?yh4 ?rh4
         case yh4 => (intro q h; (try dsimp only at h); go_simp; (try with_reducible rfl))
         (try simp only [Act.put, p1, p2, p3, p4, p5, p6])
         refine tk 5 ?vh5 rfl ?yh5 ?rh5
         case yh5 => (intro q h; (try dsimp only at h); go_simp; (try with_reducible rfl))
         (try simp only [Act.put, p1, p2, p3, p4, p5, p6])
         refine wpAnyH_ready (rs := [6]) (by kernel_rfl) (by simp) ?_
         refine AllReadyH.cons rfl (fun K hK => ?_) AllReadyH.nil
         go_simp
         refine (HIS.out _ (Below.refl _ _).drew).mono ?_
         rintro ex w1 ⟨rfl, T1⟩; have HB1 := Lib.hid (T1.on (Below.refl wb.heap.size wb).drew (Below.refl wb.heap.size wb).drew.size); clear T1; have S4 := HS1.out _ HB1.out
         (try dsimp only)
         refine hK.out _ _ (by exact S4) (fun hHeld => ?_)
         clear hK K
         (try simp only [Act.put, p1, p2, p3, p4, p5, p6])
         refine tk 7 ?vh7 rfl ?yh7 ?rh7
         case yh7 => (intro q h; (try dsimp only at h); go_simp; (try with_reducible rfl))
         (try simp only [Act.put, p1, p2, p3, p4, p5, p6])
         refine wpAnyH_done (by kernel_rfl) ?_ _
         refine NoPanic.normal ?_
         have HS3 := Lib.hid (HR.out.next HB1.out)
         have HBXD := Lib.hid (HX.out.next HB1.out)
         have HBD := Lib.hid (HB1.out.on HB.out HB.out.size)
         clear x0 x1 x2 x3 x4 x5 x6 x7 x8 x9 S1 S4
         obtain ⟨x0, x1, x2, x3, x4, x5, x6, x7, x8, x9⟩ := HBXD.out.c10
         rw [hk] at x0
         have HFI := Lib.hid (fun W' (hT : RefTo w1 r Z (if er = 0 then { X with R := X.R, L := L' } else X) W') => RefTo.after HBD.out (hT.chg rfl HZE.out))
         obtain ⟨b0, b1, b2, b3, b4, b5, -⟩ := HS1.out _ HB1.out
         have HCH := Lib.hid (fun W' (hW : Below w1.heap.size w1 W') => (show Calls Tryz.prog 57 #[refV X.R (.slice pl X.L.length cl), .int .i64 q.win, .int .i64 q.other, .agg #[.int .i64 q.x, .int .i64 q.y]] W' fun ex w' => ChR W' X.R L' er ex w' from by
           have h1 := (HS3.out.next hW).l
           rw [HLV.out] at h1
           rw [HLE.out.1, HLE.out.2]; exact (t_repar HV0.out.s hi ho q.x q.y).2.1 W' _ h1))
         have HS7 := Lib.hid (fun W' (hW : Below w1.heap.size w1 W') => (show (fun wx => wx.cell? ⟨w.heap.size, 1, none⟩ = some (.int .i64 q.win) ∧ wx.cell? ⟨w.heap.size, 2, none⟩ = some (.int .i64 q.other) ∧ wx.cell? ⟨w.heap.size, 3, none⟩ = some (.int .i64 q.x) ∧ wx.cell? ⟨w.heap.size, 4, none⟩ = some (.int .i64 q.y)) W' from by
           have hy := (HBXD.out.next hW).c10
           exact ⟨hy.2.1, hy.2.2.1, hy.2.2.2.1, hy.2.2.2.2.1⟩))
         have S0 := HS7.out w1 (Below.refl _ _)
         go_upto_region 7 with fail
         refine wp_region_noPanic ?_
         refine wp_region_held_drew (S := fun wx => wx.cell? ⟨w.heap.size, 1, none⟩ = some (.int .i64 q.win) ∧ wx.cell? ⟨w.heap.size, 2, none⟩ = some (.int .i64 q.other) ∧ wx.cell? ⟨w.heap.size, 3, none⟩ = some (.int .i64 q.x) ∧ wx.cell? ⟨w.heap.size, 4, none⟩ = some (.int .i64 q.y)) (by kernel_rfl) (by exact S0) (fun hHeld => ?_)
         refine tk 0 ?vi0 rfl ?yi0 ?ri0
         case yi0 => (intro q h; (try dsimp only at h); go_simp; (try with_reducible rfl))
         (try simp only [Act.put, p1, p3, p4, p5, p6])
         refine tk 1 ?vi1 rfl ?yi1 ?ri1
         case yi1 => (intro q h; (try dsimp only at h); go_simp; (try with_reducible rfl))
         (try simp only [Act.put, p1, p2, p3, p4, p5, p6])
         refine tk 2 ?vi2 rfl ?yi2 ?ri2
         case yi2 => (intro q h; (try dsimp only at h); go_simp; (try with_reducible rfl))
         (try simp only [Act.put, p1, p2, p3, p4, p5, p6])
         refine tk 3 ?vi3 rfl ?yi3 ?ri3
         case yi3 => (intro q h; (try dsimp only at h); go_simp; (try with_reducible rfl))
         (try simp only [Act.put, p1, p2, p3, p4, p5, p6])
         refine tk 5 ?vi5 rfl ?yi5 ?ri5
         case yi5 => (intro q h; (try dsimp only at h); go_simp; (try with_reducible rfl))
         (try simp only [Act.put, p1, p2, p3, p4, p5, p6])
         refine tk 6 ?vi6 rfl ?yi6 ?ri6
         case yi6 => (intro q h; (try dsimp only at h); go_simp; (try with_reducible rfl))
         (try simp only [Act.put, p1, p2, p3, p4, p5, p6])
         refine tk 7 ?vi7 rfl ?yi7 ?ri7
         case yi7 => (intro q h; (try dsimp only at h); go_simp; (try with_reducible rfl))
         (try simp only [Act.put, p1, p2, p3, p4, p5, p6])
         refine tk 8 ?vi8 rfl ?yi8 ?ri8
         case yi8 => (intro q h; (try dsimp only at h); go_simp; (try with_reducible rfl))
         (try simp only [Act.put, p1, p2, p3, p4, p5, p6])
         refine tk 9 ?vi9 rfl ?yi9 ?ri9
         case yi9 => (intro q h; (try dsimp only at h); go_simp; (try with_reducible rfl))
         (try simp only [Act.put, p1, p2, p3, p4, p5, p6])
         refine tk 10 ?vi10 rfl ?yi10 ?ri10
         case yi10 => (intro q h; (try dsimp only at h); go_simp; (try with_reducible rfl))
         (try simp only [Act.put, p1, p2, p3, p4, p5, p6])
         refine tk 11 ?vi11 rfl ?yi11 ?ri11
         case yi11 => (intro q h; (try dsimp only at h); go_simp; (try with_reducible rfl))
         (try simp only [Act.put, p1, p2, p3, p4, p5, p6])
         refine tk 12 ?vi12 rfl ?yi12 ?ri12
         case yi12 => (intro q h; (try dsimp only at h); go_simp; (try with_reducible rfl))
         (try simp only [Act.put, p1, p2, p3, p4, p5, p6])
         refine tk 13 ?vi13 rfl ?yi13 ?ri13
         case yi13 => (intro q h; (try dsimp only at h); go_simp; (try with_reducible rfl))
         (try simp only [Act.put, p1, p2, p3, p4, p5, p6])
         refine tk 14 ?vi14 rfl ?yi14 ?ri14
         case yi14 => (intro q h; (try dsimp only at h); go_simp; (try with_reducible rfl))
         (try simp only [Act.put, p1, p2, p3, p4, p5, p6])
         refine tk 15 ?vi15 rfl ?yi15 ?ri15
         case yi15 => (intro q h; (try dsimp only at h); go_simp; (try with_reducible rfl))
         (try simp only [Act.put, p1, p2, p3, p4, p5, p6])
         refine wpAnyH_ready (rs := [4]) (by kernel_rfl) (by simp) ?_
         refine AllReadyH.cons rfl (fun K hK => ?_) AllReadyH.nil
         go_simp
         refine hK.out _ _ (by exact S0) (fun hHeld => ?_)
         clear hK K
         (try simp only [Act.put, p1, p2, p3, p4, p5, p6])
         refine wpAnyH_ready (rs := [16]) (by kernel_rfl) (by simp) ?_
         refine AllReadyH.cons rfl (fun K hK => ?_) AllReadyH.nil
         go_simp
         refine (HCH.out _ (Below.refl _ _).drew).mono ?_
         rintro ex w4 ⟨sv4, rfl, T4, B4⟩; have hb4 := B4.on (Below.refl w1.heap.size w1).drew (Below.refl w1.heap.size w1).drew.size; clear B4; obtain ⟨p4, c4, hv4⟩ := T4.slice; subst hv4; have S4 := HS7.out _ hb4; have HCG := Lib.hid (rchange_c HS3.out hb4 (R' := X.R) T4 er); clear T4
         (try dsimp only)
         refine hK.out _ _ (by exact S4) (fun hHeld => ?_)
         clear hK K
         (try simp only [Act.put, p1, p2, p3, p4, p5, p6])
         refine tk 17 ?vi17 rfl ?yi17 ?ri17
         case yi17 => (intro q h; (try dsimp only at h); go_simp; (try with_reducible rfl))
         (try simp only [Act.put, p1, p2, p3, p4, p5, p6])
         refine tk 18 ?vi18 rfl ?yi18 ?ri18
         case yi18 => (intro q h; (try dsimp only at h); go_simp; (try with_reducible rfl))
         (try simp only [Act.put, p1, p2, p3, p4, p5, p6])
         refine wpAnyH_ready (rs := [19]) (by kernel_rfl) (by simp) ?_
         refine AllReadyH.cons rfl (fun K hK => ?_) AllReadyH.nil
         go_simp
         refine (HCG.out).mono ?_
         rintro ex w5 ⟨rfl, T5⟩; have HZ := Lib.hid (HFI.out _ T5); have S5 : (fun wx => wx.cell? ⟨w.heap.size, 1, none⟩ = some (.int .i64 q.win) ∧ wx.cell? ⟨w.heap.size, 2, none⟩ = some (.int .i64 q.other) ∧ wx.cell? ⟨w.heap.size, 3, none⟩ = some (.int .i64 q.x) ∧ wx.cell? ⟨w.heap.size, 4, none⟩ = some (.int .i64 q.y)) w5 := (by obtain ⟨Z', _, U'⟩ := T5; have hy := HBXD.out.c10; exact ⟨cell_turn U' HBXD.out.lt HNF.out hy.2.1, cell_turn U' HBXD.out.lt HNF.out hy.2.2.1, cell_turn U' HBXD.out.lt HNF.out hy.2.2.2.1, cell_turn U' HBXD.out.lt HNF.out hy.2.2.2.2.1⟩); clear T5
         (try dsimp only)
         refine hK.out _ _ (by exact S5) (fun hHeld => ?_)
         clear hK K
         (try simp only [Act.put, p1, p2, p3, p4, p5, p6])
         refine tk 20 ?vi20 rfl ?yi20 ?ri20
         case yi20 => (intro q h; (try dsimp only at h); go_simp; (try with_reducible rfl))
         (try simp only [Act.put, p1, p2, p3, p4, p5, p6])
         refine wpAnyH_done (by kernel_rfl) ?_ _
         refine NoPanic.normal ?_
         go_wp2_with fail
         go_ret
         exact ⟨by rw [HYE.out]; rfl, by rw [HYE.out]; exact HZ.out⟩
   · have ha' : (a != 0) = true := by simpa using ha
     have HYE := Lib.hid (show Y = (80, X) from HYM.out.trans (by unfold Xs.manage; rw [if_pos ha]))
     have HZ := Lib.hid (HQ0.out _ (Below.refl _ _))
     have hk : q.kind = 9 ∨ q.kind = 11 ∨ q.kind = 8 := by simpa [isManage] using hm
     clear hm hq ha
     rcases hk with hk | hk | hk
     · rw [hk] at x0
       go_wp2_with fail
       go_ret
       exact ⟨by rw [HYE.out]; rfl, by rw [HYE.out]; exact HZ.out⟩
     · rw [hk] at x0
       go_wp2_with fail
       go_ret
       exact ⟨by rw [HYE.out]; rfl, by rw [HYE.out]; exact HZ.out⟩
     · rw [hk] at x0
       go_wp2_with fail
       go_ret
       exact ⟨by rw [HYE.out]; rfl, by rw [HYE.out]; exact HZ.out⟩
 · have hm' : isManage q.kind = false := by simpa using hm
   have HYC := Lib.hid (HY.out.trans (other_c X a q hm'))
   have hmk : q.kind ≠ 9 ∧ q.kind ≠ 11 ∧ q.kind ≠ 8 := by simpa [isManage] using hm
   have k9 : (q.kind == 9) = false := by simpa using hmk.1
   have k11 : (q.kind == 11) = false := by simpa using hmk.2.1
   have k8 : (q.kind == 8) = false := by simpa using hmk.2.2
   have hq' : (2 ≤ q.kind ∧ q.kind ≤ 7) ∨ q.kind = 10 := by omega
   clear hm hm' hmk hq
   cases th with
   | false =>
     have HYE := Lib.hid (show Y = (6, X) from HYC.out.trans (by unfold Xs.change; rw [if_pos HTH.out.symm]))
     clear hq'
     go_upto_region 4 with fail
     refine wp_region_noPanic ?_
     refine wp_region_held_drew (S := fun wx => wx.cell? ⟨r, 0, none⟩ = some (.int .i64 X.R.x) ∧ wx.cell? ⟨r, 1, none⟩ = some (.int .i64 X.R.y) ∧ wx.cell? ⟨r, 2, none⟩ = some (.int .i64 X.R.w) ∧ wx.cell? ⟨r, 3, none⟩ = some (.int .i64 X.R.h) ∧ wx.cell? ⟨r, 4, none⟩ = some (.int .i64 X.R.last) ∧ wx.cell? ⟨r, 5, none⟩ = some (.slice pl X.L.length cl) ∧ wx.cell? ⟨w.heap.size, 1, none⟩ = some (.int .i64 q.win)) (by kernel_rfl) (by exact S1) (fun hHeld => ?_)
     refine tk 0 ?vj0 rfl ?yj0 ?rj0
     case yj0 => (intro q h; (try dsimp only at h); go_simp; (try with_reducible rfl))
     (try simp only [Act.put, p1, p3, p4, p5, p6])
     refine tk 1 ?vj1 rfl ?yj1 ?rj1
     case yj1 => (intro q h; (try dsimp only at h); go_simp; (try with_reducible rfl))
     (try simp only [Act.put, p1, p2, p3, p4, p5, p6])
     refine tk 2 ?vj2 rfl ?yj2 ?rj2
     case yj2 => (intro q h; (try dsimp only at h); go_simp; (try with_reducible rfl))
     (try simp only [Act.put, p1, p2, p3, p4, p5, p6])
     refine tk 3 ?vj3 rfl ?yj3 ?rj3
     case yj3 => (intro q h; (try dsimp only at h); go_simp; (try with_reducible rfl))
     (try simp only [Act.put, p1, p2, p3, p4, p5, p6])
     refine tk 4 ?vj4 rfl ?yj4 ?rj4
     case yj4 => (intro q h; (try dsimp only at h); go_simp; (try with_reducible rfl))
     (try simp only [Act.put, p1, p2, p3, p4, p5, p6])
     refine tk 5 ?vj5 rfl ?yj5 ?rj5
     case yj5 => (intro q h; (try dsimp only at h); go_simp; (try with_reducible rfl))
     (try simp only [Act.put, p1, p2, p3, p4, p5, p6])
     refine wpAnyH_ready (rs := [6]) (by kernel_rfl) (by simp) ?_
     refine AllReadyH.cons rfl (fun K hK => ?_) AllReadyH.nil
     go_simp
     refine (HIS.out _ (Below.refl _ _).drew).mono ?_
     rintro ex w1 ⟨rfl, T1⟩; have HB1 := Lib.hid (T1.on (Below.refl wb.heap.size wb).drew (Below.refl wb.heap.size wb).drew.size); clear T1; have S4 := HS1.out _ HB1.out
     (try dsimp only)
     refine hK.out _ _ (by exact S4) (fun hHeld => ?_)
     clear hK K
     (try simp only [Act.put, p1, p2, p3, p4, p5, p6])
     refine tk 7 ?vj7 rfl ?yj7 ?rj7
     case yj7 => (intro q h; (try dsimp only at h); go_simp; (try with_reducible rfl))
     (try simp only [Act.put, p1, p2, p3, p4, p5, p6])
     refine wpAnyH_done (by kernel_rfl) ?_ _
     refine NoPanic.normal ?_
     have HS3 := Lib.hid (HR.out.next HB1.out)
     have HBXD := Lib.hid (HX.out.next HB1.out)
     have HBD := Lib.hid (HB1.out.on HB.out HB.out.size)
     clear x0 x1 x2 x3 x4 x5 x6 x7 x8 x9 S1 S4
     obtain ⟨x0, x1, x2, x3, x4, x5, x6, x7, x8, x9⟩ := HBXD.out.c10
     have HZ := Lib.hid (HQ0.out _ HB1.out)
     go_wp2_with fail
     go_ret
     exact ⟨by rw [HYE.out]; rfl, by rw [HYE.out]; exact HZ.out⟩
   | true =>
     have hth : ¬ thereL X.R X.L q.win = false := by rw [← HTH.out]; decide
     by_cases h0 : q.win = 0
     · have h0' : (q.win == 0) = true := by simpa using h0
       have HYE := Lib.hid (show Y = (1, X) from HYC.out.trans (by unfold Xs.change; rw [if_neg hth, if_pos h0]))
       clear hq' hth h0
       go_upto_region 4 with fail
       refine wp_region_noPanic ?_
       refine wp_region_held_drew (S := fun wx => wx.cell? ⟨r, 0, none⟩ = some (.int .i64 X.R.x) ∧ wx.cell? ⟨r, 1, none⟩ = some (.int .i64 X.R.y) ∧ wx.cell? ⟨r, 2, none⟩ = some (.int .i64 X.R.w) ∧ wx.cell? ⟨r, 3, none⟩ = some (.int .i64 X.R.h) ∧ wx.cell? ⟨r, 4, none⟩ = some (.int .i64 X.R.last) ∧ wx.cell? ⟨r, 5, none⟩ = some (.slice pl X.L.length cl) ∧ wx.cell? ⟨w.heap.size, 1, none⟩ = some (.int .i64 q.win)) (by kernel_rfl) (by exact S1) (fun hHeld => ?_)
       refine tk 0 ?vl0 rfl ?yl0 ?rl0
       case yl0 => (intro q h; (try dsimp only at h); go_simp; (try with_reducible rfl))
       (try simp only [Act.put, p1, p3, p4, p5, p6])
       refine tk 1 ?vl1 rfl ?yl1 ?rl1
       case yl1 => (intro q h; (try dsimp only at h); go_simp; (try with_reducible rfl))
       (try simp only [Act.put, p1, p2, p3, p4, p5, p6])
       refine tk 2 ?vl2 rfl ?yl2 ?rl2
       case yl2 => (intro q h; (try dsimp only at h); go_simp; (try with_reducible rfl))
       (try simp only [Act.put, p1, p2, p3, p4, p5, p6])
       refine tk 3 ?vl3 rfl ?yl3 ?rl3
       case yl3 => (intro q h; (try dsimp only at h); go_simp; (try with_reducible rfl))
       (try simp only [Act.put, p1, p2, p3, p4, p5, p6])
       refine tk 4 ?vl4 rfl ?yl4 ?rl4
       case yl4 => (intro q h; (try dsimp only at h); go_simp; (try with_reducible rfl))
       (try simp only [Act.put, p1, p2, p3, p4, p5, p6])
       refine tk 5 ?vl5 rfl ?yl5 ?rl5
       case yl5 => (intro q h; (try dsimp only at h); go_simp; (try with_reducible rfl))
       (try simp only [Act.put, p1, p2, p3, p4, p5, p6])
       refine wpAnyH_ready (rs := [6]) (by kernel_rfl) (by simp) ?_
       refine AllReadyH.cons rfl (fun K hK => ?_) AllReadyH.nil
       go_simp
       refine (HIS.out _ (Below.refl _ _).drew).mono ?_
       rintro ex w1 ⟨rfl, T1⟩; have HB1 := Lib.hid (T1.on (Below.refl wb.heap.size wb).drew (Below.refl wb.heap.size wb).drew.size); clear T1; have S4 := HS1.out _ HB1.out
       (try dsimp only)
       refine hK.out _ _ (by exact S4) (fun hHeld => ?_)
       clear hK K
       (try simp only [Act.put, p1, p2, p3, p4, p5, p6])
       refine tk 7 ?vl7 rfl ?yl7 ?rl7
       case yl7 => (intro q h; (try dsimp only at h); go_simp; (try with_reducible rfl))
       (try simp only [Act.put, p1, p2, p3, p4, p5, p6])
       refine wpAnyH_done (by kernel_rfl) ?_ _
       refine NoPanic.normal ?_
       have HS3 := Lib.hid (HR.out.next HB1.out)
       have HBXD := Lib.hid (HX.out.next HB1.out)
       have HBD := Lib.hid (HB1.out.on HB.out HB.out.size)
       clear x0 x1 x2 x3 x4 x5 x6 x7 x8 x9 S1 S4
       obtain ⟨x0, x1, x2, x3, x4, x5, x6, x7, x8, x9⟩ := HBXD.out.c10
       have HZ := Lib.hid (HQ0.out _ HB1.out)
       go_wp2_with fail
       go_ret
       exact ⟨by rw [HYE.out]; rfl, by rw [HYE.out]; exact HZ.out⟩
     · have h0' : (q.win == 0) = false := by simpa using h0
       by_cases ha : a = 0
       · have ha' : (a != 0) = false := by simpa using ha
         have HYE := Lib.hid (show Y = X.own a q from HYC.out.trans (by unfold Xs.change; rw [if_neg hth, if_neg h0, if_neg (fun hh => hh.1 ha)]))
         clear hth h0 ha
         go_upto_region 4 with fail
         refine wp_region_noPanic ?_
         refine wp_region_held_drew (S := fun wx => wx.cell? ⟨r, 0, none⟩ = some (.int .i64 X.R.x) ∧ wx.cell? ⟨r, 1, none⟩ = some (.int .i64 X.R.y) ∧ wx.cell? ⟨r, 2, none⟩ = some (.int .i64 X.R.w) ∧ wx.cell? ⟨r, 3, none⟩ = some (.int .i64 X.R.h) ∧ wx.cell? ⟨r, 4, none⟩ = some (.int .i64 X.R.last) ∧ wx.cell? ⟨r, 5, none⟩ = some (.slice pl X.L.length cl) ∧ wx.cell? ⟨w.heap.size, 1, none⟩ = some (.int .i64 q.win)) (by kernel_rfl) (by exact S1) (fun hHeld => ?_)
         refine tk 0 ?vm0 rfl ?ym0 ?rm0
         case ym0 => (intro q h; (try dsimp only at h); go_simp; (try with_reducible rfl))
         (try simp only [Act.put, p1, p3, p4, p5, p6])
         refine tk 1 ?vm1 rfl ?ym1 ?rm1
         case ym1 => (intro q h; (try dsimp only at h); go_simp; (try with_reducible rfl))
         (try simp only [Act.put, p1, p2, p3, p4, p5, p6])
         refine tk 2 ?vm2 rfl ?ym2 ?rm2
         case ym2 => (intro q h; (try dsimp only at h); go_simp; (try with_reducible rfl))
         (try simp only [Act.put, p1, p2, p3, p4, p5, p6])
         refine tk 3 ?vm3 rfl ?ym3 ?rm3
         case ym3 => (intro q h; (try dsimp only at h); go_simp; (try with_reducible rfl))
         (try simp only [Act.put, p1, p2, p3, p4, p5, p6])
         refine tk 4 ?vm4 rfl ?ym4 ?rm4
         case ym4 => (intro q h; (try dsimp only at h); go_simp; (try with_reducible rfl))
         (try simp only [Act.put, p1, p2, p3, p4, p5, p6])
         refine tk 5 ?vm5 rfl ?ym5 ?rm5
         case ym5 => (intro q h; (try dsimp only at h); go_simp; (try with_reducible rfl))
         (try simp only [Act.put, p1, p2, p3, p4, p5, p6])
         refine wpAnyH_ready (rs := [6]) (by kernel_rfl) (by simp) ?_
         refine AllReadyH.cons rfl (fun K hK => ?_) AllReadyH.nil
         go_simp
         refine (HIS.out _ (Below.refl _ _).drew).mono ?_
         rintro ex w1 ⟨rfl, T1⟩; have HB1 := Lib.hid (T1.on (Below.refl wb.heap.size wb).drew (Below.refl wb.heap.size wb).drew.size); clear T1; have S4 := HS1.out _ HB1.out
         (try dsimp only)
         refine hK.out _ _ (by exact S4) (fun hHeld => ?_)
         clear hK K
         (try simp only [Act.put, p1, p2, p3, p4, p5, p6])
         refine tk 7 ?vm7 rfl ?ym7 ?rm7
         case ym7 => (intro q h; (try dsimp only at h); go_simp; (try with_reducible rfl))
         (try simp only [Act.put, p1, p2, p3, p4, p5, p6])
         refine wpAnyH_done (by kernel_rfl) ?_ _
         refine NoPanic.normal ?_
         have HS3 := Lib.hid (HR.out.next HB1.out)
         have HBXD := Lib.hid (HX.out.next HB1.out)
         have HBD := Lib.hid (HB1.out.on HB.out HB.out.size)
         clear x0 x1 x2 x3 x4 x5 x6 x7 x8 x9 S1 S4
         obtain ⟨x0, x1, x2, x3, x4, x5, x6, x7, x8, x9⟩ := HBXD.out.c10
         have HON := Lib.hid (rown_c HS3.out HV0.out HML.out a q hq' hi z1 z2)
         clear hq'
         go_wp2_with (go_at_call 90; ((with_reducible refine (HON.out).mono ?_); rintro e w3 ⟨rfl, T3⟩); have HZ := Lib.hid (RefTo.after HBD.out T3); clear T3)
         go_ret
         exact ⟨by rw [HYE.out]; rfl, by rw [HYE.out]; exact HZ.out⟩
       · have ha' : (a != 0) = true := by simpa using ha
         by_cases hw : ownM q.win X.M = a
         · have hw' : (ownM q.win X.M != a) = false := by simpa using hw
           have HYE := Lib.hid (show Y = X.own a q from HYC.out.trans (by unfold Xs.change; rw [if_neg hth, if_neg h0, if_neg (fun hh => hh.2 hw)]))
           clear hth h0 ha hw
           go_upto_region 4 with fail
           refine wp_region_noPanic ?_
           refine wp_region_held_drew (S := fun wx => wx.cell? ⟨r, 0, none⟩ = some (.int .i64 X.R.x) ∧ wx.cell? ⟨r, 1, none⟩ = some (.int .i64 X.R.y) ∧ wx.cell? ⟨r, 2, none⟩ = some (.int .i64 X.R.w) ∧ wx.cell? ⟨r, 3, none⟩ = some (.int .i64 X.R.h) ∧ wx.cell? ⟨r, 4, none⟩ = some (.int .i64 X.R.last) ∧ wx.cell? ⟨r, 5, none⟩ = some (.slice pl X.L.length cl) ∧ wx.cell? ⟨w.heap.size, 1, none⟩ = some (.int .i64 q.win)) (by kernel_rfl) (by exact S1) (fun hHeld => ?_)
           refine tk 0 ?vn0 rfl ?yn0 ?rn0
           case yn0 => (intro q h; (try dsimp only at h); go_simp; (try with_reducible rfl))
           (try simp only [Act.put, p1, p3, p4, p5, p6])
           refine tk 1 ?vn1 rfl ?yn1 ?rn1
           case yn1 => (intro q h; (try dsimp only at h); go_simp; (try with_reducible rfl))
           (try simp only [Act.put, p1, p2, p3, p4, p5, p6])
           refine tk 2 ?vn2 rfl ?yn2 ?rn2
           case yn2 => (intro q h; (try dsimp only at h); go_simp; (try with_reducible rfl))
           (try simp only [Act.put, p1, p2, p3, p4, p5, p6])
           refine tk 3 ?vn3 rfl ?yn3 ?rn3
           case yn3 => (intro q h; (try dsimp only at h); go_simp; (try with_reducible rfl))
           (try simp only [Act.put, p1, p2, p3, p4, p5, p6])
           refine tk 4 ?vn4 rfl ?yn4 ?rn4
           case yn4 => (intro q h; (try dsimp only at h); go_simp; (try with_reducible rfl))
           (try simp only [Act.put, p1, p2, p3, p4, p5, p6])
           refine tk 5 ?vn5 rfl ?yn5 ?rn5
           case yn5 => (intro q h; (try dsimp only at h); go_simp; (try with_reducible rfl))
           (try simp only [Act.put, p1, p2, p3, p4, p5, p6])
           refine wpAnyH_ready (rs := [6]) (by kernel_rfl) (by simp) ?_
           refine AllReadyH.cons rfl (fun K hK => ?_) AllReadyH.nil
           go_simp
           refine (HIS.out _ (Below.refl _ _).drew).mono ?_
           rintro ex w1 ⟨rfl, T1⟩; have HB1 := Lib.hid (T1.on (Below.refl wb.heap.size wb).drew (Below.refl wb.heap.size wb).drew.size); clear T1; have S4 := HS1.out _ HB1.out
           (try dsimp only)
           refine hK.out _ _ (by exact S4) (fun hHeld => ?_)
           clear hK K
           (try simp only [Act.put, p1, p2, p3, p4, p5, p6])
           refine tk 7 ?vn7 rfl ?yn7 ?rn7
           case yn7 => (intro q h; (try dsimp only at h); go_simp; (try with_reducible rfl))
           (try simp only [Act.put, p1, p2, p3, p4, p5, p6])
           refine wpAnyH_done (by kernel_rfl) ?_ _
           refine NoPanic.normal ?_
           have HS3 := Lib.hid (HR.out.next HB1.out)
           have HBXD := Lib.hid (HX.out.next HB1.out)
           have HBD := Lib.hid (HB1.out.on HB.out HB.out.size)
           clear x0 x1 x2 x3 x4 x5 x6 x7 x8 x9 S1 S4
           obtain ⟨x0, x1, x2, x3, x4, x5, x6, x7, x8, x9⟩ := HBXD.out.c10
           have HOW := Lib.hid (rowner_c HS3.out (Nat.le_trans HML.out (by decide)) q.win)
           have HON := Lib.hid (rown_c HS3.out HV0.out HML.out a q hq' hi z1 z2)
           clear hq'
           go_wp2_with (first
             | (go_at_call 22; ((with_reducible refine (HOW.out).mono ?_); rintro e w2 ⟨rfl, rfl⟩))
             | (go_at_call 90; ((with_reducible refine (HON.out).mono ?_); rintro e w3 ⟨rfl, T3⟩); have HZ := Lib.hid (RefTo.after HBD.out T3); clear T3))
           go_ret
           exact ⟨by rw [HYE.out]; rfl, by rw [HYE.out]; exact HZ.out⟩
         · have hw' : (ownM q.win X.M != a) = true := by simpa using hw
           have HYE := Lib.hid (show Y = (80, X) from HYC.out.trans (by unfold Xs.change; rw [if_neg hth, if_neg h0, if_pos ⟨ha, hw⟩]))
           clear hth h0 ha hw hq'
           go_upto_region 4 with fail
           refine wp_region_noPanic ?_
           refine wp_region_held_drew (S := fun wx => wx.cell? ⟨r, 0, none⟩ = some (.int .i64 X.R.x) ∧ wx.cell? ⟨r, 1, none⟩ = some (.int .i64 X.R.y) ∧ wx.cell? ⟨r, 2, none⟩ = some (.int .i64 X.R.w) ∧ wx.cell? ⟨r, 3, none⟩ = some (.int .i64 X.R.h) ∧ wx.cell? ⟨r, 4, none⟩ = some (.int .i64 X.R.last) ∧ wx.cell? ⟨r, 5, none⟩ = some (.slice pl X.L.length cl) ∧ wx.cell? ⟨w.heap.size, 1, none⟩ = some (.int .i64 q.win)) (by kernel_rfl) (by exact S1) (fun hHeld => ?_)
           refine tk 0 ?vo0 rfl ?yo0 ?ro0
           case yo0 => (intro q h; (try dsimp only at h); go_simp; (try with_reducible rfl))
           (try simp only [Act.put, p1, p3, p4, p5, p6])
           refine tk 1 ?vo1 rfl ?yo1 ?ro1
           case yo1 => (intro q h; (try dsimp only at h); go_simp; (try with_reducible rfl))
           (try simp only [Act.put, p1, p2, p3, p4, p5, p6])
           refine tk 2 ?vo2 rfl ?yo2 ?ro2
           case yo2 => (intro q h; (try dsimp only at h); go_simp; (try with_reducible rfl))
           (try simp only [Act.put, p1, p2, p3, p4, p5, p6])
           refine tk 3 ?vo3 rfl ?yo3 ?ro3
           case yo3 => (intro q h; (try dsimp only at h); go_simp; (try with_reducible rfl))
           (try simp only [Act.put, p1, p2, p3, p4, p5, p6])
           refine tk 4 ?vo4 rfl ?yo4 ?ro4
           case yo4 => (intro q h; (try dsimp only at h); go_simp; (try with_reducible rfl))
           (try simp only [Act.put, p1, p2, p3, p4, p5, p6])
           refine tk 5 ?vo5 rfl ?yo5 ?ro5
           case yo5 => (intro q h; (try dsimp only at h); go_simp; (try with_reducible rfl))
           (try simp only [Act.put, p1, p2, p3, p4, p5, p6])
           refine wpAnyH_ready (rs := [6]) (by kernel_rfl) (by simp) ?_
           refine AllReadyH.cons rfl (fun K hK => ?_) AllReadyH.nil
           go_simp
           refine (HIS.out _ (Below.refl _ _).drew).mono ?_
           rintro ex w1 ⟨rfl, T1⟩; have HB1 := Lib.hid (T1.on (Below.refl wb.heap.size wb).drew (Below.refl wb.heap.size wb).drew.size); clear T1; have S4 := HS1.out _ HB1.out
           (try dsimp only)
           refine hK.out _ _ (by exact S4) (fun hHeld => ?_)
           clear hK K
           (try simp only [Act.put, p1, p2, p3, p4, p5, p6])
           refine tk 7 ?vo7 rfl ?yo7 ?ro7
           case yo7 => (intro q h; (try dsimp only at h); go_simp; (try with_reducible rfl))
           (try simp only [Act.put, p1, p2, p3, p4, p5, p6])
           refine wpAnyH_done (by kernel_rfl) ?_ _
           refine NoPanic.normal ?_
           have HS3 := Lib.hid (HR.out.next HB1.out)
           have HBXD := Lib.hid (HX.out.next HB1.out)
           have HBD := Lib.hid (HB1.out.on HB.out HB.out.size)
           clear x0 x1 x2 x3 x4 x5 x6 x7 x8 x9 S1 S4
           obtain ⟨x0, x1, x2, x3, x4, x5, x6, x7, x8, x9⟩ := HBXD.out.c10
           have HOW := Lib.hid (rowner_c HS3.out (Nat.le_trans HML.out (by decide)) q.win)
           have HZ := Lib.hid (HQ0.out _ HB1.out)
           go_wp2_with (go_at_call 22; ((with_reducible refine (HOW.out).mono ?_); rintro e w2 ⟨rfl, rfl⟩))
           go_ret
           exact ⟨by rw [HYE.out]; rfl, by rw [HYE.out]; exact HZ.out⟩
end
end Go.Proofs.YtnhchpiafchdgaaGreat
