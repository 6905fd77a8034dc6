/- Texts SuF. -/
import Derived.Test.YtnhchpiafchdgaaGreatTaw
import Derived.Test.YtnhchpiafchdgaaGreatTaa
namespace Go.Proofs.YtnhchpiafchdgaaGreat
open Go.RowKit Go.Shelf Go.Maps
section
variable {w w' w0 : World} {r : Nat} {Z : Zl} {X : Xs} {k : Nat}
theorem Ref.foot_lt (h : Ref w r Z X) {b : Nat} (hb : Z.foot r b) : b < w.heap.size := h.lt (by
 rcases hb with hb | hb
 · exact .inl hb
 · exact .inr (.inr (.inr (.inr hb))))
theorem RefTo.chg {X3 : Xs} {R : RT} {L' : List Win} {er : Int} (h : RefTo w r Z (if er = 0 then { X3 with R := R, L := L' } else X3) w') (hR : X3.R = R) (hz : er ≠ 0 → L' = X3.L) : RefTo w r Z { X3 with L := L' } w' := by
 by_cases he : er = 0
 · rw [if_pos he] at h; subst hR; exact h
 · rw [if_neg he] at h; rw [hz he]; exact h
theorem tMap_no {on : Bool} {i : Int} {L : List Win} (h : (tMap on i L).2 ≠ 0) : (tMap on i L).1 = L := by
 unfold tMap at h ⊢; split
 · rfl
 · next hn => rw [if_neg hn] at h; exact absurd rfl h
theorem tConf_no {i x y a e : Int} {L : List Win} (h : (tConf i x y a e L).2 ≠ 0) : (tConf i x y a e L).1 = L := by
 unfold tConf at h ⊢; split
 · rfl
 · next hn =>
   rw [if_neg hn] at h
   split
   · rfl
   · next hm => rw [if_neg hm] at h; exact absurd rfl h
theorem tRaise_no {i : Int} {L : List Win} (h : (tRaise i L).2 ≠ 0) : (tRaise i L).1 = L := by
 unfold tRaise at h ⊢; split
 · rfl
 · next hn => rw [if_neg hn] at h; exact absurd rfl h
theorem tLower_no {i : Int} {L : List Win} (h : (tLower i L).2 ≠ 0) : (tLower i L).1 = L := by
 unfold tLower at h ⊢; split
 · rfl
 · next hn => rw [if_neg hn] at h; exact absurd rfl h
set_option maxRecDepth 100000 in
set_option maxHeartbeats 16000000 in
theorem rown_c (h : Ref w r Z X) (hV : V0 X k) (hML : X.M.length ≤ 1000) (a : Int) (q : Rq) (hq : (2 ≤ q.kind ∧ q.kind ≤ 7) ∨ q.kind = 10) (hi : I64 q.win) (z1 : q.p.name.size ≤ maxLen) (z2 : q.p.typ.size ≤ maxLen) :
  Calls Tryz.prog 90 #[refP r, .int .i64 a, rqV q] w fun ex w' => ex = .returned (.int .i64 (X.own a q).1) ∧ RefTo w r Z (X.own a q).2 w' := by
 obtain ⟨wb, hwb⟩ : ∃ wb, wb = w.alloc (.cells #[.int .i64 q.kind, .int .i64 q.win, .int .i64 q.other, .int .i64 q.x, .int .i64 q.y, .int .i64 q.a, .int .i64 q.e, .string q.p.name, .string q.p.typ, .string q.p.data] 37) := ⟨_, rfl⟩
 have hbel : Below w.heap.size w wb := by rw [hwb]; exact (Below.refl _ _).alloc (Nat.le_refl _) _
 have hbx : Blk wb w.heap.size 37 (rqL q) := by rw [hwb]; exact Blk.new w _ _
 have hs := h.next hbel
 obtain ⟨b0, b1, b2, b3, b4, b5, -, -, -, -, -⟩ := hs.blk.at11
 obtain ⟨x0, x1, x2, x3, x4, x5, x6, x7, x8, x9⟩ := hbx.c10
 obtain ⟨pl, cl, hlv⟩ := h.l.slice
 rw [hlv] at b5
 have HLV := Lib.hid hlv
 have HW := Lib.hid hwb
 have HB := Lib.hid hbel
 have HX := Lib.hid hbx
 have HR := Lib.hid hs
 have HRW := Lib.hid h
 have HV0 := Lib.hid hV
 have HML := Lib.hid hML
 obtain ⟨v, hv⟩ : ∃ v, v = winL X.R X.L q.win := ⟨_, rfl⟩
 obtain ⟨th, hth⟩ : ∃ th, th = thereL X.R X.L q.win := ⟨_, rfl⟩
 have HGET := Lib.hid (fun W (hW : Below wb.heap.size wb W) => (show Calls Tryz.prog 39 #[refV X.R (.slice pl X.L.length cl), .int .i64 q.win] W fun e w' => e = .returned (.tuple #[winV v, .bool th]) ∧ Below W.heap.size W w' from by
  rw [← hlv, hv, hth]; exact (shows_all hV.s hi).rget W Z.lv (RO.rd (hs.next hW).l)))
 obtain ⟨ak, hak⟩ : ∃ ak, ak = X.asks a q.win := ⟨_, rfl⟩
 have HAK := Lib.hid hak
 have HVV := Lib.hid hv
 obtain ⟨vid, vpar, vx, vy, vw, vh, von⟩ := v
 have HS1 := Lib.hid (fun W (hW : Below wb.heap.size wb W) => (show (fun wx => wx.cell? ⟨r, 0, none⟩ = some (.int .i64 X.R.x) ∧ wx.cell? ⟨r, 1, none⟩ = some (.int .i64 X.R.y) ∧ wx.cell? ⟨r, 2, none⟩ = some (.int .i64 X.R.w) ∧ wx.cell? ⟨r, 3, none⟩ = some (.int .i64 X.R.h) ∧ wx.cell? ⟨r, 4, none⟩ = some (.int .i64 X.R.last) ∧ wx.cell? ⟨r, 5, none⟩ = some (.slice pl X.L.length cl) ∧ wx.cell? ⟨w.heap.size, 1, none⟩ = some (.int .i64 q.win)) W from by
  have hy := (HR.out.next hW).blk.at11
  rw [HLV.out] at hy
  exact ⟨hy.1, hy.2.1, hy.2.2.1, hy.2.2.2.1, hy.2.2.2.2.1, hy.2.2.2.2.2.1, (HX.out.next hW).c10.2.1⟩))
 obtain ⟨Y, hY⟩ : ∃ Y, Y = X.own a q := ⟨_, rfl⟩
 rw [← hY]
 have HY := Lib.hid hY
 clear h hV hs hbx hbel hlv hv hth hak hML hY
 go_enter Tryz.func90, Tryz.ntmps90
 go_upto_region 1 with fail
 rw [← HW.out]
 clear hwb
 go_cut [7] (fun s7 wx => ∃ g, s7 = .pointer (some ⟨g, 0, none⟩) ∧ Blk wx g 61 #[.int .i64 vid, .int .i64 vpar, .int .i64 vx, .int .i64 vy, .int .i64 vw, .int .i64 vh, .bool von] ∧ wb.heap.size ≤ g ∧ Below wb.heap.size wb wx)
 case first =>
  refine wp_region_noPanic ?_
  refine wp_region_held_drew (S := fun wx => wx.cell? ⟨r, 0, none⟩ = some (.int .i64 X.R.x) ∧ wx.cell? ⟨r, 1, none⟩ = some (.int .i64 X.R.y) ∧ wx.cell? ⟨r, 2, none⟩ = some (.int .i64 X.R.w) ∧ wx.cell? ⟨r, 3, none⟩ = some (.int .i64 X.R.h) ∧ wx.cell? ⟨r, 4, none⟩ = some (.int .i64 X.R.last) ∧ wx.cell? ⟨r, 5, none⟩ = some (.slice pl X.L.length cl) ∧ wx.cell? ⟨w.heap.size, 1, none⟩ = some (.int .i64 q.win)) (by kernel_rfl) (by exact ⟨b0, b1, b2, b3, b4, b5, x1⟩) (fun hHeld => ?_)
  refine tk 0 ?va0 rfl ?ya0 ?ra0
  case ya0 => (intro q h; (try dsimp only at h); go_simp; (try with_reducible rfl))
  (try simp only [Act.put, p1, p3, p4, p5, p6])
  refine tk 1 ?va1 rfl ?ya1 ?ra1
  case ya1 => (intro q h; (try dsimp only at h); go_simp; (try with_reducible rfl))
  (try simp only [Act.put, p1, p2, p3, p4, p5, p6])
  refine tk 2 ?va2 rfl ?ya2 ?ra2
  case ya2 => (intro q h; (try dsimp only at h); go_simp; (try with_reducible rfl))
  (try simp only [Act.put, p1, p2, p3, p4, p5, p6])
  refine tk 3 ?va3 rfl ?ya3 ?ra3
  case ya3 => (intro q h; (try dsimp only at h); go_simp; (try with_reducible rfl))
  (try simp only [Act.put, p1, p2, p3, p4, p5, p6])
  refine tk 4 ?va4 rfl ?ya4 ?ra4
  case ya4 => (intro q h; (try dsimp only at h); go_simp; (try with_reducible rfl))
  (try simp only [Act.put, p1, p2, p3, p4, p5, p6])
  refine tk 5 ?va5 rfl ?ya5 ?ra5
  case ya5 => (intro q h; (try dsimp only at h); go_simp; (try with_reducible rfl))
  (try simp only [Act.put, p1, p2, p3, p4, p5, p6])
  refine wpAnyH_ready (rs := [6, 10]) (by kernel_rfl) (by simp) ?_
  refine AllReadyH.cons rfl (fun K hK => ?_) (AllReadyH.cons rfl (fun K hK => ?_) AllReadyH.nil)
  · go_simp
    refine (HGET.out _ (Below.refl _ _).drew).mono ?_
    rintro ex w2 ⟨rfl, hb0⟩; have hb2 := hb0.on (Below.refl wb.heap.size wb).drew (Below.refl wb.heap.size wb).drew.size; clear hb0
    (try dsimp only)
    refine hK.out _ _ (by exact HS1.out _ hb2) (fun hHeld => ?_)
    clear hK K
    (try simp only [Act.put, p1, p2, p3, p4, p5, p6])
    refine tk 7 ?vb7 rfl ?yb7 ?rb7
    case yb7 => (intro q h; (try dsimp only at h); go_simp; (try with_reducible rfl))
    (try simp only [Act.put, p1, p2, p3, p4, p5, p6])
    refine tk 8 ?vb8 rfl ?yb8 ?rb8
    case yb8 => (intro q h; (try dsimp only at h); go_simp; (try with_reducible rfl))
    (try simp only [Act.put, p1, p2, p3, p4, p5, p6])
    refine tk 9 ?vb9 rfl ?yb9 ?rb9
    case yb9 => (intro q h; (try dsimp only at h); go_simp; (try with_reducible rfl))
    (try simp only [Act.put, p1, p2, p3, p4, p5, p6])
    refine wpAnyH_ready (rs := [10]) (by kernel_rfl) (by simp) ?_
    refine AllReadyH.cons rfl (fun K hK => ?_) AllReadyH.nil
    go_simp
    have hB := Blk.new w2 61 #[.int .i64 0, .int .i64 0, .int .i64 0, .int .i64 0, .int .i64 0, .int .i64 0, .bool false]
    have hb3 := hb2.alloc hb2.size (.cells #[.int .i64 0, .int .i64 0, .int .i64 0, .int .i64 0, .int .i64 0, .int .i64 0, .bool false] 61)
    refine hK.out _ _ (by exact HS1.out _ hb3) (fun hHeld => ?_)
    clear hK K
    (try simp only [Act.put, p1, p2, p3, p4, p5, p6])
    obtain ⟨⟨y0, y1, y2, y3, y4, y5, y6⟩, ⟨f0, f1, f2, f3, f4, f5, f6⟩⟩ := hB.c7
    refine wpAnyH_ready (rs := [11]) (by kernel_rfl) (by simp) ?_
    refine AllReadyH.cons rfl (fun K hK => ?_) AllReadyH.nil
    go_simp
    have hB4 := Blk.new w2 61 #[.int .i64 vid, .int .i64 vpar, .int .i64 vx, .int .i64 vy, .int .i64 vw, .int .i64 vh, .bool von]
    have hb4 := hb2.alloc hb2.size (.cells #[.int .i64 vid, .int .i64 vpar, .int .i64 vx, .int .i64 vy, .int .i64 vw, .int .i64 vh, .bool von] 61)
    refine hK.out _ _ (by exact HS1.out _ hb4) (fun hHeld => ?_)
    clear hK K
    (try simp only [Act.put, p1, p2, p3, p4, p5, p6])
    refine tk 12 ?vb12 rfl ?yb12 ?rb12
    case yb12 => (intro q h; (try dsimp only at h); go_simp; (try with_reducible rfl))
    (try simp only [Act.put, p1, p2, p3, p4, p5, p6])
    refine wpAnyH_done (by kernel_rfl) ?_ _
    refine NoPanic.normal ?_
    go_wp2_with fail
    go_meet
    exact ⟨_, rfl, hB4, hb2.size, hb4⟩
  · go_simp
    have hb2 := (Below.refl wb.heap.size wb).alloc (Nat.le_refl _) (.cells #[.int .i64 0, .int .i64 0, .int .i64 0, .int .i64 0, .int .i64 0, .int .i64 0, .bool false] 61)
    have hB0 := Blk.new wb 61 #[.int .i64 0, .int .i64 0, .int .i64 0, .int .i64 0, .int .i64 0, .int .i64 0, .bool false]
    refine hK.out _ _ (by exact HS1.out _ hb2.drew) (fun hHeld => ?_)
    clear hK K
    (try simp only [Act.put, p1, p2, p3, p4, p5, p6])
    refine wpAnyH_ready (rs := [6]) (by kernel_rfl) (by simp) ?_
    refine AllReadyH.cons rfl (fun K hK => ?_) AllReadyH.nil
    go_simp
    refine (HGET.out _ hb2.drew).mono ?_
    rintro ex w2 ⟨rfl, hb0⟩; have hb3 := hb0.on hb2.drew hb2.size; have hB := hB0.drew.next hb0; clear hb0
    (try dsimp only)
    refine hK.out _ _ (by exact HS1.out _ hb3) (fun hHeld => ?_)
    clear hK K
    (try simp only [Act.put, p1, p2, p3, p4, p5, p6])
    refine tk 7 ?vc7 rfl ?yc7 ?rc7
    case yc7 => (intro q h; (try dsimp only at h); go_simp; (try with_reducible rfl))
    (try simp only [Act.put, p1, p2, p3, p4, p5, p6])
    refine tk 8 ?vc8 rfl ?yc8 ?rc8
    case yc8 => (intro q h; (try dsimp only at h); go_simp; (try with_reducible rfl))
    (try simp only [Act.put, p1, p2, p3, p4, p5, p6])
    refine tk 9 ?vc9 rfl ?yc9 ?rc9
    case yc9 => (intro q h; (try dsimp only at h); go_simp; (try with_reducible rfl))
    (try simp only [Act.put, p1, p2, p3, p4, p5, p6])
    obtain ⟨⟨y0, y1, y2, y3, y4, y5, y6⟩, ⟨f0, f1, f2, f3, f4, f5, f6⟩⟩ := hB.c7
    refine wpAnyH_ready (rs := [11]) (by kernel_rfl) (by simp) ?_
    refine AllReadyH.cons rfl (fun K hK => ?_) AllReadyH.nil
    go_simp
    refine hK.out _ _ (by exact HS1.out _ (set7 hb3 (Nat.le_refl _) _ _ _ _ _ _ _)) (fun hHeld => ?_)
    clear hK K
    (try simp only [Act.put, p1, p2, p3, p4, p5, p6])
    refine tk 12 ?vc12 rfl ?yc12 ?rc12
    case yc12 => (intro q h; (try dsimp only at h); go_simp; (try with_reducible rfl))
    (try simp only [Act.put, p1, p2, p3, p4, p5, p6])
    refine wpAnyH_done (by kernel_rfl) ?_ _
    refine NoPanic.normal ?_
    go_wp2_with fail
    go_meet
    exact ⟨_, rfl, chain7 hB _ _ _ _ _ _ _, Nat.le_refl _, set7 hb3 (Nat.le_refl _) _ _ _ _ _ _ _⟩
 case rest =>
  obtain ⟨g, rfl, hB, hg, hbc⟩ := hcut
  obtain ⟨wg, hwg⟩ : ∃ wg, wg = wc := ⟨_, rfl⟩
  subst hwg
  have hs2 := HR.out.next hbc
  have b9 := hs2.blk.at_ (i := 9) (v := .bool X.G) rfl
  have x1' := (HX.out.next hbc).at_ (i := 1) (v := .int .i64 q.win) rfl
  have y1 := hB.at_ (i := 1) (v := .int .i64 vpar) rfl
  have HOW := Lib.hid (fun (n : Nat) (j : Int) => rowner_c (hs2.drewN n) (Nat.le_trans HML.out (by decide)) j)
  have HBC := Lib.hid hbc
  clear hs2 hbc hB hg b0 b1 b2 b3 b4 b5 x0 x1 x2 x3 x4 x5 x6 x7 x8 x9
  go_upto_region 2 with fail
  go_cut [9] (fun s9 wx => s9 = .bool ak ∧ Below wb.heap.size wb wx)
  case first =>
    have HM := Lib.hid (fun n => below_drewN HBC.out n)
    by_cases h0 : a = 0
    · have hb0 : (a != 0) = false := by simpa using h0
      have HA := Lib.hid (show ak = false from by rw [HAK.out]; unfold Xs.asks; rw [h0]; rfl)
      clear h0
      go_quiet (fail)
      go_wp2_with fail
      go_meet
      exact ⟨by rw [HA.out], HM.out _⟩
    · have hb0 : (a != 0) = true := by simpa using h0
      cases hG : X.G with
      | false =>
        have HA := Lib.hid (show ak = false from by rw [HAK.out]; unfold Xs.asks; rw [hG]; simp)
        rw [hG] at b9
        clear h0 hG
        go_quiet (fail)
        go_wp2_with fail
        go_meet
        exact ⟨by rw [HA.out], HM.out _⟩
      | true =>
        rw [hG] at b9
        by_cases hp : vpar = 0
        · have hp0 : (vpar == 0) = true := by simpa using hp
          have HA := Lib.hid (show ak = true from by rw [HAK.out]; unfold Xs.asks; rw [hG, ← HVV.out, decide_eq_true h0, decide_eq_true hp]; rfl)
          clear h0 hG hp
          go_quiet (fail)
          go_wp2_with fail
          go_meet
          exact ⟨by rw [HA.out], HM.out _⟩
        · have hp0 : (vpar == 0) = false := by simpa using hp
          have HA := Lib.hid (show (ownM vpar X.M != ownM q.win X.M) = ak from by
            rw [HAK.out]; unfold Xs.asks; rw [hG, ← HVV.out, decide_eq_true h0, decide_eq_false hp]
            simp only [Bool.true_and, Bool.false_or]
            by_cases he : ownM vpar X.M = ownM q.win X.M
            · simp [he]
            · simp [he])
          clear h0 hG hp
          go_quiet ((go_at_call 22; exact Calls.quiet_of_same ((HOW.out _ _).mono fun e w' h => ⟨h.1, h.2.symm⟩)))
          go_wp2_with fail
          go_meet
          exact ⟨by rw [← HA.out], HM.out _⟩
  case rest =>
    obtain ⟨rfl, hb9⟩ := hcut
    obtain ⟨wd, hwd⟩ : ∃ wd, wd = wc := ⟨_, rfl⟩
    subst hwd
    have hs3 := HR.out.next hb9
    have hbx := HX.out.next hb9
    obtain ⟨x0, x1, x2, x3, x4, x5, x6, x7, x8, x9⟩ := hbx.c10
    have HS3 := Lib.hid hs3
    have HBXD := Lib.hid hbx
    have HBD := Lib.hid (hb9.on HB.out HB.out.size)
    have HNF := Lib.hid (show ¬ Z.foot r w.heap.size from fun hf => Nat.lt_irrefl _ (HRW.out.foot_lt hf))
    have HBLT := Lib.hid (show w.heap.size < wd.heap.size from hbx.lt)
    have HEV := Lib.hid HV0.out.ev
    clear b9 x1' y1 HOW hs3 hbx hb9
    by_cases k2 : q.kind = 2
    · have HYE := Lib.hid (HY.out.trans (own_two X a q k2))
      rw [k2] at x0
      have HD := Lib.hid (rdestroy_c HS3.out HV0.out HML.out hi)
      clear k2
      go_wp2_with (go_at_call 60; ((with_reducible refine (HD.out).mono ?_); rintro e w3 ⟨rfl, T3⟩); have HZ := Lib.hid (RefTo.after HBD.out T3); clear T3)
      go_ret
      exact ⟨by rw [HYE.out]; rfl, by rw [HYE.out]; exact HZ.out⟩
    · have k2' : (q.kind == 2) = false := by simpa using k2
      by_cases k10 : q.kind = 10
      · skip
        rw [k10] at x0
        obtain ⟨p6, c6, hp6⟩ := HS3.out.p.slice
        have HP6 := Lib.hid hp6
        obtain ⟨er, her⟩ : ∃ er, er = Pp.eH X.H q.win q.p := ⟨_, rfl⟩
        obtain ⟨H1, hH1⟩ : ∃ H1, H1 = Pp.sH X.H q.win q.p := ⟨_, rfl⟩
        have HST := Lib.hid (fun W' (hW : Below wd.heap.size wd W') => (show Calls Tryz.prog 116 #[Z.pv, .int .i64 q.win, Pp.prV q.p] W' fun e w' => ∃ v', e = .returned (.tuple #[v', .int .i64 er]) ∧ Pp.OH w' 0 v' H1 ∧ Below W'.heap.size W' w' from by
          rw [her, hH1]
          exact Pp.rset_c (HS3.out.next hW).p (Nat.zero_le _) HV0.out.h.inv (Nat.le_trans HV0.out.hl (Nat.le_trans HV0.out.s.most (by decide))) q.win q.p z1 z2))
        rw [hp6] at HST
        have HS7 := Lib.hid (fun W' (hW : Below wd.heap.size wd W') => (show (fun wx => wx.cell? ⟨r, 6, none⟩ = some (.slice p6 X.H.length c6) ∧ wx.cell? ⟨w.heap.size, 1, none⟩ = some (.int .i64 q.win) ∧ wx.cell? ⟨w.heap.size, 7, none⟩ = some (.string q.p.name) ∧ wx.cell? ⟨w.heap.size, 8, none⟩ = some (.string q.p.typ) ∧ wx.cell? ⟨w.heap.size, 9, none⟩ = some (.string q.p.data)) W' from by
          have hy := (HBXD.out.next hW).c10
          have h6 := (HS3.out.next hW).blk.at_ (i := 6) (v := Z.pv) rfl
          rw [HP6.out] at h6
          exact ⟨h6, hy.2.1, hy.2.2.2.2.2.2.2.1, hy.2.2.2.2.2.2.2.2.1, hy.2.2.2.2.2.2.2.2.2⟩))
        have S0 := HS7.out wd (Below.refl _ _)
        have HYT := Lib.hid (HY.out.trans (own_ten X a q k10))
        have HER := Lib.hid her
        have HH1 := Lib.hid hH1
        clear hp6 her hH1 k10 k2
        go_upto_region 7 with fail
        refine wp_region_noPanic ?_
        refine wp_region_held_drew (S := fun wx => wx.cell? ⟨r, 6, none⟩ = some (.slice p6 X.H.length c6) ∧ wx.cell? ⟨w.heap.size, 1, none⟩ = some (.int .i64 q.win) ∧ wx.cell? ⟨w.heap.size, 7, none⟩ = some (.string q.p.name) ∧ wx.cell? ⟨w.heap.size, 8, none⟩ = some (.string q.p.typ) ∧ wx.cell? ⟨w.heap.size, 9, none⟩ = some (.string q.p.data)) (by kernel_rfl) (by exact S0) (fun hHeld => ?_)
        refine tk 0 ?vk0 rfl ?yk0 ?rk0
        case yk0 => (intro q h; (try dsimp only at h); go_simp; (try with_reducible rfl))
        (try simp only [Act.put, p1, p3, p4, p5, p6])
        refine tk 1 ?vk1 rfl ?yk1 ?rk1
        case yk1 => (intro q h; (try dsimp only at h); go_simp; (try with_reducible rfl))
        (try simp only [Act.put, p1, p2, p3, p4, p5, p6])
        refine tk 2 ?vk2 rfl ?yk2 ?rk2
        case yk2 => (intro q h; (try dsimp only at h); go_simp; (try with_reducible rfl))
        (try simp only [Act.put, p1, p2, p3, p4, p5, p6])
        refine tk 3 ?vk3 rfl ?yk3 ?rk3
        case yk3 => (intro q h; (try dsimp only at h); go_simp; (try with_reducible rfl))
        (try simp only [Act.put, p1, p2, p3, p4, p5, p6])
        refine tk 4 ?vk4 rfl ?yk4 ?rk4
        case yk4 => (intro q h; (try dsimp only at h); go_simp; (try with_reducible rfl))
        (try simp only [Act.put, p1, p2, p3, p4, p5, p6])
        refine tk 5 ?vk5 rfl ?yk5 ?rk5
        case yk5 => (intro q h; (try dsimp only at h); go_simp; (try with_reducible rfl))
        (try simp only [Act.put, p1, p2, p3, p4, p5, p6])
        refine tk 6 ?vk6 rfl ?yk6 ?rk6
        case yk6 => (intro q h; (try dsimp only at h); go_simp; (try with_reducible rfl))
        (try simp only [Act.put, p1, p2, p3, p4, p5, p6])
        refine tk 7 ?vk7 rfl ?yk7 ?rk7
        case yk7 => (intro q h; (try dsimp only at h); go_simp; (try with_reducible rfl))
        (try simp only [Act.put, p1, p2, p3, p4, p5, p6])
        refine wpAnyH_ready (rs := [8]) (by kernel_rfl) (by simp) ?_
        refine AllReadyH.cons rfl (fun K hK => ?_) AllReadyH.nil
        go_simp
        refine (HST.out _ (Below.refl _ _).drew).mono ?_
        rintro ex w4 ⟨v4, rfl, T4, B4⟩; obtain ⟨p4, c4, hv4⟩ := T4.slice; subst hv4; have HB4 := Lib.hid (B4.on (Below.refl wd.heap.size wd).drew (Below.refl wd.heap.size wd).drew.size); have HT4 := Lib.hid T4; clear T4 B4; have S4 := HS7.out _ HB4.out
        (try dsimp only)
        refine hK.out _ _ (by exact S4) (fun hHeld => ?_)
        clear hK K
        (try simp only [Act.put, p1, p2, p3, p4, p5, p6])
        refine tk 9 ?vk9 rfl ?yk9 ?rk9
        case yk9 => (intro q h; (try dsimp only at h); go_simp; (try with_reducible rfl))
        (try simp only [Act.put, p1, p2, p3, p4, p5, p6])
        refine tk 10 ?vk10 rfl ?yk10 ?rk10
        case yk10 => (intro q h; (try dsimp only at h); go_simp; (try with_reducible rfl))
        (try simp only [Act.put, p1, p2, p3, p4, p5, p6])
        refine tk 11 ?vk11 rfl ?yk11 ?rk11
        case yk11 => (intro q h; (try dsimp only at h); go_simp; (try with_reducible rfl))
        (try simp only [Act.put, p1, p2, p3, p4, p5, p6])
        refine tk 12 ?vk12 rfl ?yk12 ?rk12
        case yk12 => (intro q h; (try dsimp only at h); go_simp; (try with_reducible rfl))
        (try simp only [Act.put, p1, p2, p3, p4, p5, p6])
        refine tk 13 ?vk13 rfl ?yk13 ?rk13
        case yk13 => (intro q h; (try dsimp only at h); go_simp; (try with_reducible rfl))
        (try simp only [Act.put, p1, p2, p3, p4, p5, p6])
        refine wpAnyH_done (by kernel_rfl) ?_ _
        refine NoPanic.normal ?_
        have hbx4 := HBXD.out.next HB4.out
        have hs4 := HS3.out.next HB4.out
        clear x0 x1 x2 x3 x4 x5 x6 x7 x8 x9 S0 S4
        obtain ⟨x0, x1, x2, x3, x4, x5, x6, x7, x8, x9⟩ := hbx4.c10
        have b6 := hs4.blk.at_ (i := 6) (v := Z.pv) rfl
        have f6 := hs4.blk.frozen 6
        clear hbx4 hs4
        by_cases he : er = 0
        · subst he
          by_cases ha : a = 0
          · have ha0 : (a != 0) = false := by simpa using ha
            have HYE := Lib.hid (show Y = (0, { X with H := H1 }) from HYT.out.trans (by unfold Xs.setp; rw [← HER.out, ← HH1.out]; simp [ha]))
            have HZ := Lib.hid (RefTo.after HBD.out (HS3.out.putP HB4.out HT4.out))
            clear ha
            go_wp2_with fail
            go_ret
            exact ⟨by rw [HYE.out]; rfl, by rw [HYE.out]; exact HZ.out⟩
          · have ha0 : (a != 0) = true := by simpa using ha
            have HYE := Lib.hid (show Y = (0, ({ X with H := H1 } : Xs).tell ⟨5, q.win, 0, 0, 0, 0, q.p.name⟩) from HYT.out.trans (by unfold Xs.setp; rw [← HER.out, ← HH1.out]; simp [ha]))
            have HP5 := Lib.hid (HS3.out.putP HB4.out HT4.out)
            clear ha
            go_upto_region 10 with fail
            obtain ⟨w5, hw5⟩ : ∃ w5, w5 = w4.setCell ⟨r, 6, none⟩ (.slice p4 H1.length c4) := ⟨_, rfl⟩
            rw [← hw5] at HP5 ⊢
            obtain ⟨Z5, S5, U5⟩ := HP5.out
            have hbx5 := U5.blk HBXD.out HNF.out
            have HTL := Lib.hid (rtell_c S5 HEV.out ⟨5, q.win, 0, 0, 0, 0, q.p.name⟩)
            have HU5 := Lib.hid U5
            clear x0 x1 x2 x3 x4 x5 x6 x7 x8 x9 b6 f6
            obtain ⟨x0, x1, x2, x3, x4, x5, x6, x7, x8, x9⟩ := hbx5.c10
            clear hbx5 U5 S5 hw5
            go_wp2_with (go_at_call 88; ((with_reducible refine (HTL.out).mono ?_); rintro e w6 ⟨rfl, T6⟩); have HZ := Lib.hid (RefTo.after HBD.out (RefTo.trans HU5.out T6)); clear T6)
            go_ret
            exact ⟨by rw [HYE.out]; rfl, by rw [HYE.out]; exact HZ.out⟩
        · have he0 : (er == 0) = false := by simpa using he
          have HYE := Lib.hid (show Y = (er, X) from HYT.out.trans (by unfold Xs.setp; rw [← HER.out]; simp [he]))
          have HZ := Lib.hid (RefTo.after HBD.out (RefTo.same HS3.out HB4.out))
          clear he
          go_wp2_with fail
          go_ret
          exact ⟨by rw [HYE.out]; rfl, by rw [HYE.out]; exact HZ.out⟩
      · have k10' : (q.kind == 10) = false := by simpa using k10
        by_cases k4 : q.kind = 4
        · rw [k4] at x0
          have hk3 : ¬ q.kind = 3 := by omega
          cases ak with
          | true =>
            have hak := HAK.out.symm
            have HTL := Lib.hid (rtell_c HS3.out HEV.out ⟨3, q.win, 0, 0, 0, 0, ⟨#[]⟩⟩)
            obtain ⟨X3, hX3⟩ : ∃ X3, X3 = X.tell ⟨3, q.win, 0, 0, 0, 0, ⟨#[]⟩⟩ := ⟨_, rfl⟩
            have ht := tell_RL X ⟨3, q.win, 0, 0, 0, 0, ⟨#[]⟩⟩
            rw [← hX3] at HTL ht
            have HR3 := Lib.hid ht.1
            have HL3 := Lib.hid ht.2.1
            obtain ⟨er, her⟩ : ∃ er, er = (tMap false q.win X.L).2 := ⟨_, rfl⟩
            obtain ⟨L', hLp⟩ : ∃ L', L' = (tMap false q.win X.L).1 := ⟨_, rfl⟩
            have HYE := Lib.hid (show Y = (er, { X3 with L := L' }) from HY.out.trans (by rw [her, hLp, hX3]; unfold Xs.own; simp only [if_neg k2, if_neg k10, if_pos k4, if_pos hak]; rfl))
            have HLE := Lib.hid (And.intro hLp her)
            have HZE := Lib.hid (show er ≠ 0 → L' = X3.L from fun hh => by rw [hLp, HL3.out]; rw [her] at hh; exact tMap_no hh)
            clear her hLp hX3 ht hak k2 k2' k10 k10' k4 hk3
            go_upto_region 16 with (go_at_call 88; ((with_reducible refine (HTL.out).mono ?_); rintro e w3 ⟨rfl, Z3, S3, U3⟩); have HSW := Lib.hid S3; have HU3 := Lib.hid U3; clear S3 U3)
            have HBW := Lib.hid (HU3.out.blk HBXD.out HNF.out)
            have HNW := Lib.hid (And.intro (HU3.out.not HBLT.out HNF.out) HBW.out.lt)
            have HFI := Lib.hid (fun W' (hT : RefTo w3 r Z3 (if er = 0 then { X3 with R := X.R, L := L' } else X3) W') => RefTo.after HBD.out (RefTo.trans HU3.out (hT.chg HR3.out HZE.out)))
            obtain ⟨p9, c9, hl9⟩ := HSW.out.l.slice
            have HL9 := Lib.hid hl9
            obtain ⟨b0, b1, b2, b3, b4, b5, -, -, -, -, -⟩ := HSW.out.blk.at11
            rw [hl9, HL3.out] at b5
            rw [HR3.out] at b0 b1 b2 b3 b4
            have HCH := Lib.hid (fun W' (hW : Below w3.heap.size w3 W') => (show Calls Tryz.prog 117 #[refV X.R (.slice p9 X.L.length c9), .int .i64 4, .int .i64 q.win, .agg #[.int .i64 q.x, .int .i64 q.y, .int .i64 q.a, .int .i64 q.e]] W' fun ex w' => ChR W' X.R L' er ex w' from by
              have h1 := (HSW.out.next hW).l
              rw [HL9.out, HL3.out] at h1
              rw [HLE.out.1, HLE.out.2]; exact ((t_map HV0.out.s hi false).2.1 q.x q.y q.a q.e) W' _ h1))
            have HSB := Lib.hid (fun W' (hW : Below w3.heap.size w3 W') => (show (fun wx => wx.cell? ⟨w.heap.size, 1, none⟩ = some (.int .i64 q.win) ∧ wx.cell? ⟨w.heap.size, 3, none⟩ = some (.int .i64 q.x) ∧ wx.cell? ⟨w.heap.size, 4, none⟩ = some (.int .i64 q.y) ∧ wx.cell? ⟨w.heap.size, 5, none⟩ = some (.int .i64 q.a) ∧ wx.cell? ⟨w.heap.size, 6, none⟩ = some (.int .i64 q.e)) W' from by
              have hy := (HBW.out.next hW).c10
              exact ⟨hy.2.1, hy.2.2.2.1, hy.2.2.2.2.1, hy.2.2.2.2.2.1, hy.2.2.2.2.2.2.1⟩))
            have S0 := HSB.out w3 (Below.refl _ _)
            clear hl9
            refine wp_region_noPanic ?_
            refine wp_region_held_drew (S := fun wx => wx.cell? ⟨w.heap.size, 1, none⟩ = some (.int .i64 q.win) ∧ wx.cell? ⟨w.heap.size, 3, none⟩ = some (.int .i64 q.x) ∧ wx.cell? ⟨w.heap.size, 4, none⟩ = some (.int .i64 q.y) ∧ wx.cell? ⟨w.heap.size, 5, none⟩ = some (.int .i64 q.a) ∧ wx.cell? ⟨w.heap.size, 6, none⟩ = some (.int .i64 q.e)) (by kernel_rfl) (by exact S0) (fun hHeld => ?_)
            refine tk 0 ?vd0 rfl ?yd0 ?rd0
            case yd0 => (intro q h; (try dsimp only at h); go_simp; (try with_reducible rfl))
            (try simp only [Act.put, p1, p3, p4, p5, p6])
            refine tk 1 ?vd1 rfl ?yd1 ?rd1
            case yd1 => (intro q h; (try dsimp only at h); go_simp; (try with_reducible rfl))
            (try simp only [Act.put, p1, p2, p3, p4, p5, p6])
            refine tk 2 ?vd2 rfl ?yd2 ?rd2
            case yd2 => (intro q h; (try dsimp only at h); go_simp; (try with_reducible rfl))
            (try simp only [Act.put, p1, p2, p3, p4, p5, p6])
            refine tk 3 ?vd3 rfl ?yd3 ?rd3
            case yd3 => (intro q h; (try dsimp only at h); go_simp; (try with_reducible rfl))
            (try simp only [Act.put, p1, p2, p3, p4, p5, p6])
            refine tk 5 ?vd5 rfl ?yd5 ?rd5
            case yd5 => (intro q h; (try dsimp only at h); go_simp; (try with_reducible rfl))
            (try simp only [Act.put, p1, p2, p3, p4, p5, p6])
            refine tk 6 ?vd6 rfl ?yd6 ?rd6
            case yd6 => (intro q h; (try dsimp only at h); go_simp; (try with_reducible rfl))
            (try simp only [Act.put, p1, p2, p3, p4, p5, p6])
            refine tk 7 ?vd7 rfl ?yd7 ?rd7
            case yd7 => (intro q h; (try dsimp only at h); go_simp; (try with_reducible rfl))
            (try simp only [Act.put, p1, p2, p3, p4, p5, p6])
            refine tk 8 ?vd8 rfl ?yd8 ?rd8
            case yd8 => (intro q h; (try dsimp only at h); go_simp; (try with_reducible rfl))
            (try simp only [Act.put, p1, p2, p3, p4, p5, p6])
            refine wpAnyH_ready (rs := [4]) (by kernel_rfl) (by simp) ?_
            refine AllReadyH.cons rfl (fun K hK => ?_) AllReadyH.nil
            go_simp
            refine hK.out _ _ (by exact S0) (fun hHeld => ?_)
            clear hK K
            (try simp only [Act.put, p1, p2, p3, p4, p5, p6])
            refine wpAnyH_ready (rs := [9]) (by kernel_rfl) (by simp) ?_
            refine AllReadyH.cons rfl (fun K hK => ?_) AllReadyH.nil
            go_simp
            refine (HCH.out _ (Below.refl _ _).drew).mono ?_
            rintro ex w4 ⟨sv4, rfl, T4, B4⟩; have hb4 := B4.on (Below.refl w3.heap.size w3).drew (Below.refl w3.heap.size w3).drew.size; clear B4; obtain ⟨p4, c4, hv4⟩ := T4.slice; subst hv4; have S4 := HSB.out _ hb4; have HCG := Lib.hid (rchange_c HSW.out hb4 (R' := X.R) T4 er); clear T4
            (try dsimp only)
            refine hK.out _ _ (by exact S4) (fun hHeld => ?_)
            clear hK K
            (try simp only [Act.put, p1, p2, p3, p4, p5, p6])
            refine tk 10 ?vd10 rfl ?yd10 ?rd10
            case yd10 => (intro q h; (try dsimp only at h); go_simp; (try with_reducible rfl))
            (try simp only [Act.put, p1, p2, p3, p4, p5, p6])
            refine tk 11 ?vd11 rfl ?yd11 ?rd11
            case yd11 => (intro q h; (try dsimp only at h); go_simp; (try with_reducible rfl))
            (try simp only [Act.put, p1, p2, p3, p4, p5, p6])
            refine wpAnyH_ready (rs := [12]) (by kernel_rfl) (by simp) ?_
            refine AllReadyH.cons rfl (fun K hK => ?_) AllReadyH.nil
            go_simp
            refine (HCG.out).mono ?_
            rintro ex w5 ⟨rfl, T5⟩; have HZ := Lib.hid (HFI.out _ T5); have S5 : (fun wx => wx.cell? ⟨w.heap.size, 1, none⟩ = some (.int .i64 q.win) ∧ wx.cell? ⟨w.heap.size, 3, none⟩ = some (.int .i64 q.x) ∧ wx.cell? ⟨w.heap.size, 4, none⟩ = some (.int .i64 q.y) ∧ wx.cell? ⟨w.heap.size, 5, none⟩ = some (.int .i64 q.a) ∧ wx.cell? ⟨w.heap.size, 6, none⟩ = some (.int .i64 q.e)) w5 := (by obtain ⟨Z', _, U'⟩ := T5; have hy := HBW.out.c10; exact ⟨cell_turn U' HNW.out.2 HNW.out.1 hy.2.1, cell_turn U' HNW.out.2 HNW.out.1 hy.2.2.2.1, cell_turn U' HNW.out.2 HNW.out.1 hy.2.2.2.2.1, cell_turn U' HNW.out.2 HNW.out.1 hy.2.2.2.2.2.1, cell_turn U' HNW.out.2 HNW.out.1 hy.2.2.2.2.2.2.1⟩); clear T5
            (try dsimp only)
            refine hK.out _ _ (by exact S5) (fun hHeld => ?_)
            clear hK K
            (try simp only [Act.put, p1, p2, p3, p4, p5, p6])
            refine tk 13 ?vd13 rfl ?yd13 ?rd13
            case yd13 => (intro q h; (try dsimp only at h); go_simp; (try with_reducible rfl))
            (try simp only [Act.put, p1, p2, p3, p4, p5, p6])
            refine wpAnyH_done (by kernel_rfl) ?_ _
            refine NoPanic.normal ?_
            go_wp2_with fail
            go_ret
            exact ⟨by rw [HYE.out]; rfl, by rw [HYE.out]; exact HZ.out⟩
          | false =>
            have hak : ¬ X.asks a q.win = true := by rw [← HAK.out]; decide
            obtain ⟨er, her⟩ : ∃ er, er = (tMap false q.win X.L).2 := ⟨_, rfl⟩
            obtain ⟨L', hLp⟩ : ∃ L', L' = (tMap false q.win X.L).1 := ⟨_, rfl⟩
            have HYE := Lib.hid (show Y = (er, { X with L := L' }) from HY.out.trans (by rw [her, hLp]; unfold Xs.own; simp only [if_neg k2, if_neg k10, if_pos k4, if_neg hak]))
            have HLE := Lib.hid (And.intro hLp her)
            have HZE := Lib.hid (show er ≠ 0 → L' = X.L from fun hh => by rw [hLp]; rw [her] at hh; exact tMap_no hh)
            have HFI := Lib.hid (fun W' (hT : RefTo wd r Z (if er = 0 then { X with R := X.R, L := L' } else X) W') => RefTo.after HBD.out (hT.chg rfl HZE.out))
            have HSW := HS3
            have HBW := HBXD
            have HNW := Lib.hid (And.intro HNF.out HBLT.out)
            have HR3 := Lib.hid (show X.R = X.R from rfl)
            have HL3 := Lib.hid (show X.L = X.L from rfl)
            clear her hLp hak k2 k2' k10 k10' k4 hk3
            go_upto_region 16 with fail
            obtain ⟨p9, c9, hl9⟩ := HSW.out.l.slice
            have HL9 := Lib.hid hl9
            obtain ⟨b0, b1, b2, b3, b4, b5, -, -, -, -, -⟩ := HSW.out.blk.at11
            rw [hl9, HL3.out] at b5
            rw [HR3.out] at b0 b1 b2 b3 b4
            have HCH := Lib.hid (fun W' (hW : Below wd.heap.size wd W') => (show Calls Tryz.prog 117 #[refV X.R (.slice p9 X.L.length c9), .int .i64 4, .int .i64 q.win, .agg #[.int .i64 q.x, .int .i64 q.y, .int .i64 q.a, .int .i64 q.e]] W' fun ex w' => ChR W' X.R L' er ex w' from by
              have h1 := (HSW.out.next hW).l
              rw [HL9.out, HL3.out] at h1
              rw [HLE.out.1, HLE.out.2]; exact ((t_map HV0.out.s hi false).2.1 q.x q.y q.a q.e) W' _ h1))
            have HSB := Lib.hid (fun W' (hW : Below wd.heap.size wd W') => (show (fun wx => wx.cell? ⟨w.heap.size, 1, none⟩ = some (.int .i64 q.win) ∧ wx.cell? ⟨w.heap.size, 3, none⟩ = some (.int .i64 q.x) ∧ wx.cell? ⟨w.heap.size, 4, none⟩ = some (.int .i64 q.y) ∧ wx.cell? ⟨w.heap.size, 5, none⟩ = some (.int .i64 q.a) ∧ wx.cell? ⟨w.heap.size, 6, none⟩ = some (.int .i64 q.e)) W' from by
              have hy := (HBW.out.next hW).c10
              exact ⟨hy.2.1, hy.2.2.2.1, hy.2.2.2.2.1, hy.2.2.2.2.2.1, hy.2.2.2.2.2.2.1⟩))
            have S0 := HSB.out wd (Below.refl _ _)
            clear hl9
            refine wp_region_noPanic ?_
            refine wp_region_held_drew (S := fun wx => wx.cell? ⟨w.heap.size, 1, none⟩ = some (.int .i64 q.win) ∧ wx.cell? ⟨w.heap.size, 3, none⟩ = some (.int .i64 q.x) ∧ wx.cell? ⟨w.heap.size, 4, none⟩ = some (.int .i64 q.y) ∧ wx.cell? ⟨w.heap.size, 5, none⟩ = some (.int .i64 q.a) ∧ wx.cell? ⟨w.heap.size, 6, none⟩ = some (.int .i64 q.e)) (by kernel_rfl) (by exact S0) (fun hHeld => ?_)
            refine tk 0 ?ve0 rfl ?ye0 ?re0
            case ye0 => (intro q h; (try dsimp only at h); go_simp; (try with_reducible rfl))
            (try simp only [Act.put, p1, p3, p4, p5, p6])
            refine tk 1 ?ve1 rfl ?ye1 ?re1
            case ye1 => (intro q h; (try dsimp only at h); go_simp; (try with_reducible rfl))
            (try simp only [Act.put, p1, p2, p3, p4, p5, p6])
            refine tk 2 ?ve2 rfl ?ye2 ?re2
            case ye2 => (intro q h; (try dsimp only at h); go_simp; (try with_reducible rfl))
            (try simp only [Act.put, p1, p2, p3, p4, p5, p6])
            refine tk 3 ?ve3 rfl ?ye3 ?re3
            case ye3 => (intro q h; (try dsimp only at h); go_simp; (try with_reducible rfl))
            (try simp only [Act.put, p1, p2, p3, p4, p5, p6])
            refine tk 5 ?ve5 rfl ?ye5 ?re5
            case ye5 => (intro q h; (try dsimp only at h); go_simp; (try with_reducible rfl))
            (try simp only [Act.put, p1, p2, p3, p4, p5, p6])
            refine tk 6 ?ve6 rfl ?ye6 ?re6
            case ye6 => (intro q h; (try dsimp only at h); go_simp; (try with_reducible rfl))
            (try simp only [Act.put, p1, p2, p3, p4, p5, p6])
            refine tk 7 ?ve7 rfl ?ye7 ?re7
            case ye7 => (intro q h; (try dsimp only at h); go_simp; (try with_reducible rfl))
            (try simp only [Act.put, p1, p2, p3, p4, p5, p6])
            refine tk 8 ?ve8 rfl ?ye8 ?re8
            case ye8 => (intro q h; (try dsimp only at h); go_simp; (try with_reducible rfl))
            (try simp only [Act.put, p1, p2, p3, p4, p5, p6])
            refine wpAnyH_ready (rs := [4]) (by kernel_rfl) (by simp) ?_
            refine AllReadyH.cons rfl (fun K hK => ?_) AllReadyH.nil
            go_simp
            refine hK.out _ _ (by exact S0) (fun hHeld => ?_)
            clear hK K
            (try simp only [Act.put, p1, p2, p3, p4, p5, p6])
            refine wpAnyH_ready (rs := [9]) (by kernel_rfl) (by simp) ?_
            refine AllReadyH.cons rfl (fun K hK => ?_) AllReadyH.nil
            go_simp
            refine (HCH.out _ (Below.refl _ _).drew).mono ?_
            rintro ex w4 ⟨sv4, rfl, T4, B4⟩; have hb4 := B4.on (Below.refl wd.heap.size wd).drew (Below.refl wd.heap.size wd).drew.size; clear B4; obtain ⟨p4, c4, hv4⟩ := T4.slice; subst hv4; have S4 := HSB.out _ hb4; have HCG := Lib.hid (rchange_c HSW.out hb4 (R' := X.R) T4 er); clear T4
            (try dsimp only)
            refine hK.out _ _ (by exact S4) (fun hHeld => ?_)
            clear hK K
            (try simp only [Act.put, p1, p2, p3, p4, p5, p6])
            refine tk 10 ?ve10 rfl ?ye10 ?re10
            case ye10 => (intro q h; (try dsimp only at h); go_simp; (try with_reducible rfl))
            (try simp only [Act.put, p1, p2, p3, p4, p5, p6])
            refine tk 11 ?ve11 rfl ?ye11 ?re11
            case ye11 => (intro q h; (try dsimp only at h); go_simp; (try with_reducible rfl))
            (try simp only [Act.put, p1, p2, p3, p4, p5, p6])
            refine wpAnyH_ready (rs := [12]) (by kernel_rfl) (by simp) ?_
            refine AllReadyH.cons rfl (fun K hK => ?_) AllReadyH.nil
            go_simp
            refine (HCG.out).mono ?_
            rintro ex w5 ⟨rfl, T5⟩; have HZ := Lib.hid (HFI.out _ T5); have S5 : (fun wx => wx.cell? ⟨w.heap.size, 1, none⟩ = some (.int .i64 q.win) ∧ wx.cell? ⟨w.heap.size, 3, none⟩ = some (.int .i64 q.x) ∧ wx.cell? ⟨w.heap.size, 4, none⟩ = some (.int .i64 q.y) ∧ wx.cell? ⟨w.heap.size, 5, none⟩ = some (.int .i64 q.a) ∧ wx.cell? ⟨w.heap.size, 6, none⟩ = some (.int .i64 q.e)) w5 := (by obtain ⟨Z', _, U'⟩ := T5; have hy := HBW.out.c10; exact ⟨cell_turn U' HNW.out.2 HNW.out.1 hy.2.1, cell_turn U' HNW.out.2 HNW.out.1 hy.2.2.2.1, cell_turn U' HNW.out.2 HNW.out.1 hy.2.2.2.2.1, cell_turn U' HNW.out.2 HNW.out.1 hy.2.2.2.2.2.1, cell_turn U' HNW.out.2 HNW.out.1 hy.2.2.2.2.2.2.1⟩); clear T5
            (try dsimp only)
            refine hK.out _ _ (by exact S5) (fun hHeld => ?_)
            clear hK K
            (try simp only [Act.put, p1, p2, p3, p4, p5, p6])
            refine tk 13 ?ve13 rfl ?ye13 ?re13
            case ye13 => (intro q h; (try dsimp only at h); go_simp; (try with_reducible rfl))
            (try simp only [Act.put, p1, p2, p3, p4, p5, p6])
            refine wpAnyH_done (by kernel_rfl) ?_ _
            refine NoPanic.normal ?_
            go_wp2_with fail
            go_ret
            exact ⟨by rw [HYE.out]; rfl, by rw [HYE.out]; exact HZ.out⟩
        · have k4' : (q.kind == 4) = false := by simpa using k4
          cases ak with
          | true =>
            have hak := HAK.out.symm
            by_cases k3 : q.kind = 3
            · rw [k3] at x0
              have HYE := Lib.hid (show Y = (0, X.tell ⟨1, q.win, 0, 0, 0, 0, ⟨#[]⟩⟩) from HY.out.trans (by unfold Xs.own; simp only [if_neg k2, if_neg k10, if_neg k4, if_pos hak, if_pos k3]; rfl))
              have HTL := Lib.hid (rtell_c HS3.out HEV.out ⟨1, q.win, 0, 0, 0, 0, ⟨#[]⟩⟩)
              clear hak k2 k2' k10 k10' k4 k4' k3
              go_wp2_with (go_at_call 88; ((with_reducible refine (HTL.out).mono ?_); rintro e w3 ⟨rfl, T3⟩); have HZ := Lib.hid (RefTo.after HBD.out T3); clear T3)
              go_ret
              exact ⟨by rw [HYE.out]; rfl, by rw [HYE.out]; exact HZ.out⟩
            · have k3' : (q.kind == 3) = false := by simpa using k3
              by_cases k5 : q.kind = 5
              · rw [k5] at x0
                have HRT := Lib.hid (fun W => rright_c q.x q.y q.a q.e W)
                cases hr : rightB q.x q.y q.a q.e with
                | false =>
                  rw [hr] at HRT
                  have HYE := Lib.hid (show Y = (10, X) from HY.out.trans (by unfold Xs.own; simp only [if_neg k2, if_neg k10, if_neg k4, if_pos hak, if_neg k3, if_pos k5, if_pos hr]))
                  clear hak k2 k2' k10 k10' k4 k4' k3 k3' k5 hr
                  go_wp2_with (go_at_call 35; ((with_reducible refine (HRT.out _).mono ?_); rintro e w1 ⟨rfl, hb⟩); have HZ := Lib.hid (RefTo.after HBD.out (RefTo.same HS3.out hb)); clear hb)
                  go_ret
                  exact ⟨by rw [HYE.out]; rfl, by rw [HYE.out]; exact HZ.out⟩
                | true =>
                  rw [hr] at HRT
                  have hr' : ¬ rightB q.x q.y q.a q.e = false := by rw [hr]; decide
                  have HYE := Lib.hid (show Y = (0, X.tell ⟨2, q.win, q.x, q.y, q.a, q.e, ⟨#[]⟩⟩) from HY.out.trans (by unfold Xs.own; simp only [if_neg k2, if_neg k10, if_neg k4, if_pos hak, if_neg k3, if_pos k5, if_neg hr']; rfl))
                  clear hak k2 k2' k10 k10' k4 k4' k3 k3' k5 hr hr'
                  go_wp2_with (first
                   | (go_at_call 35; ((with_reducible refine (HRT.out _).mono ?_); rintro e w1 ⟨rfl, hb⟩); have HB1 := Lib.hid hb; clear x0 x1 x2 x3 x4 x5 x6 x7 x8 x9; obtain ⟨x0, x1, x2, x3, x4, x5, x6, x7, x8, x9⟩ := (HBXD.out.next hb).c10; have HTL := Lib.hid (rtell_c (HS3.out.next hb) HEV.out ⟨2, q.win, q.x, q.y, q.a, q.e, ⟨#[]⟩⟩); clear hb)
                   | (go_at_call 88; ((with_reducible refine (HTL.out).mono ?_); rintro e w3 ⟨rfl, T3⟩); have HZ := Lib.hid (RefTo.after HBD.out (RefTo.after HB1.out T3)); clear T3))
                  go_ret
                  exact ⟨by rw [HYE.out]; rfl, by rw [HYE.out]; exact HZ.out⟩
              · have k5' : (q.kind == 5) = false := by simpa using k5
                have HYE := Lib.hid (show Y = (80, X) from HY.out.trans (by unfold Xs.own; simp only [if_neg k2, if_neg k10, if_neg k4, if_pos hak, if_neg k3, if_neg k5]))
                have HZ := Lib.hid (RefTo.after HBD.out (RefTo.same HS3.out (Below.refl _ _)))
                clear hak k2 k10 k4 k3 k5
                go_wp2_with fail
                go_ret
                exact ⟨by rw [HYE.out]; rfl, by rw [HYE.out]; exact HZ.out⟩
          | false =>
            have hak : ¬ X.asks a q.win = true := by rw [← HAK.out]; decide
            by_cases k3 : q.kind = 3
            · rw [k3] at x0
              obtain ⟨er, her⟩ : ∃ er, er = (tMap true q.win X.L).2 := ⟨_, rfl⟩
              obtain ⟨L', hLp⟩ : ∃ L', L' = (tMap true q.win X.L).1 := ⟨_, rfl⟩
              have HYE := Lib.hid (show Y = (er, { X with L := L' }) from HY.out.trans (by rw [her, hLp]; unfold Xs.own; simp only [if_neg k2, if_neg k10, if_neg k4, if_neg hak, if_pos k3]))
              have HLE := Lib.hid (And.intro hLp her)
              have HZE := Lib.hid (show er ≠ 0 → L' = X.L from fun hh => by rw [hLp]; rw [her] at hh; exact tMap_no hh)
              have HFI := Lib.hid (fun W' (hT : RefTo wd r Z (if er = 0 then { X with R := X.R, L := L' } else X) W') => RefTo.after HBD.out (hT.chg rfl HZE.out))
              have HSW := HS3
              have HBW := HBXD
              have HNW := Lib.hid (And.intro HNF.out HBLT.out)
              have HR3 := Lib.hid (show X.R = X.R from rfl)
              have HL3 := Lib.hid (show X.L = X.L from rfl)
              clear her hLp hak k2 k2' k10 k10' k4 hq k3 k4'
              go_upto_region 34 with fail
              obtain ⟨p9, c9, hl9⟩ := HSW.out.l.slice
              have HL9 := Lib.hid hl9
              obtain ⟨b0, b1, b2, b3, b4, b5, -, -, -, -, -⟩ := HSW.out.blk.at11
              rw [hl9, HL3.out] at b5
              rw [HR3.out] at b0 b1 b2 b3 b4
              have HCH := Lib.hid (fun W' (hW : Below wd.heap.size wd W') => (show Calls Tryz.prog 117 #[refV X.R (.slice p9 X.L.length c9), .int .i64 3, .int .i64 q.win, .agg #[.int .i64 q.x, .int .i64 q.y, .int .i64 q.a, .int .i64 q.e]] W' fun ex w' => ChR W' X.R L' er ex w' from by
                have h1 := (HSW.out.next hW).l
                rw [HL9.out, HL3.out] at h1
                rw [HLE.out.1, HLE.out.2]; exact ((t_map HV0.out.s hi true).2.1 q.x q.y q.a q.e) W' _ h1))
              have HSB := Lib.hid (fun W' (hW : Below wd.heap.size wd W') => (show (fun wx => wx.cell? ⟨w.heap.size, 1, none⟩ = some (.int .i64 q.win) ∧ wx.cell? ⟨w.heap.size, 3, none⟩ = some (.int .i64 q.x) ∧ wx.cell? ⟨w.heap.size, 4, none⟩ = some (.int .i64 q.y) ∧ wx.cell? ⟨w.heap.size, 5, none⟩ = some (.int .i64 q.a) ∧ wx.cell? ⟨w.heap.size, 6, none⟩ = some (.int .i64 q.e)) W' from by
                have hy := (HBW.out.next hW).c10
                exact ⟨hy.2.1, hy.2.2.2.1, hy.2.2.2.2.1, hy.2.2.2.2.2.1, hy.2.2.2.2.2.2.1⟩))
              have S0 := HSB.out wd (Below.refl _ _)
              clear hl9
              refine wp_region_noPanic ?_
              refine wp_region_held_drew (S := fun wx => wx.cell? ⟨w.heap.size, 1, none⟩ = some (.int .i64 q.win) ∧ wx.cell? ⟨w.heap.size, 3, none⟩ = some (.int .i64 q.x) ∧ wx.cell? ⟨w.heap.size, 4, none⟩ = some (.int .i64 q.y) ∧ wx.cell? ⟨w.heap.size, 5, none⟩ = some (.int .i64 q.a) ∧ wx.cell? ⟨w.heap.size, 6, none⟩ = some (.int .i64 q.e)) (by kernel_rfl) (by exact S0) (fun hHeld => ?_)
              refine tk 0 ?vm0 rfl ?ym0 ?rm0
              case ym0 => (intro q h; (try dsimp only at h); go_simp; (try with_reducible rfl))
              (try simp only [Act.put, p1, p3, p4, p5, p6])
              refine tk 1 ?vm1 rfl ?ym1 ?rm1
              case ym1 => (intro q h; (try dsimp only at h); go_simp; (try with_reducible rfl))
              (try simp only [Act.put, p1, p2, p3, p4, p5, p6])
              refine tk 2 ?vm2 rfl ?ym2 ?rm2
              case ym2 => (intro q h; (try dsimp only at h); go_simp; (try with_reducible rfl))
              (try simp only [Act.put, p1, p2, p3, p4, p5, p6])
              refine tk 3 ?vm3 rfl ?ym3 ?rm3
              case ym3 => (intro q h; (try dsimp only at h); go_simp; (try with_reducible rfl))
              (try simp only [Act.put, p1, p2, p3, p4, p5, p6])
              refine tk 5 ?vm5 rfl ?ym5 ?rm5
              case ym5 => (intro q h; (try dsimp only at h); go_simp; (try with_reducible rfl))
              (try simp only [Act.put, p1, p2, p3, p4, p5, p6])
              refine tk 6 ?vm6 rfl ?ym6 ?rm6
              case ym6 => (intro q h; (try dsimp only at h); go_simp; (try with_reducible rfl))
              (try simp only [Act.put, p1, p2, p3, p4, p5, p6])
              refine tk 7 ?vm7 rfl ?ym7 ?rm7
              case ym7 => (intro q h; (try dsimp only at h); go_simp; (try with_reducible rfl))
              (try simp only [Act.put, p1, p2, p3, p4, p5, p6])
              refine tk 8 ?vm8 rfl ?ym8 ?rm8
              case ym8 => (intro q h; (try dsimp only at h); go_simp; (try with_reducible rfl))
              (try simp only [Act.put, p1, p2, p3, p4, p5, p6])
              refine tk 9 ?vm9 rfl ?ym9 ?rm9
              case ym9 => (intro q h; (try dsimp only at h); go_simp; (try with_reducible rfl))
              (try simp only [Act.put, p1, p2, p3, p4, p5, p6])
              refine wpAnyH_ready (rs := [4]) (by kernel_rfl) (by simp) ?_
              refine AllReadyH.cons rfl (fun K hK => ?_) AllReadyH.nil
              go_simp
              refine hK.out _ _ (by exact S0) (fun hHeld => ?_)
              clear hK K
              (try simp only [Act.put, p1, p2, p3, p4, p5, p6])
              refine wpAnyH_ready (rs := [10]) (by kernel_rfl) (by simp) ?_
              refine AllReadyH.cons rfl (fun K hK => ?_) AllReadyH.nil
              go_simp
              refine (HCH.out _ (Below.refl _ _).drew).mono ?_
              rintro ex w4 ⟨sv4, rfl, T4, B4⟩; have hb4 := B4.on (Below.refl wd.heap.size wd).drew (Below.refl wd.heap.size wd).drew.size; clear B4; obtain ⟨p4, c4, hv4⟩ := T4.slice; subst hv4; have S4 := HSB.out _ hb4; have HCG := Lib.hid (rchange_c HSW.out hb4 (R' := X.R) T4 er); clear T4
              (try dsimp only)
              refine hK.out _ _ (by exact S4) (fun hHeld => ?_)
              clear hK K
              (try simp only [Act.put, p1, p2, p3, p4, p5, p6])
              refine tk 11 ?vm11 rfl ?ym11 ?rm11
              case ym11 => (intro q h; (try dsimp only at h); go_simp; (try with_reducible rfl))
              (try simp only [Act.put, p1, p2, p3, p4, p5, p6])
              refine tk 12 ?vm12 rfl ?ym12 ?rm12
              case ym12 => (intro q h; (try dsimp only at h); go_simp; (try with_reducible rfl))
              (try simp only [Act.put, p1, p2, p3, p4, p5, p6])
              refine wpAnyH_ready (rs := [13]) (by kernel_rfl) (by simp) ?_
              refine AllReadyH.cons rfl (fun K hK => ?_) AllReadyH.nil
              go_simp
              refine (HCG.out).mono ?_
              rintro ex w5 ⟨rfl, T5⟩; have HZ := Lib.hid (HFI.out _ T5); have S5 : (fun wx => wx.cell? ⟨w.heap.size, 1, none⟩ = some (.int .i64 q.win) ∧ wx.cell? ⟨w.heap.size, 3, none⟩ = some (.int .i64 q.x) ∧ wx.cell? ⟨w.heap.size, 4, none⟩ = some (.int .i64 q.y) ∧ wx.cell? ⟨w.heap.size, 5, none⟩ = some (.int .i64 q.a) ∧ wx.cell? ⟨w.heap.size, 6, none⟩ = some (.int .i64 q.e)) w5 := (by obtain ⟨Z', _, U'⟩ := T5; have hy := HBW.out.c10; exact ⟨cell_turn U' HNW.out.2 HNW.out.1 hy.2.1, cell_turn U' HNW.out.2 HNW.out.1 hy.2.2.2.1, cell_turn U' HNW.out.2 HNW.out.1 hy.2.2.2.2.1, cell_turn U' HNW.out.2 HNW.out.1 hy.2.2.2.2.2.1, cell_turn U' HNW.out.2 HNW.out.1 hy.2.2.2.2.2.2.1⟩); clear T5
              (try dsimp only)
              refine hK.out _ _ (by exact S5) (fun hHeld => ?_)
              clear hK K
              (try simp only [Act.put, p1, p2, p3, p4, p5, p6])
              refine tk 14 ?vm14 rfl ?ym14 ?rm14
              case ym14 => (intro q h; (try dsimp only at h); go_simp; (try with_reducible rfl))
              (try simp only [Act.put, p1, p2, p3, p4, p5, p6])
              refine wpAnyH_done (by kernel_rfl) ?_ _
              refine NoPanic.normal ?_
              go_wp2_with fail
              go_ret
              exact ⟨by rw [HYE.out]; rfl, by rw [HYE.out]; exact HZ.out⟩
            · have k3' : (q.kind == 3) = false := by simpa using k3
              by_cases k5 : q.kind = 5
              · rw [k5] at x0
                obtain ⟨er, her⟩ : ∃ er, er = (tConf q.win q.x q.y q.a q.e X.L).2 := ⟨_, rfl⟩
                obtain ⟨L', hLp⟩ : ∃ L', L' = (tConf q.win q.x q.y q.a q.e X.L).1 := ⟨_, rfl⟩
                have HYE := Lib.hid (show Y = (er, { X with L := L' }) from HY.out.trans (by rw [her, hLp]; unfold Xs.own; simp only [if_neg k2, if_neg k10, if_neg k4, if_neg hak, if_neg k3, if_pos k5]))
                have HLE := Lib.hid (And.intro hLp her)
                have HZE := Lib.hid (show er ≠ 0 → L' = X.L from fun hh => by rw [hLp]; rw [her] at hh; exact tConf_no hh)
                have HFI := Lib.hid (fun W' (hT : RefTo wd r Z (if er = 0 then { X with R := X.R, L := L' } else X) W') => RefTo.after HBD.out (hT.chg rfl HZE.out))
                have HSW := HS3
                have HBW := HBXD
                have HNW := Lib.hid (And.intro HNF.out HBLT.out)
                have HR3 := Lib.hid (show X.R = X.R from rfl)
                have HL3 := Lib.hid (show X.L = X.L from rfl)
                clear her hLp hak k2 k2' k10 k10' k4 hq k3 k5 k3' k4'
                go_upto_region 34 with fail
                obtain ⟨p9, c9, hl9⟩ := HSW.out.l.slice
                have HL9 := Lib.hid hl9
                obtain ⟨b0, b1, b2, b3, b4, b5, -, -, -, -, -⟩ := HSW.out.blk.at11
                rw [hl9, HL3.out] at b5
                rw [HR3.out] at b0 b1 b2 b3 b4
                have HCH := Lib.hid (fun W' (hW : Below wd.heap.size wd W') => (show Calls Tryz.prog 117 #[refV X.R (.slice p9 X.L.length c9), .int .i64 0, .int .i64 q.win, .agg #[.int .i64 q.x, .int .i64 q.y, .int .i64 q.a, .int .i64 q.e]] W' fun ex w' => ChR W' X.R L' er ex w' from by
                  have h1 := (HSW.out.next hW).l
                  rw [HL9.out, HL3.out] at h1
                  rw [HLE.out.1, HLE.out.2]; exact (t_conf HV0.out.s hi q.x q.y q.a q.e).2.1 W' _ h1))
                have HSB := Lib.hid (fun W' (hW : Below wd.heap.size wd W') => (show (fun wx => wx.cell? ⟨w.heap.size, 1, none⟩ = some (.int .i64 q.win) ∧ wx.cell? ⟨w.heap.size, 3, none⟩ = some (.int .i64 q.x) ∧ wx.cell? ⟨w.heap.size, 4, none⟩ = some (.int .i64 q.y) ∧ wx.cell? ⟨w.heap.size, 5, none⟩ = some (.int .i64 q.a) ∧ wx.cell? ⟨w.heap.size, 6, none⟩ = some (.int .i64 q.e)) W' from by
                  have hy := (HBW.out.next hW).c10
                  exact ⟨hy.2.1, hy.2.2.2.1, hy.2.2.2.2.1, hy.2.2.2.2.2.1, hy.2.2.2.2.2.2.1⟩))
                have S0 := HSB.out wd (Below.refl _ _)
                clear hl9
                refine wp_region_noPanic ?_
                refine wp_region_held_drew (S := fun wx => wx.cell? ⟨w.heap.size, 1, none⟩ = some (.int .i64 q.win) ∧ wx.cell? ⟨w.heap.size, 3, none⟩ = some (.int .i64 q.x) ∧ wx.cell? ⟨w.heap.size, 4, none⟩ = some (.int .i64 q.y) ∧ wx.cell? ⟨w.heap.size, 5, none⟩ = some (.int .i64 q.a) ∧ wx.cell? ⟨w.heap.size, 6, none⟩ = some (.int .i64 q.e)) (by kernel_rfl) (by exact S0) (fun hHeld => ?_)
                refine tk 0 ?vn0 rfl ?yn0 ?rn0
                case yn0 => (intro q h; (try dsimp only at h); go_simp; (try with_reducible rfl))
                (try simp only [Act.put, p1, p3, p4, p5, p6])
                refine tk 1 ?vn1 rfl ?yn1 ?rn1
                case yn1 => (intro q h; (try dsimp only at h); go_simp; (try with_reducible rfl))
                (try simp only [Act.put, p1, p2, p3, p4, p5, p6])
                refine tk 2 ?vn2 rfl ?yn2 ?rn2
                case yn2 => (intro q h; (try dsimp only at h); go_simp; (try with_reducible rfl))
                (try simp only [Act.put, p1, p2, p3, p4, p5, p6])
                refine tk 3 ?vn3 rfl ?yn3 ?rn3
                case yn3 => (intro q h; (try dsimp only at h); go_simp; (try with_reducible rfl))
                (try simp only [Act.put, p1, p2, p3, p4, p5, p6])
                refine tk 5 ?vn5 rfl ?yn5 ?rn5
                case yn5 => (intro q h; (try dsimp only at h); go_simp; (try with_reducible rfl))
                (try simp only [Act.put, p1, p2, p3, p4, p5, p6])
                refine tk 6 ?vn6 rfl ?yn6 ?rn6
                case yn6 => (intro q h; (try dsimp only at h); go_simp; (try with_reducible rfl))
                (try simp only [Act.put, p1, p2, p3, p4, p5, p6])
                refine tk 7 ?vn7 rfl ?yn7 ?rn7
                case yn7 => (intro q h; (try dsimp only at h); go_simp; (try with_reducible rfl))
                (try simp only [Act.put, p1, p2, p3, p4, p5, p6])
                refine tk 8 ?vn8 rfl ?yn8 ?rn8
                case yn8 => (intro q h; (try dsimp only at h); go_simp; (try with_reducible rfl))
                (try simp only [Act.put, p1, p2, p3, p4, p5, p6])
                refine tk 9 ?vn9 rfl ?yn9 ?rn9
                case yn9 => (intro q h; (try dsimp only at h); go_simp; (try with_reducible rfl))
                (try simp only [Act.put, p1, p2, p3, p4, p5, p6])
                refine wpAnyH_ready (rs := [4]) (by kernel_rfl) (by simp) ?_
                refine AllReadyH.cons rfl (fun K hK => ?_) AllReadyH.nil
                go_simp
                refine hK.out _ _ (by exact S0) (fun hHeld => ?_)
                clear hK K
                (try simp only [Act.put, p1, p2, p3, p4, p5, p6])
                refine wpAnyH_ready (rs := [10]) (by kernel_rfl) (by simp) ?_
                refine AllReadyH.cons rfl (fun K hK => ?_) AllReadyH.nil
                go_simp
                refine (HCH.out _ (Below.refl _ _).drew).mono ?_
                rintro ex w4 ⟨sv4, rfl, T4, B4⟩; have hb4 := B4.on (Below.refl wd.heap.size wd).drew (Below.refl wd.heap.size wd).drew.size; clear B4; obtain ⟨p4, c4, hv4⟩ := T4.slice; subst hv4; have S4 := HSB.out _ hb4; have HCG := Lib.hid (rchange_c HSW.out hb4 (R' := X.R) T4 er); clear T4
                (try dsimp only)
                refine hK.out _ _ (by exact S4) (fun hHeld => ?_)
                clear hK K
                (try simp only [Act.put, p1, p2, p3, p4, p5, p6])
                refine tk 11 ?vn11 rfl ?yn11 ?rn11
                case yn11 => (intro q h; (try dsimp only at h); go_simp; (try with_reducible rfl))
                (try simp only [Act.put, p1, p2, p3, p4, p5, p6])
                refine tk 12 ?vn12 rfl ?yn12 ?rn12
                case yn12 => (intro q h; (try dsimp only at h); go_simp; (try with_reducible rfl))
                (try simp only [Act.put, p1, p2, p3, p4, p5, p6])
                refine wpAnyH_ready (rs := [13]) (by kernel_rfl) (by simp) ?_
                refine AllReadyH.cons rfl (fun K hK => ?_) AllReadyH.nil
                go_simp
                refine (HCG.out).mono ?_
                rintro ex w5 ⟨rfl, T5⟩; have HZ := Lib.hid (HFI.out _ T5); have S5 : (fun wx => wx.cell? ⟨w.heap.size, 1, none⟩ = some (.int .i64 q.win) ∧ wx.cell? ⟨w.heap.size, 3, none⟩ = some (.int .i64 q.x) ∧ wx.cell? ⟨w.heap.size, 4, none⟩ = some (.int .i64 q.y) ∧ wx.cell? ⟨w.heap.size, 5, none⟩ = some (.int .i64 q.a) ∧ wx.cell? ⟨w.heap.size, 6, none⟩ = some (.int .i64 q.e)) w5 := (by obtain ⟨Z', _, U'⟩ := T5; have hy := HBW.out.c10; exact ⟨cell_turn U' HNW.out.2 HNW.out.1 hy.2.1, cell_turn U' HNW.out.2 HNW.out.1 hy.2.2.2.1, cell_turn U' HNW.out.2 HNW.out.1 hy.2.2.2.2.1, cell_turn U' HNW.out.2 HNW.out.1 hy.2.2.2.2.2.1, cell_turn U' HNW.out.2 HNW.out.1 hy.2.2.2.2.2.2.1⟩); clear T5
                (try dsimp only)
                refine hK.out _ _ (by exact S5) (fun hHeld => ?_)
                clear hK K
                (try simp only [Act.put, p1, p2, p3, p4, p5, p6])
                refine tk 14 ?vn14 rfl ?yn14 ?rn14
                case yn14 => (intro q h; (try dsimp only at h); go_simp; (try with_reducible rfl))
                (try simp only [Act.put, p1, p2, p3, p4, p5, p6])
                refine wpAnyH_done (by kernel_rfl) ?_ _
                refine NoPanic.normal ?_
                go_wp2_with fail
                go_ret
                exact ⟨by rw [HYE.out]; rfl, by rw [HYE.out]; exact HZ.out⟩
              · have k5' : (q.kind == 5) = false := by simpa using k5
                by_cases k6 : q.kind = 6
                · rw [k6] at x0
                  obtain ⟨er, her⟩ : ∃ er, er = (tRaise q.win X.L).2 := ⟨_, rfl⟩
                  obtain ⟨L', hLp⟩ : ∃ L', L' = (tRaise q.win X.L).1 := ⟨_, rfl⟩
                  have HYE := Lib.hid (show Y = (er, { X with L := L' }) from HY.out.trans (by rw [her, hLp]; unfold Xs.own; simp only [if_neg k2, if_neg k10, if_neg k4, if_neg hak, if_neg k3, if_neg k5, if_pos k6]))
                  have HLE := Lib.hid (And.intro hLp her)
                  have HZE := Lib.hid (show er ≠ 0 → L' = X.L from fun hh => by rw [hLp]; rw [her] at hh; exact tRaise_no hh)
                  have HFI := Lib.hid (fun W' (hT : RefTo wd r Z (if er = 0 then { X with R := X.R, L := L' } else X) W') => RefTo.after HBD.out (hT.chg rfl HZE.out))
                  have HSW := HS3
                  have HBW := HBXD
                  have HNW := Lib.hid (And.intro HNF.out HBLT.out)
                  have HR3 := Lib.hid (show X.R = X.R from rfl)
                  have HL3 := Lib.hid (show X.L = X.L from rfl)
                  clear her hLp hak k2 k2' k10 k10' k4 hq k3 k5 k6 k3' k4' k5'
                  go_upto_region 34 with fail
                  obtain ⟨p9, c9, hl9⟩ := HSW.out.l.slice
                  have HL9 := Lib.hid hl9
                  obtain ⟨b0, b1, b2, b3, b4, b5, -, -, -, -, -⟩ := HSW.out.blk.at11
                  rw [hl9, HL3.out] at b5
                  rw [HR3.out] at b0 b1 b2 b3 b4
                  have HCH := Lib.hid (fun W' (hW : Below wd.heap.size wd W') => (show Calls Tryz.prog 117 #[refV X.R (.slice p9 X.L.length c9), .int .i64 1, .int .i64 q.win, .agg #[.int .i64 q.x, .int .i64 q.y, .int .i64 q.a, .int .i64 q.e]] W' fun ex w' => ChR W' X.R L' er ex w' from by
                   have h1 := (HSW.out.next hW).l
                   rw [HL9.out, HL3.out] at h1
                   rw [HLE.out.1, HLE.out.2]; exact ((t_raise HV0.out.s hi).2.1 q.x q.y q.a q.e) W' _ h1))
                  have HSB := Lib.hid (fun W' (hW : Below wd.heap.size wd W') => (show (fun wx => wx.cell? ⟨w.heap.size, 1, none⟩ = some (.int .i64 q.win) ∧ wx.cell? ⟨w.heap.size, 3, none⟩ = some (.int .i64 q.x) ∧ wx.cell? ⟨w.heap.size, 4, none⟩ = some (.int .i64 q.y) ∧ wx.cell? ⟨w.heap.size, 5, none⟩ = some (.int .i64 q.a) ∧ wx.cell? ⟨w.heap.size, 6, none⟩ = some (.int .i64 q.e)) W' from by
                   have hy := (HBW.out.next hW).c10
                   exact ⟨hy.2.1, hy.2.2.2.1, hy.2.2.2.2.1, hy.2.2.2.2.2.1, hy.2.2.2.2.2.2.1⟩))
                  have S0 := HSB.out wd (Below.refl _ _)
                  clear hl9
                  refine wp_region_noPanic ?_
                  refine wp_region_held_drew (S := fun wx => wx.cell? ⟨w.heap.size, 1, none⟩ = some (.int .i64 q.win) ∧ wx.cell? ⟨w.heap.size, 3, none⟩ = some (.int .i64 q.x) ∧ wx.cell? ⟨w.heap.size, 4, none⟩ = some (.int .i64 q.y) ∧ wx.cell? ⟨w.heap.size, 5, none⟩ = some (.int .i64 q.a) ∧ wx.cell? ⟨w.heap.size, 6, none⟩ = some (.int .i64 q.e)) (by kernel_rfl) (by exact S0) (fun hHeld => ?_)
                  refine tk 0 ?vo0 rfl ?yo0 ?ro0
                  case yo0 => (intro q h; (try dsimp only at h); go_simp; (try with_reducible rfl))
                  (try simp only [Act.put, p1, p3, p4, p5, p6])
                  refine tk 1 ?vo1 rfl ?yo1 ?ro1
                  case yo1 => (intro q h; (try dsimp only at h); go_simp; (try with_reducible rfl))
                  (try simp only [Act.put, p1, p2, p3, p4, p5, p6])
                  refine tk 2 ?vo2 rfl ?yo2 ?ro2
                  case yo2 => (intro q h; (try dsimp only at h); go_simp; (try with_reducible rfl))
                  (try simp only [Act.put, p1, p2, p3, p4, p5, p6])
                  refine tk 3 ?vo3 rfl ?yo3 ?ro3
                  case yo3 => (intro q h; (try dsimp only at h); go_simp; (try with_reducible rfl))
                  (try simp only [Act.put, p1, p2, p3, p4, p5, p6])
                  refine tk 5 ?vo5 rfl ?yo5 ?ro5
                  case yo5 => (intro q h; (try dsimp only at h); go_simp; (try with_reducible rfl))
                  (try simp only [Act.put, p1, p2, p3, p4, p5, p6])
                  refine tk 6 ?vo6 rfl ?yo6 ?ro6
                  case yo6 => (intro q h; (try dsimp only at h); go_simp; (try with_reducible rfl))
                  (try simp only [Act.put, p1, p2, p3, p4, p5, p6])
                  refine tk 7 ?vo7 rfl ?yo7 ?ro7
                  case yo7 => (intro q h; (try dsimp only at h); go_simp; (try with_reducible rfl))
                  (try simp only [Act.put, p1, p2, p3, p4, p5, p6])
                  refine tk 8 ?vo8 rfl ?yo8 ?ro8
                  case yo8 => (intro q h; (try dsimp only at h); go_simp; (try with_reducible rfl))
                  (try simp only [Act.put, p1, p2, p3, p4, p5, p6])
                  refine tk 9 ?vo9 rfl ?yo9 ?ro9
                  case yo9 => (intro q h; (try dsimp only at h); go_simp; (try with_reducible rfl))
                  (try simp only [Act.put, p1, p2, p3, p4, p5, p6])
                  refine wpAnyH_ready (rs := [4]) (by kernel_rfl) (by simp) ?_
                  refine AllReadyH.cons rfl (fun K hK => ?_) AllReadyH.nil
                  go_simp
                  refine hK.out _ _ (by exact S0) (fun hHeld => ?_)
                  clear hK K
                  (try simp only [Act.put, p1, p2, p3, p4, p5, p6])
                  refine wpAnyH_ready (rs := [10]) (by kernel_rfl) (by simp) ?_
                  refine AllReadyH.cons rfl (fun K hK => ?_) AllReadyH.nil
                  go_simp
                  refine (HCH.out _ (Below.refl _ _).drew).mono ?_
                  rintro ex w4 ⟨sv4, rfl, T4, B4⟩; have hb4 := B4.on (Below.refl wd.heap.size wd).drew (Below.refl wd.heap.size wd).drew.size; clear B4; obtain ⟨p4, c4, hv4⟩ := T4.slice; subst hv4; have S4 := HSB.out _ hb4; have HCG := Lib.hid (rchange_c HSW.out hb4 (R' := X.R) T4 er); clear T4
                  (try dsimp only)
                  refine hK.out _ _ (by exact S4) (fun hHeld => ?_)
                  clear hK K
                  (try simp only [Act.put, p1, p2, p3, p4, p5, p6])
                  refine tk 11 ?vo11 rfl ?yo11 ?ro11
                  case yo11 => (intro q h; (try dsimp only at h); go_simp; (try with_reducible rfl))
                  (try simp only [Act.put, p1, p2, p3, p4, p5, p6])
                  refine tk 12 ?vo12 rfl ?yo12 ?ro12
                  case yo12 => (intro q h; (try dsimp only at h); go_simp; (try with_reducible rfl))
                  (try simp only [Act.put, p1, p2, p3, p4, p5, p6])
                  refine wpAnyH_ready (rs := [13]) (by kernel_rfl) (by simp) ?_
                  refine AllReadyH.cons rfl (fun K hK => ?_) AllReadyH.nil
                  go_simp
                  refine (HCG.out).mono ?_
                  rintro ex w5 ⟨rfl, T5⟩; have HZ := Lib.hid (HFI.out _ T5); have S5 : (fun wx => wx.cell? ⟨w.heap.size, 1, none⟩ = some (.int .i64 q.win) ∧ wx.cell? ⟨w.heap.size, 3, none⟩ = some (.int .i64 q.x) ∧ wx.cell? ⟨w.heap.size, 4, none⟩ = some (.int .i64 q.y) ∧ wx.cell? ⟨w.heap.size, 5, none⟩ = some (.int .i64 q.a) ∧ wx.cell? ⟨w.heap.size, 6, none⟩ = some (.int .i64 q.e)) w5 := (by obtain ⟨Z', _, U'⟩ := T5; have hy := HBW.out.c10; exact ⟨cell_turn U' HNW.out.2 HNW.out.1 hy.2.1, cell_turn U' HNW.out.2 HNW.out.1 hy.2.2.2.1, cell_turn U' HNW.out.2 HNW.out.1 hy.2.2.2.2.1, cell_turn U' HNW.out.2 HNW.out.1 hy.2.2.2.2.2.1, cell_turn U' HNW.out.2 HNW.out.1 hy.2.2.2.2.2.2.1⟩); clear T5
                  (try dsimp only)
                  refine hK.out _ _ (by exact S5) (fun hHeld => ?_)
                  clear hK K
                  (try simp only [Act.put, p1, p2, p3, p4, p5, p6])
                  refine tk 14 ?vo14 rfl ?yo14 ?ro14
                  case yo14 => (intro q h; (try dsimp only at h); go_simp; (try with_reducible rfl))
                  (try simp only [Act.put, p1, p2, p3, p4, p5, p6])
                  refine wpAnyH_done (by kernel_rfl) ?_ _
                  refine NoPanic.normal ?_
                  go_wp2_with fail
                  go_ret
                  exact ⟨by rw [HYE.out]; rfl, by rw [HYE.out]; exact HZ.out⟩
                · have k7 : q.kind = 7 := by omega
                  rw [k7] at x0
                  obtain ⟨er, her⟩ : ∃ er, er = (tLower q.win X.L).2 := ⟨_, rfl⟩
                  obtain ⟨L', hLp⟩ : ∃ L', L' = (tLower q.win X.L).1 := ⟨_, rfl⟩
                  have HYE := Lib.hid (show Y = (er, { X with L := L' }) from HY.out.trans (by rw [her, hLp]; unfold Xs.own; simp only [if_neg k2, if_neg k10, if_neg k4, if_neg hak, if_neg k3, if_neg k5, if_neg k6]))
                  have HLE := Lib.hid (And.intro hLp her)
                  have HZE := Lib.hid (show er ≠ 0 → L' = X.L from fun hh => by rw [hLp]; rw [her] at hh; exact tLower_no hh)
                  have HFI := Lib.hid (fun W' (hT : RefTo wd r Z (if er = 0 then { X with R := X.R, L := L' } else X) W') => RefTo.after HBD.out (hT.chg rfl HZE.out))
                  have HSW := HS3
                  have HBW := HBXD
                  have HNW := Lib.hid (And.intro HNF.out HBLT.out)
                  have HR3 := Lib.hid (show X.R = X.R from rfl)
                  have HL3 := Lib.hid (show X.L = X.L from rfl)
                  clear her hLp hak k2 k2' k10 k10' k4 hq k3 k5 k6 k7 k3' k4' k5'
                  go_upto_region 34 with fail
                  obtain ⟨p9, c9, hl9⟩ := HSW.out.l.slice
                  have HL9 := Lib.hid hl9
                  obtain ⟨b0, b1, b2, b3, b4, b5, -, -, -, -, -⟩ := HSW.out.blk.at11
                  rw [hl9, HL3.out] at b5
                  rw [HR3.out] at b0 b1 b2 b3 b4
                  have HCH := Lib.hid (fun W' (hW : Below wd.heap.size wd W') => (show Calls Tryz.prog 117 #[refV X.R (.slice p9 X.L.length c9), .int .i64 2, .int .i64 q.win, .agg #[.int .i64 q.x, .int .i64 q.y, .int .i64 q.a, .int .i64 q.e]] W' fun ex w' => ChR W' X.R L' er ex w' from by
                   have h1 := (HSW.out.next hW).l
                   rw [HL9.out, HL3.out] at h1
                   rw [HLE.out.1, HLE.out.2]; exact ((t_lower HV0.out.s hi).2.1 q.x q.y q.a q.e) W' _ h1))
                  have HSB := Lib.hid (fun W' (hW : Below wd.heap.size wd W') => (show (fun wx => wx.cell? ⟨w.heap.size, 1, none⟩ = some (.int .i64 q.win) ∧ wx.cell? ⟨w.heap.size, 3, none⟩ = some (.int .i64 q.x) ∧ wx.cell? ⟨w.heap.size, 4, none⟩ = some (.int .i64 q.y) ∧ wx.cell? ⟨w.heap.size, 5, none⟩ = some (.int .i64 q.a) ∧ wx.cell? ⟨w.heap.size, 6, none⟩ = some (.int .i64 q.e)) W' from by
                   have hy := (HBW.out.next hW).c10
                   exact ⟨hy.2.1, hy.2.2.2.1, hy.2.2.2.2.1, hy.2.2.2.2.2.1, hy.2.2.2.2.2.2.1⟩))
                  have S0 := HSB.out wd (Below.refl _ _)
                  clear hl9
                  refine wp_region_noPanic ?_
                  refine wp_region_held_drew (S := fun wx => wx.cell? ⟨w.heap.size, 1, none⟩ = some (.int .i64 q.win) ∧ wx.cell? ⟨w.heap.size, 3, none⟩ = some (.int .i64 q.x) ∧ wx.cell? ⟨w.heap.size, 4, none⟩ = some (.int .i64 q.y) ∧ wx.cell? ⟨w.heap.size, 5, none⟩ = some (.int .i64 q.a) ∧ wx.cell? ⟨w.heap.size, 6, none⟩ = some (.int .i64 q.e)) (by kernel_rfl) (by exact S0) (fun hHeld => ?_)
                  refine tk 0 ?vp0 rfl ?yp0 ?rp0
                  case yp0 => (intro q h; (try dsimp only at h); go_simp; (try with_reducible rfl))
                  (try simp only [Act.put, p1, p3, p4, p5, p6])
                  refine tk 1 ?vp1 rfl ?yp1 ?rp1
                  case yp1 => (intro q h; (try dsimp only at h); go_simp; (try with_reducible rfl))
                  (try simp only [Act.put, p1, p2, p3, p4, p5, p6])
                  refine tk 2 ?vp2 rfl ?yp2 ?rp2
                  case yp2 => (intro q h; (try dsimp only at h); go_simp; (try with_reducible rfl))
                  (try simp only [Act.put, p1, p2, p3, p4, p5, p6])
                  refine tk 3 ?vp3 rfl ?yp3 ?rp3
                  case yp3 => (intro q h; (try dsimp only at h); go_simp; (try with_reducible rfl))
                  (try simp only [Act.put, p1, p2, p3, p4, p5, p6])
                  refine tk 5 ?vp5 rfl ?yp5 ?rp5
                  case yp5 => (intro q h; (try dsimp only at h); go_simp; (try with_reducible rfl))
                  (try simp only [Act.put, p1, p2, p3, p4, p5, p6])
                  refine tk 6 ?vp6 rfl ?yp6 ?rp6
                  case yp6 => (intro q h; (try dsimp only at h); go_simp; (try with_reducible rfl))
                  (try simp only [Act.put, p1, p2, p3, p4, p5, p6])
                  refine tk 7 ?vp7 rfl ?yp7 ?rp7
                  case yp7 => (intro q h; (try dsimp only at h); go_simp; (try with_reducible rfl))
                  (try simp only [Act.put, p1, p2, p3, p4, p5, p6])
                  refine tk 8 ?vp8 rfl ?yp8 ?rp8
                  case yp8 => (intro q h; (try dsimp only at h); go_simp; (try with_reducible rfl))
                  (try simp only [Act.put, p1, p2, p3, p4, p5, p6])
                  refine tk 9 ?vp9 rfl ?yp9 ?rp9
                  case yp9 => (intro q h; (try dsimp only at h); go_simp; (try with_reducible rfl))
                  (try simp only [Act.put, p1, p2, p3, p4, p5, p6])
                  refine wpAnyH_ready (rs := [4]) (by kernel_rfl) (by simp) ?_
                  refine AllReadyH.cons rfl (fun K hK => ?_) AllReadyH.nil
                  go_simp
                  refine hK.out _ _ (by exact S0) (fun hHeld => ?_)
                  clear hK K
                  (try simp only [Act.put, p1, p2, p3, p4, p5, p6])
                  refine wpAnyH_ready (rs := [10]) (by kernel_rfl) (by simp) ?_
                  refine AllReadyH.cons rfl (fun K hK => ?_) AllReadyH.nil
                  go_simp
                  refine (HCH.out _ (Below.refl _ _).drew).mono ?_
                  rintro ex w4 ⟨sv4, rfl, T4, B4⟩; have hb4 := B4.on (Below.refl wd.heap.size wd).drew (Below.refl wd.heap.size wd).drew.size; clear B4; obtain ⟨p4, c4, hv4⟩ := T4.slice; subst hv4; have S4 := HSB.out _ hb4; have HCG := Lib.hid (rchange_c HSW.out hb4 (R' := X.R) T4 er); clear T4
                  (try dsimp only)
                  refine hK.out _ _ (by exact S4) (fun hHeld => ?_)
                  clear hK K
                  (try simp only [Act.put, p1, p2, p3, p4, p5, p6])
                  refine tk 11 ?vp11 rfl ?yp11 ?rp11
                  case yp11 => (intro q h; (try dsimp only at h); go_simp; (try with_reducible rfl))
                  (try simp only [Act.put, p1, p2, p3, p4, p5, p6])
                  refine tk 12 ?vp12 rfl ?yp12 ?rp12
                  case yp12 => (intro q h; (try dsimp only at h); go_simp; (try with_reducible rfl))
                  (try simp only [Act.put, p1, p2, p3, p4, p5, p6])
                  refine wpAnyH_ready (rs := [13]) (by kernel_rfl) (by simp) ?_
                  refine AllReadyH.cons rfl (fun K hK => ?_) AllReadyH.nil
                  go_simp
                  refine (HCG.out).mono ?_
                  rintro ex w5 ⟨rfl, T5⟩; have HZ := Lib.hid (HFI.out _ T5); have S5 : (fun wx => wx.cell? ⟨w.heap.size, 1, none⟩ = some (.int .i64 q.win) ∧ wx.cell? ⟨w.heap.size, 3, none⟩ = some (.int .i64 q.x) ∧ wx.cell? ⟨w.heap.size, 4, none⟩ = some (.int .i64 q.y) ∧ wx.cell? ⟨w.heap.size, 5, none⟩ = some (.int .i64 q.a) ∧ wx.cell? ⟨w.heap.size, 6, none⟩ = some (.int .i64 q.e)) w5 := (by obtain ⟨Z', _, U'⟩ := T5; have hy := HBW.out.c10; exact ⟨cell_turn U' HNW.out.2 HNW.out.1 hy.2.1, cell_turn U' HNW.out.2 HNW.out.1 hy.2.2.2.1, cell_turn U' HNW.out.2 HNW.out.1 hy.2.2.2.2.1, cell_turn U' HNW.out.2 HNW.out.1 hy.2.2.2.2.2.1, cell_turn U' HNW.out.2 HNW.out.1 hy.2.2.2.2.2.2.1⟩); clear T5
                  (try dsimp only)
                  refine hK.out _ _ (by exact S5) (fun hHeld => ?_)
                  clear hK K
                  (try simp only [Act.put, p1, p2, p3, p4, p5, p6])
                  refine tk 14 ?vp14 rfl ?yp14 ?rp14
                  case yp14 => (intro q h; (try dsimp only at h); go_simp; (try with_reducible rfl))
                  (try simp only [Act.put, p1, p2, p3, p4, p5, p6])
                  refine wpAnyH_done (by kernel_rfl) ?_ _
                  refine NoPanic.normal ?_
                  go_wp2_with fail
                  go_ret
                  exact ⟨by rw [HYE.out]; rfl, by rw [HYE.out]; exact HZ.out⟩
end
end Go.Proofs.YtnhchpiafchdgaaGreat
