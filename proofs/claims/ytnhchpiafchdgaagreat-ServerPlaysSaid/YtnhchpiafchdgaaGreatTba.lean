/- Texts SuI. -/
import Derived.Test.YtnhchpiafchdgaaGreatTaz
import Derived.Test.YtnhchpiafchdgaaGreatTaa
namespace Go.Proofs.YtnhchpiafchdgaaGreat
open Go.RowKit Go.Shelf Go.Maps
section
variable {w w' w0 : World} {r : Nat} {Z : Zl} {X : Xs} {k : Nat}
set_option maxRecDepth 100000 in
set_option maxHeartbeats 16000000 in
theorem rdo_create (h : Ref w r Z X) (hV : V0 X k) (hML : X.M.length ≤ 1000) (hk : k + 1 ≤ 1000) (a : Int) (q : Rq) (hw : X.wrong a q.kind = false) (h1 : q.kind = 1) (ho : I64 q.other) :
  Calls Tryz.prog 38 #[refP r, .int .i64 a, rqV q] w fun ex w' => ex = .returned (.tuple #[.int .i64 (X.create a q).1, .int .i64 (X.create a q).2.1]) ∧ RefTo w r Z (X.create a q).2.2 w' := by
 obtain ⟨wb, hwb⟩ : ∃ wb, wb = w.alloc (.cells #[.int .i64 q.kind, .int .i64 q.win, .int .i64 q.other, .int .i64 q.x, .int .i64 q.y, .int .i64 q.a, .int .i64 q.e, .string q.p.name, .string q.p.typ, .string q.p.data] 37) := ⟨_, rfl⟩
 have hbel : Below w.heap.size w wb := by rw [hwb]; exact (Below.refl _ _).alloc (Nat.le_refl _) _
 have hbx : Blk wb w.heap.size 37 (rqL q) := by rw [hwb]; exact Blk.new w _ _
 have hs := h.next hbel
 obtain ⟨x0, -, -, -, -, -, -, -, -, -⟩ := hbx.c10
 rw [h1] at x0
 have b9 := hs.blk.at_ (i := 9) (v := .bool X.G) rfl
 obtain ⟨pl, cl, hlv⟩ := h.l.slice
 have HLV := Lib.hid hlv
 have HW := Lib.hid hwb
 have HB := Lib.hid hbel
 have HX := Lib.hid hbx
 have HR := Lib.hid hs
 have HML := Lib.hid (show X.M.length ≤ 1048576 by omega)
 have HM1 := Lib.hid hML
 obtain ⟨e1, e0, -, -⟩ := right_parts hw
 obtain ⟨bI, hbI⟩ : ∃ bI, bI = isL X.L q.other := ⟨_, rfl⟩
 have HIS := Lib.hid (fun W (hW : Below wb.heap.size wb W) => (show Calls Tryz.prog 59 #[refV X.R (.slice pl X.L.length cl), .int .i64 q.other] W fun e w' => e = .returned (.bool bI) ∧ Below W.heap.size W w' from by
  rw [hbI, ← hlv]; exact is_c (RO.rd (hs.next hW).l) (Nat.le_trans hV.s.big (by decide)) q.other))
 obtain ⟨R', hR'⟩ : ∃ R', R' = (tCreate X.R q.other q.x q.y q.a q.e X.L).1 := ⟨_, rfl⟩
 obtain ⟨L', hL'⟩ : ∃ L', L' = (tCreate X.R q.other q.x q.y q.a q.e X.L).2.1 := ⟨_, rfl⟩
 obtain ⟨id, hid⟩ : ∃ id, id = (tCreate X.R q.other q.x q.y q.a q.e X.L).2.2.1 := ⟨_, rfl⟩
 obtain ⟨er, her⟩ : ∃ er, er = (tCreate X.R q.other q.x q.y q.a q.e X.L).2.2.2 := ⟨_, rfl⟩
 have HCR := Lib.hid (fun W (hW : Below wb.heap.size wb W) => (show Calls Tryz.prog 62 #[refV X.R (.slice pl X.L.length cl), .int .i64 q.other, .agg #[.int .i64 q.x, .int .i64 q.y, .int .i64 q.a, .int .i64 q.e]] W fun ex w' => CrR W R' L' id er ex w' from by
  rw [hR', hL', hid, her, ← hlv]; exact (t_create hV.s hk ho q.x q.y q.a q.e).2.1 W Z.lv (hs.next hW).l))
 obtain ⟨rf, hrf⟩ : ∃ rf, rf = (bI && (decide (a ≠ 0) && (decide (q.other ≠ 0) && decide (ownM q.other X.M ≠ a)))) := ⟨_, rfl⟩
 obtain ⟨Y, hY⟩ : ∃ Y, Y = X.create a q := ⟨_, rfl⟩
 have HYR := Lib.hid (show rf = true → Y = (0, 80, X) from fun hh => by
  rw [hY]; unfold Xs.create
  rw [hrf, hbI] at hh
  simp only [Bool.and_eq_true, decide_eq_true_eq] at hh
  rw [if_pos hh])
 have HYG := Lib.hid (show rf = false → Y = (id, er, if er = 0 then { X with R := R', L := L', M := X.M ++ [⟨id, a, false⟩] } else X) from fun hh => by
  rw [hY]; unfold Xs.create
  rw [if_neg, hR', hL', hid, her]
  intro hc
  rw [hrf, hbI, hc.1, decide_eq_true hc.2.1, decide_eq_true hc.2.2.1, decide_eq_true hc.2.2.2] at hh
  exact absurd hh (by decide))
 rw [← hY]
 have HRF := Lib.hid hrf
 have HS1 := Lib.hid (fun W (hW : Below wb.heap.size wb W) => (show (fun wx => wx.cell? ⟨r, 0, none⟩ = some (.int .i64 X.R.x) ∧ wx.cell? ⟨r, 1, none⟩ = some (.int .i64 X.R.y) ∧ wx.cell? ⟨r, 2, none⟩ = some (.int .i64 X.R.w) ∧ wx.cell? ⟨r, 3, none⟩ = some (.int .i64 X.R.h) ∧ wx.cell? ⟨r, 4, none⟩ = some (.int .i64 X.R.last) ∧ wx.cell? ⟨r, 5, none⟩ = some (.slice pl X.L.length cl) ∧ wx.cell? ⟨w.heap.size, 2, none⟩ = some (.int .i64 q.other) ∧ wx.cell? ⟨w.heap.size, 3, none⟩ = some (.int .i64 q.x) ∧ wx.cell? ⟨w.heap.size, 4, none⟩ = some (.int .i64 q.y) ∧ wx.cell? ⟨w.heap.size, 5, none⟩ = some (.int .i64 q.a) ∧ wx.cell? ⟨w.heap.size, 6, none⟩ = some (.int .i64 q.e)) W from by
  have hy := (HR.out.next hW).blk.at11
  rw [HLV.out] at hy
  have hz := (HX.out.next hW).c10
  exact ⟨hy.1, hy.2.1, hy.2.2.1, hy.2.2.2.1, hy.2.2.2.2.1, hy.2.2.2.2.2.1, hz.2.2.1, hz.2.2.2.1, hz.2.2.2.2.1, hz.2.2.2.2.2.1, hz.2.2.2.2.2.2.1⟩))
 have S1 := HS1.out wb (Below.refl _ _)
 have hd : ∃ g, X.G = g ∧ ((a = 0 ∧ g = true) ∨ (a == 0) = false) := by
  refine ⟨_, rfl, ?_⟩
  by_cases h0 : a = 0
  · exact .inl ⟨h0, e0 h0⟩
  · exact .inr (by simpa using h0)
 obtain ⟨g9, hg9, hd⟩ := hd
 rw [hg9] at b9
 clear h hV hML hbel hbx hs hw hg9 e0 h1 hlv hbI hR' hL' hid her hY hrf hk
 go_enter Tryz.func38, Tryz.ntmps38
 go_upto_region 1 with fail
 rw [← HW.out]
 clear hwb
 have hcut0 : ∀ G : Prop, ((a = 0 ∧ g9 = true) → G) → ((a == 0) = false → G) → G := fun G f1 f2 => hd.elim f1 f2
 go_cut [34] (fun s wx => s = .bool false ∧ wb = wx)
 case first =>
  rcases hd with ⟨rfl, rfl⟩ | e4
  · go_wp2_with fail
    go_meet
    exact ⟨rfl, rfl⟩
  · go_wp2_with fail
    go_meet
    exact ⟨rfl, rfl⟩
 case rest =>
  obtain ⟨rfl, rfl⟩ := hcut
  go_upto_region 4 with fail
  go_cut [61] (fun s wx => s = .bool rf ∧ Below wb.heap.size wb wx)
  case first =>
    cases bI with
    | false =>
     have HRV := Lib.hid (show rf = false from by rw [HRF.out]; rfl)
     refine wp_region_noPanic ?_
     refine wp_region_held_drew (S := fun wx => wx.cell? ⟨r, 0, none⟩ = some (.int .i64 X.R.x) ∧ wx.cell? ⟨r, 1, none⟩ = some (.int .i64 X.R.y) ∧ wx.cell? ⟨r, 2, none⟩ = some (.int .i64 X.R.w) ∧ wx.cell? ⟨r, 3, none⟩ = some (.int .i64 X.R.h) ∧ wx.cell? ⟨r, 4, none⟩ = some (.int .i64 X.R.last) ∧ wx.cell? ⟨r, 5, none⟩ = some (.slice pl X.L.length cl) ∧ wx.cell? ⟨w.heap.size, 2, none⟩ = some (.int .i64 q.other) ∧ wx.cell? ⟨w.heap.size, 3, none⟩ = some (.int .i64 q.x) ∧ wx.cell? ⟨w.heap.size, 4, none⟩ = some (.int .i64 q.y) ∧ wx.cell? ⟨w.heap.size, 5, none⟩ = some (.int .i64 q.a) ∧ wx.cell? ⟨w.heap.size, 6, none⟩ = some (.int .i64 q.e)) (by kernel_rfl) (by exact S1) (fun hHeld => ?_)
     refine tk 0 ?vfa0 rfl ?yfa0 ?rfa0
     case yfa0 => (intro q h; (try dsimp only at h); go_simp; (try with_reducible rfl))
     (try simp only [Act.put, p1, p3, p4, p5, p6])
     refine tk 1 ?vfa1 rfl ?yfa1 ?rfa1
     case yfa1 => (intro q h; (try dsimp only at h); go_simp; (try with_reducible rfl))
     (try simp only [Act.put, p1, p2, p3, p4, p5, p6])
     refine tk 2 ?vfa2 rfl ?yfa2 ?rfa2
     case yfa2 => (intro q h; (try dsimp only at h); go_simp; (try with_reducible rfl))
     (try simp only [Act.put, p1, p2, p3, p4, p5, p6])
     refine tk 3 ?vfa3 rfl ?yfa3 ?rfa3
     case yfa3 => (intro q h; (try dsimp only at h); go_simp; (try with_reducible rfl))
     (try simp only [Act.put, p1, p2, p3, p4, p5, p6])
     refine tk 4 ?vfa4 rfl ?yfa4 ?rfa4
     case yfa4 => (intro q h; (try dsimp only at h); go_simp; (try with_reducible rfl))
     (try simp only [Act.put, p1, p2, p3, p4, p5, p6])
     refine tk 5 ?vfa5 rfl ?yfa5 ?rfa5
     case yfa5 => (intro q h; (try dsimp only at h); go_simp; (try with_reducible rfl))
     (try simp only [Act.put, p1, p2, p3, p4, p5, p6])
     refine wpAnyH_ready (rs := [6]) (by kernel_rfl) (by simp) ?_
     refine AllReadyH.cons rfl (fun K hK => ?_) AllReadyH.nil
     go_simp
     refine (HIS.out _ (Below.refl _ _).drew).mono ?_
     rintro ex w1 ⟨rfl, T1⟩; have HB1 := Lib.hid (T1.on (Below.refl wb.heap.size wb).drew (Below.refl wb.heap.size wb).drew.size); clear T1; have S4 := HS1.out _ HB1.out; have HOW := Lib.hid (rowner_c (HR.out.next HB1.out) HML.out q.other)
     (try dsimp only)
     refine hK.out _ _ (by exact S4) (fun hHeld => ?_)
     clear hK K
     (try simp only [Act.put, p1, p2, p3, p4, p5, p6])
     refine tk 7 ?vfa7 rfl ?yfa7 ?rfa7
     case yfa7 => (intro q h; (try dsimp only at h); go_simp; (try with_reducible rfl))
     (try simp only [Act.put, p1, p2, p3, p4, p5, p6])
     refine tu 8 rfl ?_
     (try simp only [Act.put, p1, p2, p3, p4, p5, p6])
     refine tu 9 rfl ?_
     (try simp only [Act.put, p1, p2, p3, p4, p5, p6])
     refine tk 10 ?vfa10 rfl ?yfa10 ?rfa10
     case yfa10 => (intro q h; (try dsimp only at h); go_simp; (try with_reducible rfl))
     (try simp only [Act.put, p1, p2, p3, p4, p5, p6])
     refine tk 11 ?vfa11 rfl ?yfa11 ?rfa11
     case yfa11 => (intro q h; (try dsimp only at h); go_simp; (try with_reducible rfl))
     (try simp only [Act.put, p1, p2, p3, p4, p5, p6])
     refine tu 12 rfl ?_
     (try simp only [Act.put, p1, p2, p3, p4, p5, p6])
     refine tu 13 rfl ?_
     (try simp only [Act.put, p1, p2, p3, p4, p5, p6])
     refine tu 14 rfl ?_
     (try simp only [Act.put, p1, p2, p3, p4, p5, p6])
     refine tk 15 ?vfa15 rfl ?yfa15 ?rfa15
     case yfa15 => (intro q h; (try dsimp only at h); go_simp; (try with_reducible rfl))
     (try simp only [Act.put, p1, p2, p3, p4, p5, p6])
     refine tk 16 ?vfa16 rfl ?yfa16 ?rfa16
     case yfa16 => (intro q h; (try dsimp only at h); go_simp; (try with_reducible rfl))
     (try simp only [Act.put, p1, p2, p3, p4, p5, p6])
     refine tu 17 rfl ?_
     (try simp only [Act.put, p1, p2, p3, p4, p5, p6])
     refine tu 18 rfl ?_
     (try simp only [Act.put, p1, p2, p3, p4, p5, p6])
     refine tu 19 rfl ?_
     (try simp only [Act.put, p1, p2, p3, p4, p5, p6])
     refine tu 20 rfl ?_
     (try simp only [Act.put, p1, p2, p3, p4, p5, p6])
     refine tu 21 rfl ?_
     (try simp only [Act.put, p1, p2, p3, p4, p5, p6])
     refine tu 22 rfl ?_
     (try simp only [Act.put, p1, p2, p3, p4, p5, p6])
     refine tk 23 ?vfa23 rfl ?yfa23 ?rfa23
     case yfa23 => (intro q h; (try dsimp only at h); go_simp; (try with_reducible rfl))
     (try simp only [Act.put, p1, p2, p3, p4, p5, p6])
     refine wpAnyH_done (by kernel_rfl) ?_ _
     refine NoPanic.normal ?_
     go_wp2_with fail
     go_meet
     exact ⟨by rw [HRV.out], HB1.out⟩
    | true =>
     by_cases h0 : a = 0
     · have h0' : (a != 0) = false := by simpa using h0
       have HRV := Lib.hid (show rf = false from by rw [HRF.out, h0]; rfl)
       clear h0
       refine wp_region_noPanic ?_
       refine wp_region_held_drew (S := fun wx => wx.cell? ⟨r, 0, none⟩ = some (.int .i64 X.R.x) ∧ wx.cell? ⟨r, 1, none⟩ = some (.int .i64 X.R.y) ∧ wx.cell? ⟨r, 2, none⟩ = some (.int .i64 X.R.w) ∧ wx.cell? ⟨r, 3, none⟩ = some (.int .i64 X.R.h) ∧ wx.cell? ⟨r, 4, none⟩ = some (.int .i64 X.R.last) ∧ wx.cell? ⟨r, 5, none⟩ = some (.slice pl X.L.length cl) ∧ wx.cell? ⟨w.heap.size, 2, none⟩ = some (.int .i64 q.other) ∧ wx.cell? ⟨w.heap.size, 3, none⟩ = some (.int .i64 q.x) ∧ wx.cell? ⟨w.heap.size, 4, none⟩ = some (.int .i64 q.y) ∧ wx.cell? ⟨w.heap.size, 5, none⟩ = some (.int .i64 q.a) ∧ wx.cell? ⟨w.heap.size, 6, none⟩ = some (.int .i64 q.e)) (by kernel_rfl) (by exact S1) (fun hHeld => ?_)
       refine tk 0 ?vfb0 rfl ?yfb0 ?rfb0
       case yfb0 => (intro q h; (try dsimp only at h); go_simp; (try with_reducible rfl))
       (try simp only [Act.put, p1, p3, p4, p5, p6])
       refine tk 1 ?vfb1 rfl ?yfb1 ?rfb1
       case yfb1 => (intro q h; (try dsimp only at h); go_simp; (try with_reducible rfl))
       (try simp only [Act.put, p1, p2, p3, p4, p5, p6])
       refine tk 2 ?vfb2 rfl ?yfb2 ?rfb2
       case yfb2 => (intro q h; (try dsimp only at h); go_simp; (try with_reducible rfl))
       (try simp only [Act.put, p1, p2, p3, p4, p5, p6])
       refine tk 3 ?vfb3 rfl ?yfb3 ?rfb3
       case yfb3 => (intro q h; (try dsimp only at h); go_simp; (try with_reducible rfl))
       (try simp only [Act.put, p1, p2, p3, p4, p5, p6])
       refine tk 4 ?vfb4 rfl ?yfb4 ?rfb4
       case yfb4 => (intro q h; (try dsimp only at h); go_simp; (try with_reducible rfl))
       (try simp only [Act.put, p1, p2, p3, p4, p5, p6])
       refine tk 5 ?vfb5 rfl ?yfb5 ?rfb5
       case yfb5 => (intro q h; (try dsimp only at h); go_simp; (try with_reducible rfl))
       (try simp only [Act.put, p1, p2, p3, p4, p5, p6])
       refine wpAnyH_ready (rs := [6]) (by kernel_rfl) (by simp) ?_
       refine AllReadyH.cons rfl (fun K hK => ?_) AllReadyH.nil
       go_simp
       refine (HIS.out _ (Below.refl _ _).drew).mono ?_
       rintro ex w1 ⟨rfl, T1⟩; have HB1 := Lib.hid (T1.on (Below.refl wb.heap.size wb).drew (Below.refl wb.heap.size wb).drew.size); clear T1; have S4 := HS1.out _ HB1.out; have HOW := Lib.hid (rowner_c (HR.out.next HB1.out) HML.out q.other)
       (try dsimp only)
       refine hK.out _ _ (by exact S4) (fun hHeld => ?_)
       clear hK K
       (try simp only [Act.put, p1, p2, p3, p4, p5, p6])
       refine tk 7 ?vfb7 rfl ?yfb7 ?rfb7
       case yfb7 => (intro q h; (try dsimp only at h); go_simp; (try with_reducible rfl))
       (try simp only [Act.put, p1, p2, p3, p4, p5, p6])
       refine tk 8 ?vfb8 rfl ?yfb8 ?rfb8
       case yfb8 => (intro q h; (try dsimp only at h); go_simp; (try with_reducible rfl))
       (try simp only [Act.put, p1, p2, p3, p4, p5, p6])
       refine tk 9 ?vfb9 rfl ?yfb9 ?rfb9
       case yfb9 => (intro q h; (try dsimp only at h); go_simp; (try with_reducible rfl))
       (try simp only [Act.put, p1, p2, p3, p4, p5, p6])
       refine tk 10 ?vfb10 rfl ?yfb10 ?rfb10
       case yfb10 => (intro q h; (try dsimp only at h); go_simp; (try with_reducible rfl))
       (try simp only [Act.put, p1, p2, p3, p4, p5, p6])
       refine tk 11 ?vfb11 rfl ?yfb11 ?rfb11
       case yfb11 => (intro q h; (try dsimp only at h); go_simp; (try with_reducible rfl))
       (try simp only [Act.put, p1, p2, p3, p4, p5, p6])
       refine tu 12 rfl ?_
       (try simp only [Act.put, p1, p2, p3, p4, p5, p6])
       refine tu 13 rfl ?_
       (try simp only [Act.put, p1, p2, p3, p4, p5, p6])
       refine tu 14 rfl ?_
       (try simp only [Act.put, p1, p2, p3, p4, p5, p6])
       refine tk 15 ?vfb15 rfl ?yfb15 ?rfb15
       case yfb15 => (intro q h; (try dsimp only at h); go_simp; (try with_reducible rfl))
       (try simp only [Act.put, p1, p2, p3, p4, p5, p6])
       refine tk 16 ?vfb16 rfl ?yfb16 ?rfb16
       case yfb16 => (intro q h; (try dsimp only at h); go_simp; (try with_reducible rfl))
       (try simp only [Act.put, p1, p2, p3, p4, p5, p6])
       refine tu 17 rfl ?_
       (try simp only [Act.put, p1, p2, p3, p4, p5, p6])
       refine tu 18 rfl ?_
       (try simp only [Act.put, p1, p2, p3, p4, p5, p6])
       refine tu 19 rfl ?_
       (try simp only [Act.put, p1, p2, p3, p4, p5, p6])
       refine tu 20 rfl ?_
       (try simp only [Act.put, p1, p2, p3, p4, p5, p6])
       refine tu 21 rfl ?_
       (try simp only [Act.put, p1, p2, p3, p4, p5, p6])
       refine tu 22 rfl ?_
       (try simp only [Act.put, p1, p2, p3, p4, p5, p6])
       refine tk 23 ?vfb23 rfl ?yfb23 ?rfb23
       case yfb23 => (intro q h; (try dsimp only at h); go_simp; (try with_reducible rfl))
       (try simp only [Act.put, p1, p2, p3, p4, p5, p6])
       refine wpAnyH_done (by kernel_rfl) ?_ _
       refine NoPanic.normal ?_
       go_wp2_with fail
       go_meet
       exact ⟨by rw [HRV.out], HB1.out⟩
     · have h0' : (a != 0) = true := by simpa using h0
       by_cases h2 : q.other = 0
       · have h2' : (q.other != 0) = false := by simpa using h2
         have HRV := Lib.hid (show rf = false from by rw [HRF.out, decide_eq_true h0, decide_eq_false (fun hh => hh h2)]; rfl)
         clear h0 h2
         refine wp_region_noPanic ?_
         refine wp_region_held_drew (S := fun wx => wx.cell? ⟨r, 0, none⟩ = some (.int .i64 X.R.x) ∧ wx.cell? ⟨r, 1, none⟩ = some (.int .i64 X.R.y) ∧ wx.cell? ⟨r, 2, none⟩ = some (.int .i64 X.R.w) ∧ wx.cell? ⟨r, 3, none⟩ = some (.int .i64 X.R.h) ∧ wx.cell? ⟨r, 4, none⟩ = some (.int .i64 X.R.last) ∧ wx.cell? ⟨r, 5, none⟩ = some (.slice pl X.L.length cl) ∧ wx.cell? ⟨w.heap.size, 2, none⟩ = some (.int .i64 q.other) ∧ wx.cell? ⟨w.heap.size, 3, none⟩ = some (.int .i64 q.x) ∧ wx.cell? ⟨w.heap.size, 4, none⟩ = some (.int .i64 q.y) ∧ wx.cell? ⟨w.heap.size, 5, none⟩ = some (.int .i64 q.a) ∧ wx.cell? ⟨w.heap.size, 6, none⟩ = some (.int .i64 q.e)) (by kernel_rfl) (by exact S1) (fun hHeld => ?_)
         refine tk 0 ?vfc0 rfl ?yfc0 ?rfc0
         case yfc0 => (intro q h; (try dsimp only at h); go_simp; (try with_reducible rfl))
         (try simp only [Act.put, p1, p3, p4, p5, p6])
         refine tk 1 ?vfc1 rfl ?yfc1 ?rfc1
         case yfc1 => (intro q h; (try dsimp only at h); go_simp; (try with_reducible rfl))
         (try simp only [Act.put, p1, p2, p3, p4, p5, p6])
         refine tk 2 ?vfc2 rfl ?yfc2 ?rfc2
         case yfc2 => (intro q h; (try dsimp only at h); go_simp; (try with_reducible rfl))
         (try simp only [Act.put, p1, p2, p3, p4, p5, p6])
         refine tk 3 ?vfc3 rfl ?yfc3 ?rfc3
         case yfc3 => (intro q h; (try dsimp only at h); go_simp; (try with_reducible rfl))
         (try simp only [Act.put, p1, p2, p3, p4, p5, p6])
         refine tk 4 ?vfc4 rfl ?yfc4 ?rfc4
         case yfc4 => (intro q h; (try dsimp only at h); go_simp; (try with_reducible rfl))
         (try simp only [Act.put, p1, p2, p3, p4, p5, p6])
         refine tk 5 ?vfc5 rfl ?yfc5 ?rfc5
         case yfc5 => (intro q h; (try dsimp only at h); go_simp; (try with_reducible rfl))
         (try simp only [Act.put, p1, p2, p3, p4, p5, p6])
         refine wpAnyH_ready (rs := [6]) (by kernel_rfl) (by simp) ?_
         refine AllReadyH.cons rfl (fun K hK => ?_) AllReadyH.nil
         go_simp
         refine (HIS.out _ (Below.refl _ _).drew).mono ?_
         rintro ex w1 ⟨rfl, T1⟩; have HB1 := Lib.hid (T1.on (Below.refl wb.heap.size wb).drew (Below.refl wb.heap.size wb).drew.size); clear T1; have S4 := HS1.out _ HB1.out; have HOW := Lib.hid (rowner_c (HR.out.next HB1.out) HML.out q.other)
         (try dsimp only)
         refine hK.out _ _ (by exact S4) (fun hHeld => ?_)
         clear hK K
         (try simp only [Act.put, p1, p2, p3, p4, p5, p6])
         refine tk 7 ?vfc7 rfl ?yfc7 ?rfc7
         case yfc7 => (intro q h; (try dsimp only at h); go_simp; (try with_reducible rfl))
         (try simp only [Act.put, p1, p2, p3, p4, p5, p6])
         refine tk 8 ?vfc8 rfl ?yfc8 ?rfc8
         case yfc8 => (intro q h; (try dsimp only at h); go_simp; (try with_reducible rfl))
         (try simp only [Act.put, p1, p2, p3, p4, p5, p6])
         refine tk 9 ?vfc9 rfl ?yfc9 ?rfc9
         case yfc9 => (intro q h; (try dsimp only at h); go_simp; (try with_reducible rfl))
         (try simp only [Act.put, p1, p2, p3, p4, p5, p6])
         refine tk 10 ?vfc10 rfl ?yfc10 ?rfc10
         case yfc10 => (intro q h; (try dsimp only at h); go_simp; (try with_reducible rfl))
         (try simp only [Act.put, p1, p2, p3, p4, p5, p6])
         refine tk 11 ?vfc11 rfl ?yfc11 ?rfc11
         case yfc11 => (intro q h; (try dsimp only at h); go_simp; (try with_reducible rfl))
         (try simp only [Act.put, p1, p2, p3, p4, p5, p6])
         refine tk 12 ?vfc12 rfl ?yfc12 ?rfc12
         case yfc12 => (intro q h; (try dsimp only at h); go_simp; (try with_reducible rfl))
         (try simp only [Act.put, p1, p2, p3, p4, p5, p6])
         refine tk 13 ?vfc13 rfl ?yfc13 ?rfc13
         case yfc13 => (intro q h; (try dsimp only at h); go_simp; (try with_reducible rfl))
         (try simp only [Act.put, p1, p2, p3, p4, p5, p6])
         refine tk 14 ?vfc14 rfl ?yfc14 ?rfc14
         case yfc14 => (intro q h; (try dsimp only at h); go_simp; (try with_reducible rfl))
         (try simp only [Act.put, p1, p2, p3, p4, p5, p6])
         refine tk 15 ?vfc15 rfl ?yfc15 ?rfc15
         case yfc15 => (intro q h; (try dsimp only at h); go_simp; (try with_reducible rfl))
         (try simp only [Act.put, p1, p2, p3, p4, p5, p6])
         refine tk 16 ?vfc16 rfl ?yfc16 ?rfc16
         case yfc16 => (intro q h; (try dsimp only at h); go_simp; (try with_reducible rfl))
         (try simp only [Act.put, p1, p2, p3, p4, p5, p6])
         refine tu 17 rfl ?_
         (try simp only [Act.put, p1, p2, p3, p4, p5, p6])
         refine tu 18 rfl ?_
         (try simp only [Act.put, p1, p2, p3, p4, p5, p6])
         refine tu 19 rfl ?_
         (try simp only [Act.put, p1, p2, p3, p4, p5, p6])
         refine tu 20 rfl ?_
         (try simp only [Act.put, p1, p2, p3, p4, p5, p6])
         refine tu 21 rfl ?_
         (try simp only [Act.put, p1, p2, p3, p4, p5, p6])
         refine tu 22 rfl ?_
         (try simp only [Act.put, p1, p2, p3, p4, p5, p6])
         refine tk 23 ?vfc23 rfl ?yfc23 ?rfc23
         case yfc23 => (intro q h; (try dsimp only at h); go_simp; (try with_reducible rfl))
         (try simp only [Act.put, p1, p2, p3, p4, p5, p6])
         refine wpAnyH_done (by kernel_rfl) ?_ _
         refine NoPanic.normal ?_
         go_wp2_with fail
         go_meet
         exact ⟨by rw [HRV.out], HB1.out⟩
       · have h2' : (q.other != 0) = true := by simpa using h2
         have HRV := Lib.hid (show (ownM q.other X.M != a) = rf from by
          rw [HRF.out, decide_eq_true h0, decide_eq_true h2]
          by_cases hh : ownM q.other X.M = a
          · simp [hh]
          · simp [hh])
         clear h0 h2
         refine wp_region_noPanic ?_
         refine wp_region_held_drew (S := fun wx => wx.cell? ⟨r, 0, none⟩ = some (.int .i64 X.R.x) ∧ wx.cell? ⟨r, 1, none⟩ = some (.int .i64 X.R.y) ∧ wx.cell? ⟨r, 2, none⟩ = some (.int .i64 X.R.w) ∧ wx.cell? ⟨r, 3, none⟩ = some (.int .i64 X.R.h) ∧ wx.cell? ⟨r, 4, none⟩ = some (.int .i64 X.R.last) ∧ wx.cell? ⟨r, 5, none⟩ = some (.slice pl X.L.length cl) ∧ wx.cell? ⟨w.heap.size, 2, none⟩ = some (.int .i64 q.other) ∧ wx.cell? ⟨w.heap.size, 3, none⟩ = some (.int .i64 q.x) ∧ wx.cell? ⟨w.heap.size, 4, none⟩ = some (.int .i64 q.y) ∧ wx.cell? ⟨w.heap.size, 5, none⟩ = some (.int .i64 q.a) ∧ wx.cell? ⟨w.heap.size, 6, none⟩ = some (.int .i64 q.e)) (by kernel_rfl) (by exact S1) (fun hHeld => ?_)
         refine tk 0 ?vfd0 rfl ?yfd0 ?rfd0
         case yfd0 => (intro q h; (try dsimp only at h); go_simp; (try with_reducible rfl))
         (try simp only [Act.put, p1, p3, p4, p5, p6])
         refine tk 1 ?vfd1 rfl ?yfd1 ?rfd1
         case yfd1 => (intro q h; (try dsimp only at h); go_simp; (try with_reducible rfl))
         (try simp only [Act.put, p1, p2, p3, p4, p5, p6])
         refine tk 2 ?vfd2 rfl ?yfd2 ?rfd2
         case yfd2 => (intro q h; (try dsimp only at h); go_simp; (try with_reducible rfl))
         (try simp only [Act.put, p1, p2, p3, p4, p5, p6])
         refine tk 3 ?vfd3 rfl ?yfd3 ?rfd3
         case yfd3 => (intro q h; (try dsimp only at h); go_simp; (try with_reducible rfl))
         (try simp only [Act.put, p1, p2, p3, p4, p5, p6])
         refine tk 4 ?vfd4 rfl ?yfd4 ?rfd4
         case yfd4 => (intro q h; (try dsimp only at h); go_simp; (try with_reducible rfl))
         (try simp only [Act.put, p1, p2, p3, p4, p5, p6])
         refine tk 5 ?vfd5 rfl ?yfd5 ?rfd5
         case yfd5 => (intro q h; (try dsimp only at h); go_simp; (try with_reducible rfl))
         (try simp only [Act.put, p1, p2, p3, p4, p5, p6])
         refine wpAnyH_ready (rs := [6]) (by kernel_rfl) (by simp) ?_
         refine AllReadyH.cons rfl (fun K hK => ?_) AllReadyH.nil
         go_simp
         refine (HIS.out _ (Below.refl _ _).drew).mono ?_
         rintro ex w1 ⟨rfl, T1⟩; have HB1 := Lib.hid (T1.on (Below.refl wb.heap.size wb).drew (Below.refl wb.heap.size wb).drew.size); clear T1; have S4 := HS1.out _ HB1.out; have HOW := Lib.hid (rowner_c (HR.out.next HB1.out) HML.out q.other)
         (try dsimp only)
         refine hK.out _ _ (by exact S4) (fun hHeld => ?_)
         clear hK K
         (try simp only [Act.put, p1, p2, p3, p4, p5, p6])
         refine tk 7 ?vfd7 rfl ?yfd7 ?rfd7
         case yfd7 => (intro q h; (try dsimp only at h); go_simp; (try with_reducible rfl))
         (try simp only [Act.put, p1, p2, p3, p4, p5, p6])
         refine tk 8 ?vfd8 rfl ?yfd8 ?rfd8
         case yfd8 => (intro q h; (try dsimp only at h); go_simp; (try with_reducible rfl))
         (try simp only [Act.put, p1, p2, p3, p4, p5, p6])
         refine tk 9 ?vfd9 rfl ?yfd9 ?rfd9
         case yfd9 => (intro q h; (try dsimp only at h); go_simp; (try with_reducible rfl))
         (try simp only [Act.put, p1, p2, p3, p4, p5, p6])
         refine tk 10 ?vfd10 rfl ?yfd10 ?rfd10
         case yfd10 => (intro q h; (try dsimp only at h); go_simp; (try with_reducible rfl))
         (try simp only [Act.put, p1, p2, p3, p4, p5, p6])
         refine tk 11 ?vfd11 rfl ?yfd11 ?rfd11
         case yfd11 => (intro q h; (try dsimp only at h); go_simp; (try with_reducible rfl))
         (try simp only [Act.put, p1, p2, p3, p4, p5, p6])
         refine tk 12 ?vfd12 rfl ?yfd12 ?rfd12
         case yfd12 => (intro q h; (try dsimp only at h); go_simp; (try with_reducible rfl))
         (try simp only [Act.put, p1, p2, p3, p4, p5, p6])
         refine tk 13 ?vfd13 rfl ?yfd13 ?rfd13
         case yfd13 => (intro q h; (try dsimp only at h); go_simp; (try with_reducible rfl))
         (try simp only [Act.put, p1, p2, p3, p4, p5, p6])
         refine tk 14 ?vfd14 rfl ?yfd14 ?rfd14
         case yfd14 => (intro q h; (try dsimp only at h); go_simp; (try with_reducible rfl))
         (try simp only [Act.put, p1, p2, p3, p4, p5, p6])
         refine tk 15 ?vfd15 rfl ?yfd15 ?rfd15
         case yfd15 => (intro q h; (try dsimp only at h); go_simp; (try with_reducible rfl))
         (try simp only [Act.put, p1, p2, p3, p4, p5, p6])
         refine tk 16 ?vfd16 rfl ?yfd16 ?rfd16
         case yfd16 => (intro q h; (try dsimp only at h); go_simp; (try with_reducible rfl))
         (try simp only [Act.put, p1, p2, p3, p4, p5, p6])
         refine tk 17 ?vfd17 rfl ?yfd17 ?rfd17
         case yfd17 => (intro q h; (try dsimp only at h); go_simp; (try with_reducible rfl))
         (try simp only [Act.put, p1, p2, p3, p4, p5, p6])
         refine tk 18 ?vfd18 rfl ?yfd18 ?rfd18
         case yfd18 => (intro q h; (try dsimp only at h); go_simp; (try with_reducible rfl))
         (try simp only [Act.put, p1, p2, p3, p4, p5, p6])
         refine tk 19 ?vfd19 rfl ?yfd19 ?rfd19
         case yfd19 => (intro q h; (try dsimp only at h); go_simp; (try with_reducible rfl))
         (try simp only [Act.put, p1, p2, p3, p4, p5, p6])
         refine tk 21 ?vfd21 rfl ?yfd21 ?rfd21
         case yfd21 => (intro q h; (try dsimp only at h); go_simp; (try with_reducible rfl))
         (try simp only [Act.put, p1, p2, p3, p4, p5, p6])
         refine wpAnyH_ready (rs := [20]) (by kernel_rfl) (by simp) ?_
         refine AllReadyH.cons rfl (fun K hK => ?_) AllReadyH.nil
         go_simp
         refine (HOW.out).mono ?_
         rintro ex w2 ⟨rfl, rfl⟩
         (try dsimp only)
         refine hK.out _ _ (by exact S4) (fun hHeld => ?_)
         clear hK K
         (try simp only [Act.put, p1, p2, p3, p4, p5, p6])
         refine tk 22 ?vfd22 rfl ?yfd22 ?rfd22
         case yfd22 => (intro q h; (try dsimp only at h); go_simp; (try with_reducible rfl))
         (try simp only [Act.put, p1, p2, p3, p4, p5, p6])
         refine tk 23 ?vfd23 rfl ?yfd23 ?rfd23
         case yfd23 => (intro q h; (try dsimp only at h); go_simp; (try with_reducible rfl))
         (try simp only [Act.put, p1, p2, p3, p4, p5, p6])
         refine wpAnyH_done (by kernel_rfl) ?_ _
         refine NoPanic.normal ?_
         go_wp2_with fail
         go_meet
         exact ⟨by rw [HRV.out], HB1.out⟩
  case rest =>
    obtain ⟨rfl, hb1⟩ := hcut
    obtain ⟨w1, hw1⟩ : ∃ w1, w1 = wc := ⟨_, rfl⟩
    subst hw1
    have HB1 := Lib.hid hb1
    clear S1 b9 x0 hb1
    cases rf with
    | true =>
     have HYE := Lib.hid (HYR.out rfl)
     have HZ := Lib.hid (RefTo.after HB.out (RefTo.same HR.out HB1.out))
     go_wp2_with fail
     go_ret2
     exact ⟨by rw [HYE.out]; rfl, by rw [HYE.out]; exact HZ.out⟩
    | false =>
     have HYE := Lib.hid (HYG.out rfl)
     have HS6 := Lib.hid (fun W (hW : Below w1.heap.size w1 W) => HS1.out W (hW.on HB1.out HB1.out.size))
     have HCR := Lib.hid (fun W (hW : Below w1.heap.size w1 W) => HCR.out W (hW.on HB1.out HB1.out.size))
     have S4 := HS1.out w1 HB1.out
     go_upto_region 6 with fail
     go_cut [8, 9, 10] (fun s8 s9 s10 wx => ∃ g p4 c4, s8 = .pointer (some ⟨g, 0, none⟩) ∧ s9 = .int .i64 id ∧ s10 = .int .i64 er ∧ Blk wx g 54 #[.int .i64 R'.x, .int .i64 R'.y, .int .i64 R'.w, .int .i64 R'.h, .int .i64 R'.last, .slice p4 L'.length c4] ∧ RO wx (.slice p4 L'.length c4) L' ∧ Below w1.heap.size w1 wx)
     case first =>
       refine wp_region_noPanic ?_
       refine wp_region_held_drew (S := fun wx => wx.cell? ⟨r, 0, none⟩ = some (.int .i64 X.R.x) ∧ wx.cell? ⟨r, 1, none⟩ = some (.int .i64 X.R.y) ∧ wx.cell? ⟨r, 2, none⟩ = some (.int .i64 X.R.w) ∧ wx.cell? ⟨r, 3, none⟩ = some (.int .i64 X.R.h) ∧ wx.cell? ⟨r, 4, none⟩ = some (.int .i64 X.R.last) ∧ wx.cell? ⟨r, 5, none⟩ = some (.slice pl X.L.length cl) ∧ wx.cell? ⟨w.heap.size, 2, none⟩ = some (.int .i64 q.other) ∧ wx.cell? ⟨w.heap.size, 3, none⟩ = some (.int .i64 q.x) ∧ wx.cell? ⟨w.heap.size, 4, none⟩ = some (.int .i64 q.y) ∧ wx.cell? ⟨w.heap.size, 5, none⟩ = some (.int .i64 q.a) ∧ wx.cell? ⟨w.heap.size, 6, none⟩ = some (.int .i64 q.e)) (by kernel_rfl) (by exact S4) (fun hHeld => ?_)
       refine tk 0 ?vx0 rfl ?yx0 ?rx0
       case yx0 => (intro q h; (try dsimp only at h); go_simp; (try with_reducible rfl))
       (try simp only [Act.put, p1, p3, p4, p5, p6])
       refine tk 1 ?vx1 rfl ?yx1 ?rx1
       case yx1 => (intro q h; (try dsimp only at h); go_simp; (try with_reducible rfl))
       (try simp only [Act.put, p1, p2, p3, p4, p5, p6])
       refine tk 2 ?vx2 rfl ?yx2 ?rx2
       case yx2 => (intro q h; (try dsimp only at h); go_simp; (try with_reducible rfl))
       (try simp only [Act.put, p1, p2, p3, p4, p5, p6])
       refine tk 3 ?vx3 rfl ?yx3 ?rx3
       case yx3 => (intro q h; (try dsimp only at h); go_simp; (try with_reducible rfl))
       (try simp only [Act.put, p1, p2, p3, p4, p5, p6])
       refine tk 4 ?vx4 rfl ?yx4 ?rx4
       case yx4 => (intro q h; (try dsimp only at h); go_simp; (try with_reducible rfl))
       (try simp only [Act.put, p1, p2, p3, p4, p5, p6])
       refine tk 5 ?vx5 rfl ?yx5 ?rx5
       case yx5 => (intro q h; (try dsimp only at h); go_simp; (try with_reducible rfl))
       (try simp only [Act.put, p1, p2, p3, p4, p5, p6])
       refine tk 6 ?vx6 rfl ?yx6 ?rx6
       case yx6 => (intro q h; (try dsimp only at h); go_simp; (try with_reducible rfl))
       (try simp only [Act.put, p1, p2, p3, p4, p5, p6])
       refine tk 7 ?vx7 rfl ?yx7 ?rx7
       case yx7 => (intro q h; (try dsimp only at h); go_simp; (try with_reducible rfl))
       (try simp only [Act.put, p1, p2, p3, p4, p5, p6])
       refine wpAnyH_ready (rs := [8, 13]) (by kernel_rfl) (by simp) ?_
       refine AllReadyH.cons rfl (fun K hK => ?_) (AllReadyH.cons rfl (fun K hK => ?_) AllReadyH.nil)
       · go_simp
         refine (HCR.out _ (Below.refl _ _).drew).mono ?_
         rintro ex w2 ⟨sv, rfl, T2, hb0⟩; have hb2 := hb0.on (Below.refl w1.heap.size w1).drew (Below.refl w1.heap.size w1).drew.size; clear hb0; obtain ⟨p4, c4, hv4⟩ := T2.slice; subst hv4
         (try dsimp only)
         refine hK.out _ _ (by exact HS6.out _ hb2) (fun hHeld => ?_)
         clear hK K
         (try simp only [Act.put, p1, p2, p3, p4, p5, p6])
         refine tk 9 ?vy9 rfl ?yy9 ?ry9
         case yy9 => (intro q h; (try dsimp only at h); go_simp; (try with_reducible rfl))
         (try simp only [Act.put, p1, p2, p3, p4, p5, p6])
         refine tk 10 ?vy10 rfl ?yy10 ?ry10
         case yy10 => (intro q h; (try dsimp only at h); go_simp; (try with_reducible rfl))
         (try simp only [Act.put, p1, p2, p3, p4, p5, p6])
         refine tk 11 ?vy11 rfl ?yy11 ?ry11
         case yy11 => (intro q h; (try dsimp only at h); go_simp; (try with_reducible rfl))
         (try simp only [Act.put, p1, p2, p3, p4, p5, p6])
         refine tk 12 ?vy12 rfl ?yy12 ?ry12
         case yy12 => (intro q h; (try dsimp only at h); go_simp; (try with_reducible rfl))
         (try simp only [Act.put, p1, p2, p3, p4, p5, p6])
         refine wpAnyH_ready (rs := [13]) (by kernel_rfl) (by simp) ?_
         refine AllReadyH.cons rfl (fun K hK => ?_) AllReadyH.nil
         go_simp
         have hB := Blk.new w2 54 #[.int .i64 0, .int .i64 0, .int .i64 0, .int .i64 0, .int .i64 0, .slice none 0 0]
         have hb3 := hb2.alloc hb2.size (.cells #[.int .i64 0, .int .i64 0, .int .i64 0, .int .i64 0, .int .i64 0, .slice none 0 0] 54)
         refine hK.out _ _ (by exact HS6.out _ hb3) (fun hHeld => ?_)
         clear hK K
         (try simp only [Act.put, p1, p2, p3, p4, p5, p6])
         obtain ⟨⟨y0, y1, y2, y3, y4, y5⟩, ⟨f0, f1, f2, f3, f4, f5⟩⟩ := hB.at6
         refine wpAnyH_ready (rs := [14]) (by kernel_rfl) (by simp) ?_
         refine AllReadyH.cons rfl (fun K hK => ?_) AllReadyH.nil
         go_simp
         have hB4 := Blk.new w2 54 #[.int .i64 R'.x, .int .i64 R'.y, .int .i64 R'.w, .int .i64 R'.h, .int .i64 R'.last, .slice p4 L'.length c4]
         have hb4 := hb2.alloc hb2.size (.cells #[.int .i64 R'.x, .int .i64 R'.y, .int .i64 R'.w, .int .i64 R'.h, .int .i64 R'.last, .slice p4 L'.length c4] 54)
         refine hK.out _ _ (by exact HS6.out _ hb4) (fun hHeld => ?_)
         clear hK K
         (try simp only [Act.put, p1, p2, p3, p4, p5, p6])
         refine tk 15 ?vy15 rfl ?yy15 ?ry15
         case yy15 => (intro q h; (try dsimp only at h); go_simp; (try with_reducible rfl))
         (try simp only [Act.put, p1, p2, p3, p4, p5, p6])
         refine tk 16 ?vy16 rfl ?yy16 ?ry16
         case yy16 => (intro q h; (try dsimp only at h); go_simp; (try with_reducible rfl))
         (try simp only [Act.put, p1, p2, p3, p4, p5, p6])
         refine wpAnyH_done (by kernel_rfl) ?_ _
         refine NoPanic.normal ?_
         go_wp2_with fail
         go_meet
         exact ⟨_, p4, c4, rfl, rfl, rfl, hB4, OwK.below T2 ((Below.refl _ w2).alloc (Nat.le_refl _) _), hb4⟩
       · go_simp
         have hb2 := (Below.refl w1.heap.size w1).alloc (Nat.le_refl _) (.cells #[.int .i64 0, .int .i64 0, .int .i64 0, .int .i64 0, .int .i64 0, .slice none 0 0] 54)
         have hB0 := Blk.new w1 54 #[.int .i64 0, .int .i64 0, .int .i64 0, .int .i64 0, .int .i64 0, .slice none 0 0]
         refine hK.out _ _ (by exact HS6.out _ hb2.drew) (fun hHeld => ?_)
         clear hK K
         (try simp only [Act.put, p1, p2, p3, p4, p5, p6])
         refine wpAnyH_ready (rs := [8]) (by kernel_rfl) (by simp) ?_
         refine AllReadyH.cons rfl (fun K hK => ?_) AllReadyH.nil
         go_simp
         refine (HCR.out _ hb2.drew).mono ?_
         rintro ex w2 ⟨sv, rfl, T2, hb0⟩; have hb3 := hb0.on hb2.drew hb2.size; have hB := hB0.drew.next hb0; clear hb0; obtain ⟨p4, c4, hv4⟩ := T2.slice; subst hv4
         (try dsimp only)
         refine hK.out _ _ (by exact HS6.out _ hb3) (fun hHeld => ?_)
         clear hK K
         (try simp only [Act.put, p1, p2, p3, p4, p5, p6])
         refine tk 9 ?vz9 rfl ?yz9 ?rz9
         case yz9 => (intro q h; (try dsimp only at h); go_simp; (try with_reducible rfl))
         (try simp only [Act.put, p1, p2, p3, p4, p5, p6])
         refine tk 10 ?vz10 rfl ?yz10 ?rz10
         case yz10 => (intro q h; (try dsimp only at h); go_simp; (try with_reducible rfl))
         (try simp only [Act.put, p1, p2, p3, p4, p5, p6])
         refine tk 11 ?vz11 rfl ?yz11 ?rz11
         case yz11 => (intro q h; (try dsimp only at h); go_simp; (try with_reducible rfl))
         (try simp only [Act.put, p1, p2, p3, p4, p5, p6])
         refine tk 12 ?vz12 rfl ?yz12 ?rz12
         case yz12 => (intro q h; (try dsimp only at h); go_simp; (try with_reducible rfl))
         (try simp only [Act.put, p1, p2, p3, p4, p5, p6])
         obtain ⟨⟨y0, y1, y2, y3, y4, y5⟩, ⟨f0, f1, f2, f3, f4, f5⟩⟩ := hB.at6
         refine wpAnyH_ready (rs := [14]) (by kernel_rfl) (by simp) ?_
         refine AllReadyH.cons rfl (fun K hK => ?_) AllReadyH.nil
         go_simp
         have hb9 := (((((hb3.setCell (Nat.le_refl _) (p := ⟨w1.heap.size, 0, none⟩) (.int .i64 R'.x)).setCell (Nat.le_refl _) (p := ⟨w1.heap.size, 1, none⟩) (.int .i64 R'.y)).setCell (Nat.le_refl _) (p := ⟨w1.heap.size, 2, none⟩) (.int .i64 R'.w)).setCell (Nat.le_refl _) (p := ⟨w1.heap.size, 3, none⟩) (.int .i64 R'.h)).setCell (Nat.le_refl _) (p := ⟨w1.heap.size, 4, none⟩) (.int .i64 R'.last)).setCell (Nat.le_refl _) (p := ⟨w1.heap.size, 5, none⟩) (.slice p4 L'.length c4)
         refine hK.out _ _ (by exact HS6.out _ hb9) (fun hHeld => ?_)
         clear hK K
         (try simp only [Act.put, p1, p2, p3, p4, p5, p6])
         refine tk 15 ?vz15 rfl ?yz15 ?rz15
         case yz15 => (intro q h; (try dsimp only at h); go_simp; (try with_reducible rfl))
         (try simp only [Act.put, p1, p2, p3, p4, p5, p6])
         refine tk 16 ?vz16 rfl ?yz16 ?rz16
         case yz16 => (intro q h; (try dsimp only at h); go_simp; (try with_reducible rfl))
         (try simp only [Act.put, p1, p2, p3, p4, p5, p6])
         refine wpAnyH_done (by kernel_rfl) ?_ _
         refine NoPanic.normal ?_
         go_wp2_with fail
         go_meet
         exact ⟨_, p4, c4, rfl, rfl, rfl, (((((hB.set_ 0 (.int .i64 R'.x)).set_ 1 (.int .i64 R'.y)).set_ 2 (.int .i64 R'.w)).set_ 3 (.int .i64 R'.h)).set_ 4 (.int .i64 R'.last)).set_ 5 (.slice p4 L'.length c4), rows6 T2 hB _ _ _ _ _ _, hb9⟩
     case rest =>
       obtain ⟨g, p4, c4, rfl, rfl, rfl, hB, hro, hb2⟩ := hcut
       obtain ⟨wf, hwf⟩ : ∃ wf, wf = wc := ⟨_, rfl⟩
       subst hwf
       have HBF := Lib.hid ((hb2.on HB1.out HB1.out.size).on HB.out HB.out.size)
       have hsf := HR.out.next (hb2.on HB1.out HB1.out.size)
       clear S4
       by_cases he : er = 0
       · subst he
         have HYF := Lib.hid (show Y = (id, 0, { X with R := R', L := L', M := X.M ++ [⟨id, a, false⟩] }) from HYE.out.trans (by rw [if_pos rfl]))
         obtain ⟨⟨y0, y1, y2, y3, y4, y5⟩, -⟩ := hB.at6
         obtain ⟨b0, b1, b2, b3, b4, b5, -, -, -, -, -⟩ := hsf.blk.at11
         obtain ⟨f0, f1, f2, f3, f4, f5⟩ := (show _ ∧ _ ∧ _ ∧ _ ∧ _ ∧ _ from ⟨hsf.blk.frozen 0, hsf.blk.frozen 1, hsf.blk.frozen 2, hsf.blk.frozen 3, hsf.blk.frozen 4, hsf.blk.frozen 5⟩)
         have HPT := Lib.hid (hsf.putT (R' := R') (Below.refl _ _) hro)
         clear hB hro hb2 hsf
         go_upto_region 9 with fail
         obtain ⟨we, hwe⟩ : ∃ we, we = ((((((wf.setCell ⟨r, 0, none⟩ (.int .i64 R'.x)).setCell ⟨r, 1, none⟩ (.int .i64 R'.y)).setCell ⟨r, 2, none⟩ (.int .i64 R'.w)).setCell ⟨r, 3, none⟩ (.int .i64 R'.h)).setCell ⟨r, 4, none⟩ (.int .i64 R'.last)).setCell ⟨r, 5, none⟩ (.slice p4 L'.length c4)) := ⟨_, rfl⟩
         rw [← hwe] at HPT ⊢
         obtain ⟨Z5, S5, U5⟩ := HPT.out
         have HU5 := Lib.hid U5
         have HS5 := Lib.hid S5
         obtain ⟨pm, cm, hmv⟩ := S5.m.slice
         obtain ⟨n, hn⟩ : ∃ n, n = X.M.length := ⟨_, rfl⟩
         have hmv' : Z5.mv = .slice pm n cm := by rw [hn]; exact hmv
         have HM0 := Lib.hid (fun W (hW : Below we.heap.size we W) => (show OwK encM 99 3 W 0 (.slice pm n cm) X.M from by
          have h2 := (HS5.out.next hW).m
          rw [hmv'] at h2
          exact h2))
         have HN := Lib.hid hn
         have hMn : n ≤ 1000 := by rw [hn]; exact HM1.out
         obtain ⟨i0, hi0, hz0, hz1, hz2⟩ := info_parts madInfo
         have hba := (Below.refl we.heap.size we).alloc (Nat.le_refl _) (.cells #[] 99)
         have HBA := Lib.hid hba
         have hz := own_zeroM (Blk.new we 99 #[]) (Nat.le_refl _)
         have b7 := (S5.next hba).blk.at_ (i := 7) (v := Z5.mv) rfl
         rw [hmv'] at b7
         clear y0 y1 y2 y3 y4 y5 b0 b1 b2 b3 b4 b5 f0 f1 f2 f3 f4 f5 hwe S5 U5 hmv hmv' hn hba
         go_wp2_with (first
          | (at_builtin; refine list_app rfl (.tmp 82) (.tmp 86) 56 rfl we.heap.size 99 i0 (.agg #[.int .i64 0, .int .i64 0, .bool false]) 3 24 Tryz.underlying56 hi0 hz0 hz1 hz2 rfl (by decide) _ _ _ rfl hz 0 _ n _ rfl (by have := HM0.out _ HBA.out; unfold OwK at this; rw [← HN.out] at this; exact this) (flatM_one _) (by unfold maxLen; omega) (by omega) HBA.out.size ?_; intro v2 w2 ho2 hg2; have HR2 := Lib.hid (show OwK encM 99 3 w2 we.heap.size v2 X.M from by (have hh := ho2; rw [Nat.zero_add, List.nil_append, HN.out] at hh; exact hh)); have HB2 := Lib.hid (below_only HBA.out hg2 HBA.out.size (fun k hk => (World.ownsRow.lt hz k hk).1)); clear ho2 hg2)
          | (at_builtin; refine list_app rfl (.tmp 87) (.tmp 91) 56 rfl we.heap.size 99 i0 (.agg #[.int .i64 0, .int .i64 0, .bool false]) 3 24 Tryz.underlying56 hi0 hz0 hz1 hz2 rfl (by decide) _ _ _ rfl (World.ownsRow.alloc HR2.out _) _ _ _ _ rfl (own_oneM (v := ⟨id, a, false⟩) (Blk.new w2 99 #[.int .i64 id, .int .i64 a, .bool false])) (flatM_one _) (by unfold maxLen; have := HN.out; simp; omega) (by have := HN.out; simp; omega) (by have := HB2.out.size; simp; omega) ?_; intro v3 w3 ho3 hg3; have hr3 : OwK encM 99 3 w3 we.heap.size v3 (X.M ++ [⟨id, a, false⟩]) := (by unfold OwK; rw [List.length_append, List.flatMap_append]; exact ho3); have hb3 := below_only (HB2.out.alloc HB2.out.size _) hg3 (by have := HB2.out.size; simp; omega) (fun k hk => (HR2.out.lt hk).1); obtain ⟨p7, c7, hv3⟩ := hr3.slice; subst hv3; have hs7 := HS5.out.next hb3; have b7 := hs7.blk.at_ (i := 7) (v := Z5.mv) rfl; have f7 := hs7.blk.frozen 7; have HP := Lib.hid (HS5.out.putM hb3 (OwK.less hr3 (Nat.zero_le _))); clear ho3 hg3 hr3 hb3 hs7))
         go_ret2
         exact ⟨by rw [HYF.out]; rfl, by
          rw [HYF.out]
          have hq := RefTo.after HBF.out (RefTo.trans HU5.out HP.out)
          simp only [List.length_append, List.length_cons, List.length_nil, Nat.zero_add] at hq
          exact hq⟩
       · have he0 : (er == 0) = false := by simpa using he
         have HZ := Lib.hid (RefTo.after HB.out (RefTo.same HR.out (hb2.on HB1.out HB1.out.size)))
         have HYF := Lib.hid (show Y = (id, er, X) from HYE.out.trans (by rw [if_neg he]))
         clear hB hro hb2 hsf he
         go_wp2_with fail
         go_ret2
         exact ⟨by rw [HYF.out]; rfl, by rw [HYF.out]; exact HZ.out⟩
end
end Go.Proofs.YtnhchpiafchdgaaGreat
