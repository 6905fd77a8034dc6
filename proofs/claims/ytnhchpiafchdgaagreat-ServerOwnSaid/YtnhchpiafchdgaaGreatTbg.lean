/- Texts SwA. -/
import Derived.Test.YtnhchpiafchdgaaGreatTbf
import Derived.Test.YtnhchpiafchdgaaGreatTaa
namespace Go.Proofs.YtnhchpiafchdgaaGreat
open Go.RowKit Go.Shelf Go.Maps
section
variable {w w' w0 w1 w2 w3 : World} {s r : Nat} {Y : Yl} {Z : Zl} {X X' X1 : Xs} {k k' kd : Nat}
set_option maxRecDepth 100000 in
set_option maxHeartbeats 8000000 in
theorem own_w (va : Value) (As : List A8) (t : A8) (w : World) (hI : IsA8 w.heap.size w va As) (ht : t.ok) : Calls Tryz.prog 5 #[va, .agg ⟨t.cells⟩] w fun e w' => e = .returned (.bool true) ∧ Below w.heap.size w w' := by
 have HSH := Lib.hid (fun W => short8_c t W)
 have HT := Lib.hid ht
 obtain ⟨sh, hsh⟩ : ∃ b, b = t.short := ⟨_, rfl⟩
 rw [← hsh] at HSH
 obtain ⟨ac, q⟩ := t
 have HDO := Lib.hid (fun (W : World) (s : Nat) (Y : Yl) (X : Xs) (h : Srv W s Y X 40) (hV : V X 40) => do_c h hV (by omega) HT.out.actor q HT.out.win HT.out.other HT.out.name HT.out.typ)
 have HPU := Lib.hid (fun (X : Xs) (hV : V X 40) (h1 : 1 ≤ ac) (h2 : q.kind ≠ 2) (v : Win) (hv : v ∈ X.L) => own_pure hV (by omega) HT.out.actor h1 q HT.out.win HT.out.other h2 hv)
 have HVD := Lib.hid (fun (X : Xs) (hV : V X 40) => hV.done (by omega) HT.out.actor q HT.out.win HT.out.other)
 clear ht hsh
 obtain ⟨Q, hQ⟩ : ∃ Q, Q = q := ⟨_, rfl⟩
 have HQ := Lib.hid hQ
 rw [← hQ] at HDO HPU HVD
 clear hQ
 obtain ⟨ki, wi, ot, x, y, a, e, ⟨nm, ty, da⟩⟩ := q
 obtain ⟨wb, hwb⟩ : ∃ wb, wb = w.alloc (.cells #[.int .i64 ac, .int .i64 ki, .int .i64 wi, .int .i64 ot, .int .i64 x, .int .i64 y, .int .i64 a, .int .i64 e, .string nm, .string ty, .string da] 39) := ⟨_, rfl⟩
 have hbel : Below w.heap.size w wb := by rw [hwb]; exact (Below.refl _ _).alloc (Nat.le_refl _) _
 have hbx : Blk wb w.heap.size 39 #[.int .i64 ac, .int .i64 ki, .int .i64 wi, .int .i64 ot, .int .i64 x, .int .i64 y, .int .i64 a, .int .i64 e, .string nm, .string ty, .string da] := by rw [hwb]; exact Blk.new w _ _
 have HW := Lib.hid hwb
 have HBW := Lib.hid (And.intro hbel hbx)
 have HFI := Lib.hid (filled8_c wb va As ((hI.below hbel).wide hbel.size))
 have HAW := Lib.hid (fun W => awake8_c W)
 clear hbx hbel hI
 show Calls Tryz.prog 5 #[va, .agg #[.int .i64 ac, .int .i64 ki, .int .i64 wi, .int .i64 ot, .int .i64 x, .int .i64 y, .int .i64 a, .int .i64 e, .string nm, .string ty, .string da]] w _
 have HS1 := Lib.hid (show ∀ W, Calls Tryz.prog 12 #[.agg #[.int .i64 ac, .int .i64 ki, .int .i64 wi, .int .i64 ot, .int .i64 x, .int .i64 y, .int .i64 a, .int .i64 e, .string nm, .string ty, .string da]] W _ from HSH.out)
 clear HSH
 go_enter Tryz.func5, Tryz.ntmps5
 go_upto_region 1 with fail
 rw [← HW.out]
 clear hwb
 go_upto_region 4 with (go_at_call 19; ((with_reducible refine (HFI.out).mono ?_); rintro e w1 ⟨s, r, rfl, hst⟩); have HST := Lib.hid hst; clear hst)
 obtain ⟨X, Y, Z, hV, hB⟩ := HST.out
 have HV := Lib.hid hV
 have HB := Lib.hid hB
 have HWB := Lib.hid (hB.be.on HBW.out.1 HBW.out.1.size)
 obtain ⟨x0, x1, x2, x3, x4, x5, x6, x7, x8, x9, x10⟩ := (HBW.out.2.next hB.be).c11
 clear hV hB
 by_cases h1 : ac < 1
 · go_wp2_with (go_at_call 10; ((with_reducible refine (HAW.out _).mono ?_); rintro e w2 ⟨rfl, hW⟩); have HW2 := Lib.hid hW; clear hW)
   go_ret
   exact ⟨rfl, HW2.out.on HWB.out HWB.out.size⟩
 · cases sh with
   | false =>
    go_wp2_with (first
      | (go_at_call 12; ((with_reducible refine (HS1.out _).mono ?_); rintro e w3 ⟨rfl, hW⟩); have HW3 := Lib.hid hW; clear hW)
      | (go_at_call 10; ((with_reducible refine (HAW.out _).mono ?_); rintro e w2 ⟨rfl, hW⟩); have HW2 := Lib.hid (hW.on HW3.out HW3.out.size); clear hW))
    go_ret
    exact ⟨rfl, HW2.out.on HWB.out HWB.out.size⟩
   | true =>
    have HX := Lib.hid (fun (W : World) (hW : Below w1.heap.size w1 W) => ((HBW.out.2.next HB.out.be).next hW).c11)
    by_cases h20 : (20 : Int) ≤ ki
    · go_wp2_with (first
        | (go_at_call 12; ((with_reducible refine (HS1.out _).mono ?_); rintro e w3 ⟨rfl, hW⟩); have HW3 := Lib.hid hW; obtain ⟨y0, y1, y2, y3, y4, y5, y6, y7, y8, y9, y10⟩ := HX.out _ hW; clear hW)
        | (go_at_call 10; ((with_reducible refine (HAW.out _).mono ?_); rintro e w2 ⟨rfl, hW⟩); have HW2 := Lib.hid (hW.on HW3.out HW3.out.size); clear hW))
      go_ret
      exact ⟨rfl, HW2.out.on HWB.out HWB.out.size⟩
    · have h20' : decide ((20 : Int) ≤ ki) = false := decide_eq_false h20
      by_cases h2 : ki = 2
      · subst h2
        go_wp2_with (first
         | (go_at_call 12; ((with_reducible refine (HS1.out _).mono ?_); rintro e w3 ⟨rfl, hW⟩); have HW3 := Lib.hid hW; obtain ⟨y0, y1, y2, y3, y4, y5, y6, y7, y8, y9, y10⟩ := HX.out _ hW; clear hW)
         | (go_at_call 10; ((with_reducible refine (HAW.out _).mono ?_); rintro e w2 ⟨rfl, hW⟩); have HW2 := Lib.hid (hW.on HW3.out HW3.out.size); clear hW))
        go_ret
        exact ⟨rfl, HW2.out.on HWB.out HWB.out.size⟩
      · obtain ⟨XQ, hXQ⟩ : ∃ XQ, XQ = (X.do ac Q).2.2 := ⟨_, rfl⟩
        have HK := Lib.hid (HPU.out X HV.out (by omega) (by rw [HQ.out]; exact h2))
        have HSN := Lib.hid (HVD.out X HV.out).s
        rw [← hXQ] at HK HSN
        have HD2 := Lib.hid (fun (W : World) (hW : Below w1.heap.size w1 W) => (show Calls Tryz.prog 20 #[srvP s, .int .i64 ac, .agg #[.int .i64 ki, .int .i64 wi, .int .i64 ot, .int .i64 x, .int .i64 y, .int .i64 a, .int .i64 e, .string nm, .string ty, .string da]] W fun ex w' => (∃ v, ex = .returned v) ∧ ∃ Y', Bm wb s r Y' Z X XQ 41 w' from
         (show Calls Tryz.prog 20 #[srvP s, .int .i64 ac, .agg #[.int .i64 ki, .int .i64 wi, .int .i64 ot, .int .i64 x, .int .i64 y, .int .i64 a, .int .i64 e, .string nm, .string ty, .string da]] W (fun ex w' => ex = .returned (.tuple #[.int .i64 (X.do ac Q).1, .int .i64 (X.do ac Q).2.1]) ∧ SrvTo W s Y (X.do ac Q).2.2 (40 + 1) w') from by
           have hdo := HDO.out W s Y X (HB.out.next hW).c HV.out
           rw [show rqV Q = .agg #[.int .i64 ki, .int .i64 wi, .int .i64 ot, .int .i64 x, .int .i64 y, .int .i64 a, .int .i64 e, .string nm, .string ty, .string da] by rw [HQ.out]] at hdo
           exact hdo).mono fun ex w' hh => ⟨⟨_, hh.1⟩, by rw [hXQ]; exact (HB.out.next hW).codeg hh.2⟩))
        clear hXQ
        go_upto_region 8 with (first
         | (go_at_call 12; ((with_reducible refine (HS1.out _).mono ?_); rintro e w3 ⟨rfl, hW⟩); have HW3 := Lib.hid hW; obtain ⟨y0, y1, y2, y3, y4, y5, y6, y7, y8, y9, y10⟩ := HX.out _ hW; clear hW)
         | (go_at_call 20; ((with_reducible refine (HD2.out _ HW3.out).mono ?_); rintro e w4 ⟨⟨v, rfl⟩, hD⟩); have HD4 := Lib.hid hD; clear hD))
        obtain ⟨Y4, hB4⟩ := HD4.out
        have HB4 := Lib.hid hB4
        have HM1 := Lib.hid (show X.M.length ≤ 1048576 from Nat.le_trans HV.out.toV0.mlen (by decide))
        obtain ⟨pl, cl, hlv, hrow⟩ := RO.rd hB4.d.l
        obtain ⟨m, hm⟩ : ∃ m, m = X.L.length := ⟨_, rfl⟩
        rw [← hm] at hlv
        have hm1 : m ≤ 1000 := by rw [hm]; exact Nat.le_trans HV.out.s.len (by omega)
        have HLV := Lib.hid hlv
        have HROW := Lib.hid hrow
        have HMM := Lib.hid hm
        have HY := Lib.hid (fun (W : World) (hW : Below w4.heap.size w4 W) => (show W.cell? ⟨r, 5, none⟩ = some (.slice pl m cl) from by
         obtain ⟨-, -, -, -, -, b5, -⟩ := (HB4.out.next hW).d.blk.at11
         rw [HLV.out] at b5
         exact b5))
        have HX4 := Lib.hid (fun (W : World) (hW : Below w4.heap.size w4 W) => (HBW.out.2.next (hW.on HB4.out.be HB4.out.be.size)).c11)
        clear hB4 hlv hrow hm
        go_loopw [7] (fun z wr => ∃ j : Nat, j ≤ m ∧ z = .int .i64 j ∧ Below w4.heap.size w4 wr) (fun z _ => m - (intOf z).toNat)
        case atStart => exact ⟨0, Nat.zero_le _, rfl, Below.refl _ _⟩
        case round =>
         obtain ⟨j, hj, rfl, hbr⟩ := hrel
         have HR := Lib.hid hbr
         have y5 := HY.out wr hbr
         clear hbr
         have hj0 : (0 : Int) ≤ (j : Int) := by omega
         by_cases hlt : j < m
         · have hj1 : (j : Int) < (m : Int) := by omega
           obtain ⟨v, hv⟩ : ∃ v, X.L[j]? = some v := ⟨_, List.getElem?_eq_getElem (by rw [← HMM.out]; exact hlt)⟩
           obtain ⟨g, o, rfl, hgl, hc⟩ := HROW.out j v hv
           have hvm := List.mem_of_getElem? hv
           have hk2 := HK.out v hvm
           have hvi : I64 v.id := by
             have h3 := HV.out.s.pos v hvm
             have h4 := HV.out.s.last
             exact ⟨by omega, by omega⟩
           have hcell : ∀ (W : World), Below w4.heap.size w4 W → ∀ (i : Nat) (u : Value), (encW v)[i]? = some u → W.cell? ⟨g, o + j * 7 + i, none⟩ = some u := fun W hW i u hu => (hW.cell (p := ⟨g, o + j * 7 + i, none⟩) hgl).trans (hc i u hu)
           have hge := fun (W : World) (hW : Below w4.heap.size w4 W) => sget_c (HB4.out.next hW).c HSN.out hvi
           have how := fun (W : World) (hW : Below w4.heap.size w4 W) => rowner_c (HB4.out.next hW).d HM1.out v.id
           rw [hk2.1] at hge
           obtain ⟨ow, how1⟩ : ∃ ow, ow = ownM v.id X.M := ⟨_, rfl⟩
           rw [← how1] at how hk2
           obtain ⟨u, hu⟩ : ∃ u, u = winL XQ.R XQ.L v.id := ⟨_, rfl⟩
           rw [← hu] at hge hk2
           have HE := Lib.hid hk2.2
           clear hk2 how1 hu hv hvm hc
           obtain ⟨vi, vp, vx, vy, vw, vh, vo⟩ := v
           obtain ⟨ui, up, ux, uy, uw, uh, uo⟩ := u
           have c0 : wr.cell? ⟨g, o + j * 7, none⟩ = some (.int .i64 vi) := hcell wr HR.out 0 _ rfl
           have c1 : wr.cell? ⟨g, o + j * 7 + 1, none⟩ = some (.int .i64 vp) := hcell wr HR.out 1 _ rfl
           have c2 : wr.cell? ⟨g, o + j * 7 + 2, none⟩ = some (.int .i64 vx) := hcell wr HR.out 2 _ rfl
           have c3 : wr.cell? ⟨g, o + j * 7 + 3, none⟩ = some (.int .i64 vy) := hcell wr HR.out 3 _ rfl
           have c4 : wr.cell? ⟨g, o + j * 7 + 4, none⟩ = some (.int .i64 vw) := hcell wr HR.out 4 _ rfl
           have c5 : wr.cell? ⟨g, o + j * 7 + 5, none⟩ = some (.int .i64 vh) := hcell wr HR.out 5 _ rfl
           have c6 : wr.cell? ⟨g, o + j * 7 + 6, none⟩ = some (.bool vo) := hcell wr HR.out 6 _ rfl
           have HGE := Lib.hid hge
           have HOW := Lib.hid how
           clear hge how hcell hvi
           go_upto_region 11 with fail
           obtain ⟨wa, hwa⟩ : ∃ wa, wa = wr.alloc (.cells #[.int .i64 vi, .int .i64 vp, .int .i64 vx, .int .i64 vy, .int .i64 vw, .int .i64 vh, .bool vo] 61) := ⟨_, rfl⟩
           have hba : Below wr.heap.size wr wa := by rw [hwa]; exact (Below.refl _ _).alloc (Nat.le_refl _) _
           have hbk : Blk wa wr.heap.size 61 #[.int .i64 vi, .int .i64 vp, .int .i64 vx, .int .i64 vy, .int .i64 vw, .int .i64 vh, .bool vo] := by rw [hwa]; exact Blk.new wr _ _
           rw [← hwa]
           clear hwa c0 c1 c2 c3 c4 c5 c6 y5
           have HA := Lib.hid (And.intro hbk (hba.on HR.out HR.out.size))
           have c0 := hbk.at_ (i := 0) (v := .int .i64 vi) rfl
           clear hba hbk
           go_upto_region 12 with (go_at_call 21; ((with_reducible refine (HGE.out _ HA.out.2).mono ?_); rintro e w6 ⟨rfl, h6⟩); have HB6 := Lib.hid h6; clear h6)
           obtain ⟨w7, hw7⟩ : ∃ w7, w7 = w6.alloc (.cells #[.int .i64 ui, .int .i64 up, .int .i64 ux, .int .i64 uy, .int .i64 uw, .int .i64 uh, .bool uo] 61) := ⟨_, rfl⟩
           have hb7 : Below w6.heap.size w6 w7 := by rw [hw7]; exact (Below.refl _ _).alloc (Nat.le_refl _) _
           have hk7 : Blk w7 w6.heap.size 61 #[.int .i64 ui, .int .i64 up, .int .i64 ux, .int .i64 uy, .int .i64 uw, .int .i64 uh, .bool uo] := by rw [hw7]; exact Blk.new w6 _ _
           rw [← hw7]
           clear hw7
           have HA7 := Lib.hid (hb7.on (HB6.out.on HA.out.2 HA.out.2.size) (HB6.out.on HA.out.2 HA.out.2.size).size)
           have hkv := (HA.out.1.next HB6.out).next hb7
           have c0 := hkv.at_ (i := 0) (v := .int .i64 vi) rfl
           have c1 := hkv.at_ (i := 1) (v := .int .i64 vp) rfl
           have c2 := hkv.at_ (i := 2) (v := .int .i64 vx) rfl
           have c3 := hkv.at_ (i := 3) (v := .int .i64 vy) rfl
           have c4 := hkv.at_ (i := 4) (v := .int .i64 vw) rfl
           have c5 := hkv.at_ (i := 5) (v := .int .i64 vh) rfl
           have c6 := hkv.at_ (i := 6) (v := .bool vo) rfl
           have d0 := hk7.at_ (i := 0) (v := .int .i64 ui) rfl
           have d1 := hk7.at_ (i := 1) (v := .int .i64 up) rfl
           have d2 := hk7.at_ (i := 2) (v := .int .i64 ux) rfl
           have d3 := hk7.at_ (i := 3) (v := .int .i64 uy) rfl
           have d4 := hk7.at_ (i := 4) (v := .int .i64 uw) rfl
           have d5 := hk7.at_ (i := 5) (v := .int .i64 uh) rfl
           have d6 := hk7.at_ (i := 6) (v := .bool uo) rfl
           obtain ⟨z0, -⟩ := HX4.out w7 HA7.out
           clear hb7 hk7 hkv
           by_cases ho : ow = ac
           · go_quiet ((go_at_call 22; exact Calls.quiet_of_same ((HOW.out _ (below_drewN HA7.out _)).mono fun e w' h => ⟨h.1, h.2.symm⟩)))
             go_wp2_with fail
             go_roundw
             case rel => exact ⟨j + 1, by omega, by go_num, below_drewN HA7.out _⟩
             case measure => simp [intOf]; omega
           · have he := HE.out ho
             injection he with e1 e2 e3 e4 e5 e6 e7
             subst e1 e2 e3 e4 e5 e6 e7
             go_quiet ((go_at_call 22; exact Calls.quiet_of_same ((HOW.out _ (below_drewN HA7.out _)).mono fun e w' h => ⟨h.1, h.2.symm⟩)))
             go_wp2_with fail
             go_roundw
             case rel => exact ⟨j + 1, by omega, by go_num, below_drewN HA7.out _⟩
             case measure => simp [intOf]; omega
         · have hj1 : ¬ (j : Int) < (m : Int) := by omega
           go_wp2_with (go_at_call 10; ((with_reducible refine (HAW.out _).mono ?_); rintro e w2 ⟨rfl, hW⟩); have HW2 := Lib.hid (hW.on HR.out HR.out.size); clear hW)
           go_ret
           exact ⟨rfl, (HW2.out.on HB4.out.be HB4.out.be.size).on HBW.out.1 HBW.out.1.size⟩
end
end Go.Proofs.YtnhchpiafchdgaaGreat
