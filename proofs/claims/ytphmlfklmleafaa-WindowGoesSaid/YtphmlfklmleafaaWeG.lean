/- WindowGoes, walked. -/
import Derived.Test.YtphmlfklmleafaaWeF
import Derived.Test.YtphmlfklmleafaaWeI
import Derived.Test.YtphmlfklmleafaaWeD
namespace Go.Proofs.Ytphmlfklmleafaa
open Go.RowKit Go.Shelf Go.Maps
section
variable {R : RT} {L : List Win} {k : Nat}
theorem abs_step {nd : Int → Option Nd} {m : Nat} {c : Int} {d : Nd} (hd : nd c = some d) : IntKind.i64.wrap (IntKind.i64.wrap (absX nd m d.win.par) + d.win.x) = IntKind.i64.wrap (absX nd (m + 1) c) ∧ IntKind.i64.wrap (IntKind.i64.wrap (absY nd m d.win.par) + d.win.y) = IntKind.i64.wrap (absY nd (m + 1) c) := by
  rw [wrap_wrap, wrap_wrap]
  simp only [absX, absY, parOf, xOf, yOf, hd]
  exact ⟨trivial, trivial⟩
theorem way_par {nd : Int → Option Nd} {m : Nat} {c : Int} {d : Nd} (hw : Way nd m c) (hd : nd c = some d) (hc : c ≠ 0) : ∃ m', m = m' + 1 ∧ Way nd m' d.win.par := by
  cases m with
  | zero => exact absurd hw.1 hc
  | succ m =>
    obtain ⟨_, d', hd', hw'⟩ := hw
    rw [hd] at hd'
    injection hd' with hd'
    subst hd'
    exact ⟨m, rfl, hw'⟩
theorem moved_facts (S : Sane R L k) {v : Win} (hv : v ∈ L) {q x y : Int} (S' : Sane R (dropL v.id L ++ [movedW v q x y]) k) (hq : q ≠ v.id) :
    ∃ a1 a2 b1 b2 vb1 vb2 wu, Shown R (dropL v.id L ++ [movedW v q x y]) v.id (movedW v q x y) true b1 b2 true (kidsL L v.id) vb1 ∧ Shown R (dropL v.id L ++ [movedW v q x y]) q wu true a1 a2 true (kidsL (dropL v.id L ++ [movedW v q x y]) q) vb2 ∧
      (IntKind.i64.wrap (a1 + x) = b1 ∧ IntKind.i64.wrap (a2 + y) = b2) ∧
      ∀ c ∈ kidsL L v.id, ∃ cw c1 c2 ks vb, Shown R (dropL v.id L ++ [movedW v q x y]) c cw true c1 c2 true ks vb ∧ IntKind.i64.wrap (b1 + cw.x) = c1 ∧ IntKind.i64.wrap (b2 + cw.y) = c2 := by
  have hnv := moved_nd S hv S' hq
  have hn := S'.nums hnv
  have hvz : v.id ≠ 0 := by have := (S.pos v hv).1; omega
  have hm : movedW v q x y ∈ dropL v.id L ++ [movedW v q x y] := List.mem_append_right _ (List.mem_singleton.2 rfl)
  obtain ⟨dq, hdq⟩ := par_there S'.toGood hm
  have hdq' : ndL R (dropL v.id L ++ [movedW v q x y]) q = some dq := hdq
  have hnq := S'.nums hdq'
  obtain ⟨mv, hwv, hsv⟩ := shown_some S' (i := v.id) ⟨by omega, by omega⟩ hnv
  obtain ⟨mq, hwq, hsq⟩ := shown_some S' (i := q) ⟨by omega, by omega⟩ hdq'
  obtain ⟨m', rfl, hw'⟩ := way_par hwv hnv hvz
  have hmq : m' = mq := hw'.det hwq
  subst hmq
  have hkk : kidsL (dropL v.id L ++ [movedW v q x y]) v.id = kidsL L v.id := (ndL_some hnv).2.symm
  rw [hkk] at hsv
  have h0 := abs_step (m := m') hnv
  rw [show (⟨movedW v q x y, kidsL L v.id⟩ : Nd).win.par = q from rfl, show (⟨movedW v q x y, kidsL L v.id⟩ : Nd).win.x = x from rfl, show (⟨movedW v q x y, kidsL L v.id⟩ : Nd).win.y = y from rfl] at h0
  refine ⟨_, _, _, _, _, _, _, hsv, hsq, h0, fun c hc => ?_⟩
  rw [← hkk] at hc
  obtain ⟨u, hu, rfl, hp, hnu⟩ := kid_of S'.toGood hc
  have hnn := S'.nums hnu
  obtain ⟨mu, hwu, hsu⟩ := shown_some S' (i := u.id) ⟨by omega, by omega⟩ hnu
  have hmu := hwu.det (S'.toGood.kid_way hwv hc)
  subst hmu
  have h := abs_step (m := m' + 1) hnu
  rw [show (⟨u, kidsL (dropL v.id L ++ [movedW v q x y]) u.id⟩ : Nd).win.par = v.id from hp] at h
  exact ⟨_, _, _, _, _, hsu, h⟩
end
set_option maxRecDepth 100000 in
set_option maxHeartbeats 8000000 in
theorem goes_w (w : World) (va : Value) (As : List Ac) (hI : IsActs w.heap.size w va As) (z1 z2 : Int) (hz1 : 0 ≤ z1 ∧ z1 < 18446744073709551616) (hz2 : 0 ≤ z2 ∧ z2 < 18446744073709551616) (x y : Int) : Calls Try.prog 6 #[va, .int .u64 z1, .int .u64 z2, .agg #[.int .i64 x, .int .i64 y]] w fun e w' => e = .returned (.bool true) ∧ Below w.heap.size w w' := by
  obtain ⟨wb, hwb⟩ : ∃ wb, wb = w.alloc (.cells #[.int .i64 x, .int .i64 y] 26) := ⟨_, rfl⟩
  have hbel : Below w.heap.size w wb := by rw [hwb]; exact (Below.refl _ _).alloc (Nat.le_refl _) _
  have hbP : Blk wb w.heap.size 26 #[.int .i64 x, .int .i64 y] := by rw [hwb]; exact Blk.new w _ _
  have HP := Lib.hid (fun W (hW : Below wb.heap.size wb W) => (hbP.next hW).c2.1)
  have HF := Lib.hid (filled_c wb va As (hI.grow hbel))
  have HA := Lib.hid (fun W => awake_c W)
  have HZ := Lib.hid (And.intro hz1 hz2)
  have HBE := Lib.hid hbel
  have HW := Lib.hid hwb
  clear hbel hbP hI hz1 hz2
  go_enter Try.func6, Try.ntmps6
  go_upto_region 1 with fail
  rw [← HW.out]
  clear hwb
  go_upto_region 2 with (go_at_call 17; ((with_reducible refine (HF.out).mono ?_); rintro e w1 ⟨t, rb, rfl, R, L, hR, hS, hB⟩); have HS := Lib.hid hS; have HB := Lib.hid hB; clear hR hS hB)
  obtain ⟨pl, cl, x5, hcl⟩ := HB.out.li.cells
  have HCL := Lib.hid hcl
  obtain ⟨n, hn⟩ : ∃ n, n = L.length := ⟨_, rfl⟩
  have HN := Lib.hid hn
  rw [← hn] at x5
  have hn40 : n ≤ 40 := by have := HS.out.len; omega
  clear hcl hn
  by_cases hn0 : n = 0
  · subst hn0
    go_wp2_with (go_at_call 11; ((with_reducible refine (HA.out _).mono ?_); rintro e w5 ⟨rfl, hb5⟩); have HB5 := Lib.hid hb5; clear hb5)
    go_ret
    exact ⟨rfl, HB5.out.on (HB.out.below.on HBE.out HBE.out.size) (Nat.le_trans HBE.out.size HB.out.below.size)⟩
  · obtain ⟨kj, hkj, hmod⟩ := which_in HZ.out.1.1 (Nat.pos_of_ne_zero hn0)
    obtain ⟨ku, hku, hmod2⟩ := which_in HZ.out.2.1 (Nat.pos_of_ne_zero hn0)
    have hn1 : ((n : Int) == 0) = false := by simpa using hn0
    have hw0 : IntKind.u64.wrap (n : Int) = (n : Int) := IntWalk.u64_in _ (by omega)
    have hw1 : IntKind.u64.wrap (kj : Int) = (kj : Int) := IntWalk.u64_in _ (by omega)
    have hw2 : IntKind.u64.wrap (ku : Int) = (ku : Int) := IntWalk.u64_in _ (by omega)
    obtain ⟨v, hv⟩ : ∃ v, L[kj]? = some v := ⟨_, List.getElem?_eq_getElem (by rw [← HN.out]; exact hkj)⟩
    obtain ⟨u, hu⟩ : ∃ u, L[ku]? = some u := ⟨_, List.getElem?_eq_getElem (by rw [← HN.out]; exact hku)⟩
    obtain ⟨b, o, rfl, r0, -⟩ := HCL.out kj v hv
    obtain ⟨b', o', e', s0, -⟩ := HCL.out ku u hu
    injection e' with e'
    injection e' with e1 e2 _
    subst e1; subst e2
    have k0 : (0 : Int) ≤ (kj : Int) := by omega
    have k1 : (kj : Int) < (n : Int) := by omega
    have k2 : (0 : Int) ≤ (ku : Int) := by omega
    have k3 : (ku : Int) < (n : Int) := by omega
    have hvm := List.mem_of_getElem? hv
    have hum := List.mem_of_getElem? hu
    have hvn := HS.out.nums (nd_of HS.out.uniq hvm)
    have HK := Lib.hid (fun q => Co.kids2 HS.out (HB.out.co.next (below_drewN (Below.refl _ w1) q)) (i := v.id) ⟨by omega, by omega⟩ (nd_of HS.out.uniq hvm))
    obtain ⟨err, L', hS', hif, hcc⟩ := repar_some HS.out hvm (nd_of HS.out.uniq hum) x y
    have HCC := Lib.hid hcc
    have HVM := Lib.hid hvm
    have HIF := Lib.hid hif
    have HS' := Lib.hid hS'
    have hkl := HS.out.kids _ _ (nd_of HS.out.uniq hvm)
    have HKL := Lib.hid (show (kidsL L v.id).length ≤ 4096 from hkl)
    clear hv hu hvm hum hvn hS' hif hcc hkl
    go_upto_region 6 with fail
    go_quiet (fail)
    go_upto_region 7 with fail
    go_quiet (fail)
    clear hmod hmod2 hw0 hw1 hw2 r0 s0 x5
    go_upto_region 9 with (go_at_call 18; ((with_reducible refine (HK.out _).mono ?_); rintro e w3 ⟨gv, rfl, hok, hbk⟩); have HGO := Lib.hid (Bo.goes HCC.out (HB.out.next (below_drewN (Below.refl _ w1) _)) hbk hok); have HB3 := Lib.hid ((HB.out.next (below_drewN (Below.refl _ w1) _)).next hbk); clear hok hbk)
    obtain ⟨x0, x1⟩ := HP.out w3 HB3.out.below
    by_cases he : err = 0
    · subst he
      obtain ⟨hL, hq⟩ := HIF.out rfl
      subst hL
      obtain ⟨a1, a2, b1, b2, vb1, vb2, wu, hsv, hsq, ⟨f1, f2⟩, hkid⟩ := moved_facts HS.out HVM.out HS'.out hq
      obtain ⟨ys, hys⟩ := moved_kids (L := L) (v := v) (q := u.id) (x := x) (y := y)
      rw [hys] at hsq
      have hyl : (ys ++ [v.id]).length ≤ 4096 := by
        have h := kidsL_len u.id (dropL v.id L ++ [movedW v u.id x y]) (dropL v.id L ++ [movedW v u.id x y]).length
        rw [List.take_length, hys] at h
        have := HS'.out.len; omega
      have HYS := Lib.hid hyl
      have hsv' : Shown R (dropL v.id L ++ [movedW v u.id x y]) v.id ⟨v.id, u.id, x, y, v.w, v.h, v.on⟩ true b1 b2 true (kidsL L v.id) vb1 := hsv
      obtain ⟨LL, hLL⟩ : ∃ LL, LL = dropL v.id L ++ [movedW v u.id x y] := ⟨_, rfl⟩
      rw [← hLL] at hsv' hsq hkid HGO
      have HSV := Lib.hid hsv'
      have HSQ := Lib.hid hsq
      have HKID := Lib.hid hkid
      obtain ⟨ks, hks⟩ : ∃ ks, ks = kidsL L v.id := ⟨_, rfl⟩
      rw [← hks] at HSV HKID HGO HKL
      have f3 : wrap64 (a1 + x) = b1 := (IntWalk.i64_left _).symm.trans f1
      have f4 : wrap64 (a2 + y) = b2 := (IntWalk.i64_left _).symm.trans f2
      clear hq hsv hsv' hsq hkid hLL hks hys hyl
      go_upto_region 11 with (go_at_call 21; ((with_reducible refine (HGO.out).mono ?_); rintro e w4 ⟨rfl, hco, hrd⟩); have HC4 := Lib.hid hco; have HRD := Lib.hid hrd; clear hco hrd)
      clear x0 x1
      go_upto_region 12 with (go_at_call 19; ((with_reducible refine (Co.get HC4.out HSV.out).mono ?_); rintro e w5 ⟨rfl, hb0⟩); have B5 := Lib.hid hb0; clear hb0)
      have hx := Blk.new w5 50 #[.int .i64 v.id, .int .i64 u.id, .int .i64 x, .int .i64 y, .int .i64 v.w, .int .i64 v.h, .bool v.on]
      have hb := B5.out.alloc B5.out.size (.cells #[.int .i64 v.id, .int .i64 u.id, .int .i64 x, .int .i64 y, .int .i64 v.w, .int .i64 v.h, .bool v.on] 50)
      obtain ⟨g5, hg⟩ : ∃ g, g = w5.heap.size := ⟨_, rfl⟩
      rw [← hg] at hx ⊢
      clear hg
      generalize w5.alloc (.cells #[.int .i64 v.id, .int .i64 u.id, .int .i64 x, .int .i64 y, .int .i64 v.w, .int .i64 v.h, .bool v.on] 50) = w6 at hx hb ⊢
      have X6 := Lib.hid hx
      have B6 := Lib.hid hb
      clear hx hb
      have C6 := Lib.hid (HC4.out.next B6.out)
      go_upto_region 13 with (go_at_call 22; ((with_reducible refine (Co.abs C6.out HSQ.out).mono ?_); rintro e w7 ⟨rfl, hb0⟩); have B7 := Lib.hid hb0; clear hb0)
      have hx := Blk.new w7 26 #[.int .i64 a1, .int .i64 a2]
      have hb := B7.out.alloc B7.out.size (.cells #[.int .i64 a1, .int .i64 a2] 26)
      obtain ⟨g7, hg⟩ : ∃ g, g = w7.heap.size := ⟨_, rfl⟩
      rw [← hg] at hx ⊢
      clear hg
      generalize w7.alloc (.cells #[.int .i64 a1, .int .i64 a2] 26) = w8 at hx hb ⊢
      have X8 := Lib.hid hx
      have B8 := Lib.hid hb
      clear hx hb
      have C8 := Lib.hid (C6.out.next B8.out)
      go_upto_region 14 with (go_at_call 22; ((with_reducible refine (Co.abs C8.out HSV.out).mono ?_); rintro e w9 ⟨rfl, hb0⟩); have B9 := Lib.hid hb0; clear hb0)
      have hx := Blk.new w9 26 #[.int .i64 b1, .int .i64 b2]
      have hb := B9.out.alloc B9.out.size (.cells #[.int .i64 b1, .int .i64 b2] 26)
      obtain ⟨g9, hg⟩ : ∃ g, g = w9.heap.size := ⟨_, rfl⟩
      rw [← hg] at hx ⊢
      clear hg
      generalize w9.alloc (.cells #[.int .i64 b1, .int .i64 b2] 26) = w10 at hx hb ⊢
      have X10 := Lib.hid hx
      have B10 := Lib.hid hb
      clear hx hb
      have C10 := Lib.hid (C8.out.next B10.out)
      go_upto_region 15 with (go_at_call 18; ((with_reducible refine (Co.kids C10.out HSQ.out).mono ?_); rintro e w11 ⟨qv, rfl, hrq, hb0⟩); have B11 := Lib.hid hb0; have HRQ := Lib.hid hrq; clear hb0 hrq)
      have T8 := Lib.hid (B11.out.on B10.out B10.out.size)
      have T6 := Lib.hid (T8.out.on B8.out B8.out.size)
      have T4 := Lib.hid (T6.out.on B6.out B6.out.size)
      have C11 := Lib.hid (C10.out.next B11.out)
      obtain ⟨pk, ck, hgv, hck⟩ := HRD.out.next T4.out
      obtain ⟨pq, cq, hqv, hcq⟩ := HRQ.out
      obtain ⟨g1, hg1⟩ : ∃ g1, g1 = ys.length := ⟨_, rfl⟩
      obtain ⟨g, hg⟩ : ∃ g, g = (ys ++ [v.id]).length := ⟨_, rfl⟩
      obtain ⟨nk, hnk⟩ : ∃ nk, nk = ks.length := ⟨_, rfl⟩
      rw [← hg] at hqv
      rw [← hnk] at hgv
      subst hgv
      subst hqv
      obtain ⟨gq, rfl, l1⟩ := hcq g1 v.id (by rw [hg1]; simp)
      have HCK := Lib.hid hck
      have hgg : g = g1 + 1 := by rw [hg, hg1]; simp
      have hlq := HYS.out
      rw [← hg] at hlq
      have e1 : IntKind.i64.wrap ((g : Int) - 1) = (g1 : Int) := by rw [IntWalk.i64_in _ (by omega)]; omega
      have e1' : (g : Int) - 1 = (g1 : Int) := by omega
      have e3 : ((g : Int) == 0) = false := by simpa using (show g ≠ 0 by omega)
      have e4 : (g1 : Int) < (g : Int) := by omega
      have e5 : (0 : Int) ≤ (g1 : Int) := by omega
      have e6 : (0 : Int) ≤ (g : Int) := by omega
      have e7 : (g : Int) ≤ 1000000 := by omega
      have HNK := Lib.hid hnk
      have hnk4 : nk ≤ 4096 := by rw [hnk]; exact HKL.out
      have HINT := Lib.hid (fun W (hW : Below w11.heap.size w11 W) va (ha : RdI W va ks) => ints_same (.slice pk nk ck) va ks W (by rw [hnk]; exact ⟨pk, ck, rfl, fun j x hx => by obtain ⟨g', h1, h2⟩ := hck j x hx; exact ⟨g', h1, (hW.cell (World.block_lt_of_cell? _ _ h2)).trans h2⟩⟩) ha (by have := HKL.out; omega))
      clear hck hcq hg hg1 hgg hlq hnk
      have z0 := (X6.out.next T6.out).c7.1
      obtain ⟨z0, z1, z2, z3, z4, z5, z6⟩ := z0
      obtain ⟨y0, y1⟩ := (X8.out.next T8.out).c2.1
      obtain ⟨q0, q1⟩ := (X10.out.next B11.out).c2.1
      obtain ⟨x0, x1⟩ := HP.out w11 C11.out.below
      have e8 : (b1 == b1) = true := by simp
      have e9 : (b2 == b2) = true := by simp
      go_upto_region 17 with (first
        | (go_at_call 18; go_loud ((with_reducible refine (Co.kids C11.out HSV.out).mono ?_); rintro e w12 ⟨kv, rfl, hrk, hb0⟩; have B12 := Lib.hid hb0; have HRK := Lib.hid hrk; clear hb0 hrk))
        | (go_at_call 23; go_loud ((with_reducible refine (HINT.out _ B12.out _ HRK.out).mono ?_); rintro e w13 ⟨rfl, hb0⟩; have B13 := Lib.hid (hb0.on B12.out B12.out.size); clear hb0)))
      clear z0 z1 z2 z3 z4 z5 z6 y0 y1 q0 q1 x0 x1 l1 e1 e1' e3 e4 e5 e6 e7
      go_wp2_with fail
      go_loopw [21] (fun y21 wr => ∃ i : Nat, i ≤ nk ∧ y21 = .int .i64 i ∧ Below w13.heap.size w13 wr) (fun y21 _ => nk - (intOf y21).toNat)
      case atStart => exact ⟨0, Nat.zero_le _, rfl, Below.refl _ _⟩
      case round =>
        obtain ⟨i, hi, rfl, hbr⟩ := hrel
        have HBR := Lib.hid (hbr.on B13.out B13.out.size)
        have i0 : (0 : Int) ≤ (i : Int) := by omega
        have HR13 := Lib.hid hbr
        clear hbr
        by_cases hlt : i < nk
        · obtain ⟨c, hc⟩ : ∃ c, ks[i]? = some c := ⟨_, List.getElem?_eq_getElem (by rw [← HNK.out]; exact hlt)⟩
          have i1 : (i : Int) < (nk : Int) := by omega
          obtain ⟨gk, rfl, hck⟩ := HCK.out i c hc
          obtain ⟨cw, c1, c2, ks2, vb, hs, h1, h2⟩ := HKID.out c (List.mem_of_getElem? hc)
          have HSH := Lib.hid hs
          have hc0 := (HBR.out.cell (World.block_lt_of_cell? _ _ hck)).trans hck
          have HCK1 := Lib.hid (fun W (hW : Below w11.heap.size w11 W) => (hW.cell (World.block_lt_of_cell? _ _ hck)).trans hck)
          have HE := Lib.hid (And.intro h1 h2)
          clear hc hs hck h1 h2
          obtain ⟨cid, cpar, cx, cy, cww, ch, con⟩ := cw
          have CR := Lib.hid (C11.out.next HBR.out)
          go_upto_region 21 with (go_at_call 19; ((with_reducible refine (Co.get CR.out HSH.out).mono ?_); rintro e w14 ⟨rfl, hb0⟩); have B14 := Lib.hid hb0; clear hb0)
          have hx := Blk.new w14 50 #[.int .i64 cid, .int .i64 cpar, .int .i64 cx, .int .i64 cy, .int .i64 cww, .int .i64 ch, .bool con]
          have hb := B14.out.alloc B14.out.size (.cells #[.int .i64 cid, .int .i64 cpar, .int .i64 cx, .int .i64 cy, .int .i64 cww, .int .i64 ch, .bool con] 50)
          obtain ⟨g14, hg⟩ : ∃ g, g = w14.heap.size := ⟨_, rfl⟩
          rw [← hg] at hx ⊢
          clear hg
          generalize w14.alloc (.cells #[.int .i64 cid, .int .i64 cpar, .int .i64 cx, .int .i64 cy, .int .i64 cww, .int .i64 ch, .bool con] 50) = w15 at hx hb ⊢
          have X15 := Lib.hid hx
          have B15 := Lib.hid hb
          clear hx hb
          have C15 := Lib.hid (CR.out.next B15.out)
          have E15 := Lib.hid (B15.out.on HBR.out HBR.out.size)
          clear hc0
          have hc0 := HCK1.out _ E15.out
          go_upto_region 22 with (go_at_call 22; ((with_reducible refine (Co.abs C15.out HSH.out).mono ?_); rintro e w16 ⟨rfl, hb0⟩); have B16 := Lib.hid hb0; clear hb0)
          have hx := Blk.new w16 26 #[.int .i64 c1, .int .i64 c2]
          have hb := B16.out.alloc B16.out.size (.cells #[.int .i64 c1, .int .i64 c2] 26)
          obtain ⟨g16, hg⟩ : ∃ g, g = w16.heap.size := ⟨_, rfl⟩
          rw [← hg] at hx ⊢
          clear hg
          generalize w16.alloc (.cells #[.int .i64 c1, .int .i64 c2] 26) = w17 at hx hb ⊢
          have X17 := Lib.hid hx
          have B17 := Lib.hid hb
          clear hx hb
          have E17 := Lib.hid (B17.out.on E15.out E15.out.size)
          obtain ⟨q0, q1⟩ := (X10.out.next (E17.out.on B11.out B11.out.size)).c2.1
          obtain ⟨v0, v1, v2, v3, v4, v5, v6⟩ := (X15.out.next B17.out).c7.1
          obtain ⟨s0, s1⟩ := X17.out.c2.1
          have h3 : IntKind.i64.wrap (b1 + cx) = c1 := HE.out.1
          have h4 : IntKind.i64.wrap (b2 + cy) = c2 := HE.out.2
          have h5 : wrap64 (b1 + cx) = c1 := (IntWalk.i64_left _).symm.trans HE.out.1
          have h6 : wrap64 (b2 + cy) = c2 := (IntWalk.i64_left _).symm.trans HE.out.2
          have e10 : (c1 == c1) = true := by simp
          have e11 : (c2 == c2) = true := by simp
          go_wp2_with fail
          go_roundw
          case rel => exact ⟨i + 1, by omega, by go_num, B17.out.on (B15.out.on HR13.out HR13.out.size) (B15.out.on HR13.out HR13.out.size).size⟩
          case measure => simp [intOf]; omega
        · have i1 : ¬ (i : Int) < (nk : Int) := by omega
          go_wp2_with (go_at_call 11; ((with_reducible refine (HA.out _).mono ?_); rintro e w20 ⟨rfl, hb5⟩); have HB5 := Lib.hid hb5; clear hb5)
          go_ret
          have CE := C11.out.next HBR.out
          exact ⟨rfl, HB5.out.on (CE.below.on HBE.out HBE.out.size) (Nat.le_trans HBE.out.size CE.below.size)⟩
    · have he1 : (err == 0) = false := by simpa using he
      have he2 : (err != 0) = true := by simp [bne, he1]
      clear he
      go_wp2_with (first
        | (go_at_call 21; ((with_reducible refine (HGO.out).mono ?_); rintro e w4 ⟨rfl, hco, hrd⟩); have HC4 := Lib.hid hco; clear hco hrd)
        | (go_at_call 11; ((with_reducible refine (HA.out _).mono ?_); rintro e w5 ⟨rfl, hb5⟩); have HB5 := Lib.hid hb5; clear hb5))
      go_ret
      exact ⟨rfl, HB5.out.on (HC4.out.below.on HBE.out HBE.out.size) (Nat.le_trans HBE.out.size HC4.out.below.size)⟩
theorem goes_t (va : Value) (As : List Ac) (z1 z2 x y : Int) (w : World) (hI : IsActs w.heap.size w va As) (hw1 : (Lit.int .u64 z1).wf = true) (hw2 : (Lit.int .u64 z2).wf = true) : Calls Try.prog 6 #[va, .int .u64 z1, .int .u64 z2, .agg #[.int .i64 x, .int .i64 y]] w fun e w' => e = .returned (.bool true) ∧ Below w.heap.size w w' := goes_w w va As hI z1 z2 (IsActs.lit hw1 rfl) (IsActs.lit hw2 rfl) x y
end Go.Proofs.Ytphmlfklmleafaa
