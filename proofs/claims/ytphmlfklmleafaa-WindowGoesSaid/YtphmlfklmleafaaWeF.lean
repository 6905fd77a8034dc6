/- WindowEnds, walked. -/
import Derived.Test.YtphmlfklmleafaaWeE
import Derived.Test.YtphmlfklmleafaaWeT
import Derived.Test.YtphmlfklmleafaaWeC
import Derived.Deep.RegionHeld3
namespace Go.Proofs.Ytphmlfklmleafaa
open Go.RowKit Go.Shelf Go.Maps
theorem IsActs.lit {k : IntKind} {z : Int} (h : (Lit.int k z).wf = true) (hk : k = .u64) : 0 ≤ z ∧ z < 18446744073709551616 := by
  subst hk
  simp [Lit.wf, IntKind.min, IntKind.max, IntKind.signed, IntKind.bits] at h
  omega
/-- A place of the list, by a number: which % uint(len(l)). -/
theorem which_in {z : Int} (hz : 0 ≤ z) {n : Nat} (hn : 0 < n) : ∃ j : Nat, j < n ∧ z.tmod n = (j : Int) := by
  refine ⟨z.toNat % n, Nat.mod_lt _ hn, ?_⟩
  obtain ⟨m, rfl⟩ := Int.eq_ofNat_of_zero_le hz
  rw [Int.toNat_natCast]
  exact Int.ofNat_tmod m n
section
variable {R : RT} {L : List Win} {k : Nat}
/-- What is shown of each window behind a Destroy. -/
theorem gone_shown (S : Sane R L k) {v : Win} (_hv : v ∈ L) (S' : Sane R (dropAll (goneL R L v) L) k) {u : Win} (hu : u ∈ L) :
    (u.id ∈ goneL R L v ∧ ∃ vv px py th ks vb, Shown R (dropAll (goneL R L v) L) u.id vv false px py th ks vb) ∨ (u.id ∉ goneL R L v ∧ ∃ px py th ks vb, Shown R (dropAll (goneL R L v) L) u.id u true px py th ks vb) := by
  have hn := S.nums (nd_of S.uniq hu)
  have hp := (S.pos u hu).1
  by_cases hm : u.id ∈ goneL R L v
  · refine .inl ⟨hm, _, _, _, _, _, _, shown_none S' ⟨by omega, by omega⟩ ?_⟩
    cases hd : ndL R (dropAll (goneL R L v) L) u.id with
    | none => rfl
    | some d =>
      obtain ⟨h1, h2⟩ := getR_some (ndL_some hd).1
      rcases h2 with ⟨h2, _⟩ | ⟨_, h2⟩
      · omega
      · exact absurd (by rw [h1]; exact hm) ((dropAll_mem _).1 h2).2
  · have hu' : u ∈ dropAll (goneL R L v) L := (dropAll_mem _).2 ⟨hu, hm⟩
    obtain ⟨m, _, hs⟩ := shown_some S' (i := u.id) ⟨by omega, by omega⟩ (nd_of S'.uniq hu')
    exact .inr ⟨hm, _, _, _, _, _, hs⟩
end
set_option maxRecDepth 100000 in
set_option maxHeartbeats 4000000 in
theorem ends_w (w : World) (va : Value) (As : List Ac) (hI : IsActs w.heap.size w va As) (z : Int) (hz : 0 ≤ z ∧ z < 18446744073709551616) : Calls Try.prog 5 #[va, .int .u64 z] w fun e w' => e = .returned (.bool true) ∧ Below w.heap.size w w' := by
  have HF := Lib.hid (filled_c w va As hI)
  have HA := Lib.hid (fun W => awake_c W)
  have HZ := Lib.hid hz
  clear hI hz
  go_enter Try.func5, Try.ntmps5
  go_upto_region 2 with (go_at_call 17; ((with_reducible refine (HF.out).mono ?_); rintro e w1 ⟨t, rb, rfl, R, L, hR, hS, hB⟩); have HS := Lib.hid hS; have HB := Lib.hid hB; clear hR hS hB)
  obtain ⟨pl, cl, x5, hcl⟩ := HB.out.li.cells
  have HCL := Lib.hid hcl
  obtain ⟨n, hn⟩ : ∃ n, n = L.length := ⟨_, rfl⟩
  have HN := Lib.hid hn
  rw [← hn] at x5
  have hn40 : n ≤ 40 := by have := HS.out.len; omega
  clear hcl hn
  by_cases hn0 : n = 0
  · subst hn0
    go_wp2_with (go_at_call 11; ((with_reducible refine (HA.out _).mono ?_); rintro e w5 ⟨rfl, hb5⟩); have HB5 := Lib.hid hb5; clear hb5)
    go_ret
    exact ⟨rfl, HB5.out.on HB.out.below HB.out.below.size⟩
  · obtain ⟨kj, hkj, hmod⟩ := which_in HZ.out.1 (Nat.pos_of_ne_zero hn0)
    have hn1 : ((n : Int) == 0) = false := by simpa using hn0
    have hw0 : IntKind.u64.wrap (n : Int) = (n : Int) := IntWalk.u64_in _ (by omega)
    have hmod' : IntKind.u64.wrap (kj : Int) = (kj : Int) := IntWalk.u64_in _ (by omega)
    obtain ⟨v, hv⟩ : ∃ v, L[kj]? = some v := ⟨_, List.getElem?_eq_getElem (by rw [← HN.out]; exact hkj)⟩
    obtain ⟨b, o, rfl, r0, -⟩ := HCL.out kj v hv
    have k0 : (0 : Int) ≤ (kj : Int) := by omega
    have k1 : (kj : Int) < (n : Int) := by omega
    go_upto_region 6 with fail
    go_quiet (fail)
    have hvm := List.mem_of_getElem? hv
    have hends := Bo.ends HS.out (HB.out.next (below_drewN (Below.refl _ w1) nq)) hvm
    have HE := Lib.hid hends.2
    have HS' := Lib.hid hends.1
    have HVM := Lib.hid hvm
    obtain ⟨gs, hgs⟩ : ∃ gs, gs = goneL R L v := ⟨_, rfl⟩
    obtain ⟨ys, hys⟩ := gone_last R (nd_of HS.out.uniq hvm)
    obtain ⟨_, -, -, -, -, hgl⟩ := gone_facts HS.out hvm
    rw [← hgs] at HE hys hgl HS'
    obtain ⟨nl, hnl⟩ : ∃ nl, nl = (dropAll gs L).length := ⟨_, rfl⟩
    rw [← hnl, ← HN.out] at hgl
    obtain ⟨g1, hg1⟩ : ∃ g1, g1 = ys.length := ⟨_, rfl⟩
    obtain ⟨g, hg⟩ : ∃ g, g = gs.length := ⟨_, rfl⟩
    have hgg : g = g1 + 1 := by rw [hg, hys, hg1]; simp
    have hlast : gs[g1]? = some v.id := by rw [hys, hg1]; simp
    rw [← hg] at hgl
    have HGS := Lib.hid (And.intro hgs (And.intro hg hlast))
    have HNL := Lib.hid hnl
    have HGG := Lib.hid (And.intro hgg hgl)
    clear hgg hgl hv hvm hends hgs hys hg hlast hg1 hnl hmod hmod' hw0 r0
    go_upto_region 8 with (go_at_call 20; ((with_reducible refine (HE.out).mono ?_); rintro e w2 ⟨gv, rfl, hrd, hco, hli⟩); obtain ⟨pg, cg, rfl, hcg⟩ := hrd; rw [← HGS.out.2.1]; have HCG := Lib.hid hcg; have HCO := Lib.hid hco; have HLI := Lib.hid hli; clear hcg hco hli)
    obtain ⟨gb, rfl, r1⟩ := HCG.out g1 v.id HGS.out.2.2
    have HLEN := Lib.hid (fun q => Co.len HS'.out (HCO.out.next (below_drewN (Below.refl _ w2) q)))
    rw [← HNL.out] at HLEN
    obtain ⟨p2, c2, x5, hcl2⟩ := HLI.out.cells
    rw [← HN.out] at x5
    have HCL2 := Lib.hid hcl2
    have e1 : IntKind.i64.wrap ((g : Int) - 1) = (g1 : Int) := by rw [IntWalk.i64_in _ (by have := HGG.out; omega)]; have := HGG.out; omega
    have e2 : IntKind.i64.wrap ((n : Int) - (g : Int)) = (nl : Int) := by rw [IntWalk.i64_in _ (by have := HGG.out; omega)]; have := HGG.out; omega
    have e3 : ((g : Int) == 0) = false := by simpa using (show g ≠ 0 by have := HGG.out; omega)
    have e4 : (g1 : Int) < (g : Int) := by have := HGG.out; omega
    have e5 : (0 : Int) ≤ (g1 : Int) := by omega
    have hg40 : g ≤ 40 := by have := HGG.out; omega
    clear hcl2
    go_quiet ((go_at_call 13; exact Calls.quiet_of_same ((HLEN.out _).mono fun e w' h => ⟨h.1, h.2.symm⟩)))
    have HGC := Lib.hid (fun (r : Nat) (x : Int) (hx : gs[r]? = some x) (W : World) (hW : Below w2.heap.size w2 W) => (show W.cell? ⟨gb, r, none⟩ = some (.int .i64 x) from by
      obtain ⟨g', e, hc⟩ := HCG.out r x hx
      injection e with e; injection e with e _ _
      subst e
      exact (hW.cell (World.block_lt_of_cell? _ _ hc)).trans hc))
    clear r1 x5 e1 e2 e3 e4 e5
    go_wp2_with fail
    go_loopw [10] (fun y10 wr => ∃ i : Nat, i ≤ n ∧ y10 = .int .i64 i ∧ Below w2.heap.size w2 wr) (fun y10 _ => n - (intOf y10).toNat)
    case atStart => exact ⟨0, Nat.zero_le _, rfl, below_drewN (Below.refl _ w2) nq⟩
    case round =>
      obtain ⟨i, hi, rfl, hbr⟩ := hrel
      have HBR := Lib.hid hbr
      obtain ⟨p3, c3, y5, hcl3⟩ := (HLI.out.next hbr).cells
      rw [← HN.out] at y5
      have i0 : (0 : Int) ≤ (i : Int) := by omega
      clear hbr
      by_cases hlt : i < n
      · obtain ⟨u, hu⟩ : ∃ u, L[i]? = some u := ⟨_, List.getElem?_eq_getElem (by rw [← HN.out]; exact hlt)⟩
        obtain ⟨b3, o3, rfl, s0, -⟩ := hcl3 i u hu
        have HU := Lib.hid hu
        have i1 : (i : Int) < (n : Int) := by omega
        clear hcl3 hu
        go_wp2_with fail
        go_loopw [11, 12] (fun y11 y12 wx => ∃ (r q' : Nat) (dd : Bool), r ≤ g ∧ y12 = .int .i64 r ∧ y11 = .bool dd ∧ Asd (dd = true ↔ u.id ∈ gs.take r) ∧ wx = wr.drewN q') (fun _ y12 _ => g - (intOf y12).toNat)
        case atStart => exact ⟨0, 0, false, Nat.zero_le _, rfl, rfl, ⟨(fun h => by cases h), (fun h => by simp at h)⟩, rfl⟩
        case round =>
          obtain ⟨r, q', dd, hr, rfl, rfl, hdd, rfl⟩ := hrel
          have HDD := Lib.hid (show dd = true ↔ u.id ∈ gs.take r from hdd)
          have r0 : (0 : Int) ≤ (r : Int) := by omega
          clear hdd
          by_cases hrg : r < g
          · have r1 : (r : Int) < (g : Int) := by omega
            obtain ⟨xr, hxr⟩ : ∃ x, gs[r]? = some x := ⟨_, List.getElem?_eq_getElem (by rw [← HGS.out.2.1]; exact hrg)⟩
            have hc1 := HGC.out r xr hxr wr HBR.out
            have HXR := Lib.hid (take_one hxr)
            clear hxr
            cases dd with
            | true =>
              go_wp2_with fail
              go_quiet (fail)
              go_wp2_with fail
              go_roundw
              case rel => exact ⟨r + 1, _, true, by omega, by go_num, rfl, ⟨fun _ => by rw [HXR.out]; exact List.mem_append_left _ (HDD.out.1 (by first | exact rfl | exact trivial)), fun _ => rfl⟩, rfl⟩
              case measure => simp [intOf]; omega
            | false =>
              by_cases hx : xr = u.id
              · have hx1 : (xr == u.id) = true := by simpa using hx
                have HX1 := Lib.hid hx
                clear hx
                go_wp2_with fail
                go_quiet (fail)
                go_wp2_with fail
                go_roundw
                case rel => exact ⟨r + 1, _, true, by omega, by go_num, rfl, ⟨fun _ => by rw [HXR.out, HX1.out]; exact List.mem_append_right _ (List.mem_singleton.2 rfl), fun _ => rfl⟩, rfl⟩
                case measure => simp [intOf]; omega
              · have hx1 : (xr == u.id) = false := by simpa using hx
                have HX1 := Lib.hid hx
                clear hx
                go_wp2_with fail
                go_quiet (fail)
                go_wp2_with fail
                go_roundw
                case rel => exact ⟨r + 1, _, false, by omega, by go_num, rfl, ⟨(fun h => by cases h), (fun h => by
                  rw [HXR.out] at h
                  rcases List.mem_append.1 h with h | h
                  · exact HDD.out.2 h
                  · exact absurd (List.mem_singleton.1 h).symm HX1.out)⟩, rfl⟩
                case measure => simp [intOf]; omega
          · obtain rfl : r = g := by omega
            have hdd : dd = true ↔ u.id ∈ gs := by
              have h := HDD.out
              rwa [HGS.out.2.1, List.take_length] at h
            have HCW := Lib.hid (HCO.out.next (below_drewN HBR.out q'))
            have hsh := gone_shown HS.out HVM.out (by rw [← HGS.out.1]; exact HS'.out) (List.mem_of_getElem? HU.out)
            rw [← HGS.out.1] at hsh
            have HDS := Lib.hid hdd
            clear hdd
            rcases hsh with ⟨hm, vv, px, py, th, ks, vb, hs⟩ | ⟨hm, px, py, th, ks, vb, hs⟩
            · have hd : dd = true := HDS.out.2 hm
              subst hd
              have HSH := Lib.hid hs
              clear hs hm
              obtain ⟨vid, vpar, vx, vy, vw, vh, von⟩ := vv
              go_upto_region 19 with (go_at_call 19; ((with_reducible refine (Co.get HCW.out HSH.out).mono ?_); rintro e w4 ⟨rfl, hb4⟩); have HB4 := Lib.hid (hb4.on (below_drewN HBR.out q') (below_drewN HBR.out q').size); clear hb4)
              have hx5 := Blk.new w4 50 #[.int .i64 vid, .int .i64 vpar, .int .i64 vx, .int .i64 vy, .int .i64 vw, .int .i64 vh, .bool von]
              have hb5 := HB4.out.alloc HB4.out.size (.cells #[.int .i64 vid, .int .i64 vpar, .int .i64 vx, .int .i64 vy, .int .i64 vw, .int .i64 vh, .bool von] 50)
              obtain ⟨g5, hg5⟩ : ∃ g5, g5 = w4.heap.size := ⟨_, rfl⟩
              rw [← hg5] at hx5 ⊢
              clear hg5 y5 s0
              generalize w4.alloc (.cells #[.int .i64 vid, .int .i64 vpar, .int .i64 vx, .int .i64 vy, .int .i64 vw, .int .i64 vh, .bool von] 50) = w5 at hx5 hb5 ⊢
              have HB5 := Lib.hid hb5
              clear hx5 hb5
              go_quiet (fail)
              go_wp2_with fail
              go_roundw
              case rel => exact ⟨i + 1, by omega, by go_num, below_drewN HB5.out _⟩
              case measure => simp [intOf]; omega
            · have hd : dd = false := by
                cases dd with
                | false => rfl
                | true => exact absurd (HDS.out.1 rfl) hm
              subst hd
              have HSH := Lib.hid hs
              clear hs hm
              obtain ⟨uid, upar, ux, uy, uw, uh, uon⟩ := u
              have e0 : (uid == uid) = true := by simp
              have e1 : (upar == upar) = true := by simp
              have e2 : (ux == ux) = true := by simp
              have e3 : (uy == uy) = true := by simp
              have e4 : (uw == uw) = true := by simp
              have e5 : (uh == uh) = true := by simp
              have e6 : (uon == uon) = true := by simp
              go_upto_region 19 with (go_at_call 19; ((with_reducible refine (Co.get HCW.out HSH.out).mono ?_); rintro e w4 ⟨rfl, hb4⟩); have HB4 := Lib.hid (hb4.on (below_drewN HBR.out q') (below_drewN HBR.out q').size); clear hb4)
              have hx5 := Blk.new w4 50 #[.int .i64 uid, .int .i64 upar, .int .i64 ux, .int .i64 uy, .int .i64 uw, .int .i64 uh, .bool uon]
              have hb5 := HB4.out.alloc HB4.out.size (.cells #[.int .i64 uid, .int .i64 upar, .int .i64 ux, .int .i64 uy, .int .i64 uw, .int .i64 uh, .bool uon] 50)
              obtain ⟨g5, hg5⟩ : ∃ g5, g5 = w4.heap.size := ⟨_, rfl⟩
              rw [← hg5] at hx5 ⊢
              clear hg5 y5 s0
              generalize w4.alloc (.cells #[.int .i64 uid, .int .i64 upar, .int .i64 ux, .int .i64 uy, .int .i64 uw, .int .i64 uh, .bool uon] 50) = w5 at hx5 hb5 ⊢
              have HB5 := Lib.hid hb5
              obtain ⟨v0, v1, v2, v3, v4, v5, v6⟩ := hx5.c7.1
              obtain ⟨p6, c6, y5, hcl6⟩ := (HLI.out.next hb5).cells
              rw [← HN.out] at y5
              obtain ⟨b6, o6, rfl, s0, s1, s2, s3, s4, s5, s6⟩ := hcl6 i _ HU.out
              clear hx5 hb5 hcl6
              go_quiet (fail)
              go_wp2_with fail
              go_roundw
              case rel => exact ⟨i + 1, by omega, by go_num, below_drewN HB5.out _⟩
              case measure => simp [intOf]; omega
      · have i1 : ¬ (i : Int) < (n : Int) := by omega
        go_wp2_with (go_at_call 11; ((with_reducible refine (HA.out _).mono ?_); rintro e w5 ⟨rfl, hb5⟩); have HB5 := Lib.hid hb5; clear hb5)
        go_ret
        have h2 := HCO.out.next HBR.out
        exact ⟨rfl, HB5.out.on (HCO.out.next HBR.out).below (HCO.out.next HBR.out).below.size⟩
theorem ends_t (va : Value) (As : List Ac) (z : Int) (w : World) (hI : IsActs w.heap.size w va As) (hw : (Lit.int .u64 z).wf = true) : Calls Try.prog 5 #[va, .int .u64 z] w fun e w' => e = .returned (.bool true) ∧ Below w.heap.size w w' := ends_w w va As hI z (IsActs.lit hw rfl)
end Go.Proofs.Ytphmlfklmleafaa
