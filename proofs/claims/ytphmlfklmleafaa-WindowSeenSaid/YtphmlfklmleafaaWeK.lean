/- WindowSeen, walked. -/
import Derived.Test.YtphmlfklmleafaaWeJ
import Derived.Test.YtphmlfklmleafaaWeI
namespace Go.Proofs.Ytphmlfklmleafaa
open Go.RowKit Go.Shelf Go.Maps
section
variable {w : World} {px py : Int}
theorem reach_cases (px py : Int) : (reachB 100 100 px py = true ∧ 0 ≤ px ∧ px < 100 ∧ 0 ≤ py ∧ py < 100) ∨ (reachB 100 100 px py = false ∧ (px < 0 ∨ (0 ≤ px ∧ py < 0) ∨ (0 ≤ px ∧ 0 ≤ py ∧ 100 ≤ px) ∨ (0 ≤ px ∧ 0 ≤ py ∧ px < 100 ∧ 100 ≤ py))) := by
  unfold reachB
  by_cases h : 0 ≤ px ∧ px < 100 ∧ 0 ≤ py ∧ py < 100
  · exact .inl ⟨decide_eq_true h, h.1, h.2.1, h.2.2.1, h.2.2.2⟩
  · exact .inr ⟨decide_eq_false h, by omega⟩
set_option maxRecDepth 100000 in
set_option maxHeartbeats 4000000 in
theorem wseen_w (va : Value) (As : List Ac) (hI : IsActs w.heap.size w va As) : Calls Try.prog 7 #[va, .agg #[.int .i64 px, .int .i64 py]] w fun e w' => e = .returned (.bool true) ∧ Below w.heap.size w w' := by
  obtain ⟨wb, hwb⟩ : ∃ wb, wb = w.alloc (.cells #[.int .i64 px, .int .i64 py] 26) := ⟨_, rfl⟩
  have hbel : Below w.heap.size w wb := by rw [hwb]; exact (Below.refl _ _).alloc (Nat.le_refl _) _
  have hbP : Blk wb w.heap.size 26 #[.int .i64 px, .int .i64 py] := by rw [hwb]; exact Blk.new w _ _
  have HP := Lib.hid (fun W (hW : Below wb.heap.size wb W) => (hbP.next hW).c2.1)
  have HF := Lib.hid (filled_c wb va As (hI.grow hbel))
  have HA := Lib.hid (fun W => awake_c W)
  have HBE := Lib.hid hbel
  have HW := Lib.hid hwb
  have hq := reach_cases px py
  clear hbel hbP hI
  go_enter Try.func7, Try.ntmps7
  go_upto_region 1 with fail
  rw [← HW.out]
  clear hwb
  go_upto_region 2 with (go_at_call 17; ((with_reducible refine (HF.out).mono ?_); rintro e w1 ⟨t, rb, rfl, R, L, hR, hS, hB⟩); have HR := Lib.hid hR; have HS := Lib.hid hS; have HB := Lib.hid hB; clear hR hS hB)
  obtain ⟨x0, x1⟩ := HP.out w1 HB.out.below
  have hu := Co.under HS.out HB.out.co px py
  rw [HR.out.2.2.1, HR.out.2.2.2] at hu
  have hsa : seenAt R L px py = if reachB 100 100 px py = true then seenB (ndL R L) (L.length + 1) 0 px py else 0 := by
    unfold seenAt
    rw [HR.out.2.2.1, HR.out.2.2.2]
  rw [hsa] at hu
  clear hsa
  rcases hq with ⟨hr, h1, h2, h3, h4⟩ | ⟨hr, hq⟩
  · rw [hr, if_pos rfl] at hu
    obtain ⟨id, hid⟩ : ∃ id, id = seenB (ndL R L) (L.length + 1) 0 px py := ⟨_, rfl⟩
    rw [← hid] at hu
    have HU := Lib.hid hu
    obtain ⟨m, hgo⟩ := GoUp.start HS.out hid.symm
    have HGO := Lib.hid hgo
    obtain ⟨dd, hdd⟩ := hgo.way.there
    have hnn := HS.out.nums hdd
    obtain ⟨m2, hm2, hsh⟩ := shown_some HS.out (i := id) ⟨by omega, by omega⟩ hdd
    obtain rfl := hm2.det hgo.way
    rw [hgo.view] at hsh
    have HSH := Lib.hid hsh
    obtain ⟨n0, hn0⟩ : ∃ n0, n0 = L.length + 1 := ⟨_, rfl⟩
    rw [← hn0] at HGO
    clear hr hu hid hgo hdd hnn hm2 hsh hn0
    go_upto_region 5 with (go_at_call 15; ((with_reducible refine (HU.out).mono ?_); rintro e w2 ⟨rfl, hb2⟩); have HB2 := Lib.hid (HB.out.co.next hb2); clear hb2)
    go_upto_region 9 with (go_at_call 24; ((with_reducible refine (Co.view HB2.out HSH.out).mono ?_); rintro e w3 ⟨rfl, hb3⟩); have HB3 := Lib.hid (HB2.out.next hb3); clear hb3)
    clear x0 x1
    go_wp2_with fail
    go_loopw [9, 10] (fun y9 y10 wr => ∃ (L' : List Win) (j : Nat) (kk : Int), y9 = .int .i64 kk ∧ y10 = .int .i64 j ∧ Asd (GoUp R L' n0 px py id j m2 kk) ∧ Co wb t R L' wr) (fun _ y10 _ => 100 - (intOf y10).toNat)
    case atStart => exact ⟨L, 0, id, rfl, rfl, HGO.out, HB3.out⟩
    case round =>
      clear HGO HSH HU
      obtain ⟨L', j, kk, rfl, rfl, hgo, hC⟩ := hrel
      have HGO := Lib.hid (show GoUp R L' n0 px py id j m2 kk from hgo)
      have HC := Lib.hid hC
      obtain ⟨x0, x1⟩ := HP.out wr hC.below
      have hj40 := HGO.out.small
      have j0 : (0 : Int) ≤ (j : Int) := by omega
      have j1 : (j : Int) < 100 := by omega
      clear hgo hC
      by_cases hk : kk = 0
      · subst hk
        have hu := Co.under HGO.out.sane HC.out px py
        have hsa : seenAt R L' px py = id := by
          unfold seenAt
          rw [HR.out.2.2.1, HR.out.2.2.2, if_pos (by unfold reachB; exact decide_eq_true ⟨h1, h2, h3, h4⟩), HGO.out.len]
          exact HGO.out.seen
        rw [hsa, HR.out.2.2.1, HR.out.2.2.2, show reachB 100 100 px py = true by unfold reachB; exact decide_eq_true ⟨h1, h2, h3, h4⟩] at hu
        have HU := Lib.hid hu
        clear hu hsa
        go_wp2_with (first
          | (go_at_call 15; ((with_reducible refine (HU.out).mono ?_); rintro e w4 ⟨rfl, hb4⟩); have HB4 := Lib.hid (HC.out.next hb4); clear hb4)
          | (go_at_call 11; ((with_reducible refine (HA.out _).mono ?_); rintro e w5 ⟨rfl, hb5⟩); have HB5 := Lib.hid hb5; clear hb5))
        go_ret
        exact ⟨rfl, HB5.out.on (HB4.out.below.on HBE.out HBE.out.size) (Nat.le_trans HBE.out.size HB4.out.below.size)⟩
      · obtain ⟨v, hv, hvk, hst, X, Y, vb, hsh, ⟨b1, b2, b3, b4⟩, b5, b6, b7, b8⟩ := HGO.out.step hk ⟨h1, h2⟩ ⟨h3, h4⟩
        have HSH := Lib.hid hsh
        have hra := (raise_some HGO.out.sane hv).2.2.2
        have HRA := Lib.hid hra
        have HST := Lib.hid hst
        subst hvk
        obtain ⟨L2, hL2⟩ : ∃ L2, L2 = dropL v.id L' ++ [v] := ⟨_, rfl⟩
        rw [← hL2] at HRA HST
        obtain ⟨vid, vpar, vx, vy, vw, vh, von⟩ := v
        have hk1 : (vid == 0) = false := by simpa using hk
        have hk2 : (vid != 0) = true := by simp [bne, hk1]
        clear hv hst hsh hra hL2 hk
        (try dsimp only at HSH); (try dsimp only at HRA); (try dsimp only at HST); (try dsimp only at b3); (try dsimp only at b4); (try dsimp only at b7); (try dsimp only at b8)
        go_upto_region 13 with (go_at_call 22; ((with_reducible refine (Co.abs HC.out HSH.out).mono ?_); rintro e w4 ⟨rfl, hb4⟩); have HB4 := Lib.hid (HC.out.next hb4); clear hb4)
        have hx4 := Blk.new w4 26 #[.int .i64 X, .int .i64 Y]
        have hc4 := HB4.out.next ((Below.refl _ w4).alloc (Nat.le_refl _) (.cells #[.int .i64 X, .int .i64 Y] 26))
        obtain ⟨g4, hg4⟩ : ∃ g4, g4 = w4.heap.size := ⟨_, rfl⟩
        rw [← hg4] at hx4 ⊢
        clear hg4
        generalize w4.alloc (.cells #[.int .i64 X, .int .i64 Y] 26) = w5 at hx4 hc4 ⊢
        have HC5 := Lib.hid hc4
        have HX5 := Lib.hid hx4
        clear hx4 hc4
        go_upto_region 14 with (go_at_call 19; ((with_reducible refine (Co.get HC5.out HSH.out).mono ?_); rintro e w6 ⟨rfl, hb6⟩); have HB6 := Lib.hid hb6; clear hb6)
        have hx6 := Blk.new w6 50 #[.int .i64 vid, .int .i64 vpar, .int .i64 vx, .int .i64 vy, .int .i64 vw, .int .i64 vh, .bool von]
        have hb7 := HB6.out.alloc HB6.out.size (.cells #[.int .i64 vid, .int .i64 vpar, .int .i64 vx, .int .i64 vy, .int .i64 vw, .int .i64 vh, .bool von] 50)
        obtain ⟨g6, hg6⟩ : ∃ g6, g6 = w6.heap.size := ⟨_, rfl⟩
        rw [← hg6] at hx6 ⊢
        clear hg6 x0 x1
        generalize w6.alloc (.cells #[.int .i64 vid, .int .i64 vpar, .int .i64 vx, .int .i64 vy, .int .i64 vw, .int .i64 vh, .bool von] 50) = w7 at hx6 hb7 ⊢
        have HC7 := Lib.hid (HC5.out.next hb7)
        obtain ⟨x0, x1⟩ := HP.out w7 HC7.out.below
        obtain ⟨q0, q1⟩ := (HX5.out.next hb7).c2.1
        obtain ⟨v0, v1, v2, v3, v4, v5, v6⟩ := hx6.c7.1
        have HX6 := Lib.hid hx6
        clear hx6 hb7
        go_upto_region 16 with (go_at_call 25; ((with_reducible refine (HRA.out wb w7 t HC7.out).mono ?_); rintro e w8 ⟨rfl, hc8, hk8⟩); have HC8 := Lib.hid hc8; have HX8 := Lib.hid (hk8 _ _ HX6.out); clear hc8 hk8)
        clear x0 x1 q0 q1 v0 v1 v2 v3 v4 v5 v6
        obtain ⟨v0, v1, v2, v3, v4, v5, v6⟩ := HX8.out.c7.1
        go_wp2_with fail
        go_roundw
        case rel => exact ⟨L2, j + 1, vpar, rfl, by go_num, HST.out, HC8.out⟩
        case measure => simp [intOf]; omega
  · rw [hr, if_neg (by simp)] at hu
    have HU := Lib.hid hu
    clear hu hr
    go_upto_region 5 with (go_at_call 15; ((with_reducible refine (HU.out).mono ?_); rintro e w2 ⟨rfl, hb2⟩); have HB2 := Lib.hid (HB.out.co.next hb2); clear hb2)
    clear x0 x1
    obtain ⟨x0, x1⟩ := HP.out w2 HB2.out.below
    rcases hq with h1 | ⟨h1, h2⟩ | ⟨h1, h2, h3⟩ | ⟨h1, h2, h3, h4⟩
    all_goals
      go_wp2_with (go_at_call 11; ((with_reducible refine (HA.out _).mono ?_); rintro e w5 ⟨rfl, hb5⟩); have HB5 := Lib.hid hb5; clear hb5)
      go_ret
      exact ⟨rfl, HB5.out.on (HB2.out.below.on HBE.out HBE.out.size) (Nat.le_trans HBE.out.size HB2.out.below.size)⟩
theorem seen_t (va : Value) (As : List Ac) (px py : Int) (w : World) (hI : IsActs w.heap.size w va As) : Calls Try.prog 7 #[va, .agg #[.int .i64 px, .int .i64 py]] w fun e w' => e = .returned (.bool true) ∧ Below w.heap.size w w' := wseen_w va As hI
end
end Go.Proofs.Ytphmlfklmleafaa
