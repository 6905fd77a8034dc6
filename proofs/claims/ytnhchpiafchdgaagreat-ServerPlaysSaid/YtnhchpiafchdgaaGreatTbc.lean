/- Texts SuR. -/
import Derived.Test.YtnhchpiafchdgaaGreatTbb
import Derived.Deep.DeepCutAuto
import Derived.Test.YtnhchpiafchdgaaGreatTaa
namespace Go.Proofs.YtnhchpiafchdgaaGreat
open Go.RowKit Go.Shelf Go.Maps
section
variable {w w' wr : World} {r : Nat} {Z Z1 : Zl} {X X' : Xs} {k : Nat}
set_option maxRecDepth 100000 in
set_option maxHeartbeats 16000000 in
theorem rstop_c (h : Ref w r Z X) (hV : V0 X k) (hML : X.M.length ≤ 1000) : Calls Tryz.prog 36 #[refP r] w fun ex w' => ex = .returned (.int .i64 (if X.G = true then 0 else 8)) ∧ RefTo w r Z (if X.G = true then X.stopC else X) w' := by
 obtain ⟨b0, b1, b2, b3, b4, b5, b6, b7, b8, b9, b10⟩ := h.blk.at11
 have z9 := h.blk.frozen 9
 have z10 := h.blk.frozen 10
 cases hG : X.G with
 | false =>
  rw [hG] at b9
  have HQ := Lib.hid (show RefTo w r Z X w from RefTo.same h (Below.refl _ _))
  clear h hG hV hML
  go_enter Tryz.func36, Tryz.ntmps36
  go_wp2_with fail
  go_ret
  exact ⟨rfl, HQ.out⟩
 | true =>
  rw [hG] at b9
  have hst := stop_same hV hG
  unfold Xs.stop at hst
  rw [if_neg (by rw [hG]; simp)] at hst
  have hst2 := (Prod.mk.inj hst).2
  show Calls _ _ _ _ fun ex w' => ex = .returned (.int .i64 0) ∧ RefTo w r Z X.stopC w'
  rw [← hst2]
  have HOFF := Lib.hid (show RefTo w r Z { X with G := false, E := [] } ((w.setCell ⟨r, 9, none⟩ (.bool false)).setCell ⟨r, 10, none⟩ (.slice none 0 0)) from by
   obtain ⟨Z1, h1, h2⟩ := h.cell 9 (.bool false) (X' := { X with G := false }) rfl rfl rfl rfl rfl
   have h3 := h1.putE (Below.refl _ _) (v' := .slice none 0 0) (E' := []) (OwK.nil _ 0) (fun b hb => by cases hb)
   exact RefTo.trans h2 h3)
  have hV1 := hV.off
  obtain ⟨X1, hX1⟩ : ∃ X1 : Xs, { X with G := false, E := [] } = X1 := ⟨_, rfl⟩
  have hM1 : X1.M = X.M := by rw [← hX1]
  rw [hX1] at HOFF hV1 ⊢
  obtain ⟨M0, hM0⟩ : ∃ M0, X.M = M0 := ⟨_, rfl⟩
  rw [hM0] at hML hM1 ⊢
  have hI : ∀ m ∈ M0, I64 m.win := fun m hm => in_i64 hV ⟨m, hM0 ▸ hm, rfl⟩
  have HVB := Lib.hid (fun j : Nat => (show V0 ((M0.take j).foldl Xs.back X1) k ∧ ((M0.take j).foldl Xs.back X1).M.length ≤ 1000 from ⟨V0.backs hV1 fun x hx => hI x (List.mem_of_mem_take hx), by rw [back_len, hM1]; exact hML⟩))
  obtain ⟨X2, hX2⟩ : ∃ X2, M0.foldl Xs.back X1 = X2 := ⟨_, rfl⟩
  have hV2 : V0 X2 k := by rw [← hX2]; exact V0.backs hV1 hI
  have hL2 : X2.M.length ≤ 1000 := by rw [← hX2, back_len, hM1]; exact hML
  rw [hX2]
  have HVE := Lib.hid (fun j : Nat => (show V0 ((M0.take j).foldl Xs.end X2) k ∧ ((M0.take j).foldl Xs.end X2).M.length ≤ 1000 from ⟨V0.ends hV2 fun x hx => hI x (List.mem_of_mem_take hx), Nat.le_trans (end_len _ _) hL2⟩))
  obtain ⟨X3, hX3⟩ : ∃ X3, M0.foldl Xs.end X2 = X3 := ⟨_, rfl⟩
  have hV3 : V0 X3 k := by rw [← hX3]; exact V0.ends hV2 hI
  rw [hX3]
  have HLK := Lib.hid (fun (W : World) (Z1 : Zl) (hS : Ref W r Z1 X3) => rlook_c hS hV3.s hV3.f64)
  obtain ⟨X4, hX4⟩ : ∃ X4, X3.look = X4 := ⟨_, rfl⟩
  rw [hX4] at HLK ⊢
  have H64 := Lib.hid hI
  have HOW := Lib.hid (show ∀ (j : Nat) (m : Md), m ∈ M0 → m.sav = true → 0 < ownM m.win ((M0.take j).foldl Xs.back X1).M from fun j m hm hs => by
   rw [back_own, hM1, ← hM0, own_of (mfind_in hV.up (hM0 ▸ hm))]
   obtain ⟨o1, -, o3⟩ := hV.own m (hM0 ▸ hm)
   have := o3 hs
   omega)
  have HX2 := Lib.hid hX2
  have HX3 := Lib.hid hX3
  obtain ⟨n, hn⟩ : ∃ n, M0.length = n := ⟨_, rfl⟩
  rw [hn] at hML
  have HN := Lib.hid hn
  have HM1 := Lib.hid hM1
  have hn0 : (n : Int) ≤ 1000 := by omega
  clear h hG hV hX1 hX2 hX3 hX4 hst hst2 hV1 hV2 hV3 hL2 hI hM0 hn hM1
  go_enter Tryz.func36, Tryz.ntmps36
  go_upto_region 4 with fail
  obtain ⟨Z1, S1, U1⟩ := HOFF.out
  generalize (w.setCell ⟨r, 9, none⟩ (.bool false)).setCell ⟨r, 10, none⟩ (.slice none 0 0) = w1 at *
  obtain ⟨p, c, hmv⟩ := S1.m.slice
  have hol := S1.m
  have d7 := S1.blk.at_ (i := 7) (v := Z1.mv) rfl
  rw [HM1.out] at hol
  rw [HM1.out, HN.out] at hmv
  rw [hmv] at hol d7
  have HL0 := Lib.hid (show LqS w r Z (.slice p n c) M0 X1 w1 from ⟨Z1, S1, U1, hol⟩)
  clear S1 U1 HOFF hmv hol b0 b1 b2 b3 b4 b5 b6 b7 b8 b9 b10 z9 z10
  go_wp2_with fail
  go_loopw [4] (fun z wr => ∃ j : Nat, j ≤ n ∧ z = .int .i64 j ∧ LqS w r Z (.slice p n c) M0 ((M0.take j).foldl Xs.back X1) wr) (fun z _ => n - (intOf z).toNat)
  case atStart => exact ⟨0, Nat.zero_le _, rfl, HL0.out⟩
  case round =>
   obtain ⟨j, hj, rfl, hD⟩ := hrel
   by_cases hlt : j < n
   · obtain ⟨m, hm⟩ : ∃ m, M0[j]? = some m := ⟨_, List.getElem?_eq_getElem (by rw [HN.out]; exact hlt)⟩
     have hi6 := H64.out m (List.mem_of_getElem? hm)
     obtain ⟨Z2, hY⟩ := hD
     have HY := Lib.hid hY
     obtain ⟨g, rfl, m0, m1, m2⟩ := mad_at hY.2.2 hm
     have hsn : (M0.take (j + 1)).foldl Xs.back X1 = ((M0.take j).foldl Xs.back X1).back m := by rw [show M0.take (j + 1) = M0.take j ++ [m] by rw [List.take_add_one, hm]; rfl, List.foldl_append]; rfl
     obtain ⟨hV2, hL2⟩ := HVB.out j
     have how := HOW.out j m (List.mem_of_getElem? hm)
     obtain ⟨X5, hX5⟩ : ∃ X5, (M0.take j).foldl Xs.back X1 = X5 := ⟨_, rfl⟩
     rw [hX5] at hsn hV2 hL2 hY HY how
     have HT := Lib.hid (fun (W : World) (hT : RefTo wr r Z2 (X5.back m) W) => (show LqS w r Z (.slice (some ⟨g, 0, none⟩) n c) M0 ((M0.take (j + 1)).foldl Xs.back X1) W from by rw [hsn]; exact LqS.turn HY.out hT))
     have hi0 : (0 : Int) ≤ (j : Int) := by omega
     have hi1 : (j : Int) < (n : Int) := by omega
     cases hs : m.sav with
     | false =>
      have hbk : X5.back m = X5 := by unfold Xs.back; rw [if_neg (by rw [hs]; simp)]
      rw [hs] at m2
      rw [hbk] at HT
      clear hm hX5 hsn hV2 hL2 hY hs hbk
      go_wp2_with fail
      go_roundw
      case rel => exact ⟨j + 1, by omega, by go_num, HT.out _ (RefTo.same HY.out.1 (Below.refl _ _))⟩
      case measure => simp [intOf]; omega
     | true =>
      rw [hs] at m2
      obtain ⟨pl, cl, hlv⟩ := hY.1.l.slice
      have HSS := Lib.hid (fun (W : World) (hb : Below wr.heap.size wr W) => (show (fun wx => wx.cell? ⟨r, 0, none⟩ = some (.int .i64 X5.R.x) ∧ wx.cell? ⟨r, 1, none⟩ = some (.int .i64 X5.R.y) ∧ wx.cell? ⟨r, 2, none⟩ = some (.int .i64 X5.R.w) ∧ wx.cell? ⟨r, 3, none⟩ = some (.int .i64 X5.R.h) ∧ wx.cell? ⟨r, 4, none⟩ = some (.int .i64 X5.R.last) ∧ wx.cell? ⟨r, 5, none⟩ = some (.slice pl X5.L.length cl) ∧ wx.cell? ⟨g, j * 3, none⟩ = some (.int .i64 m.win)) W from by
        have hy := (hY.1.next hb).blk.at11
        rw [hlv] at hy
        exact ⟨hy.1, hy.2.1, hy.2.2.1, hy.2.2.2.1, hy.2.2.2.2.1, hy.2.2.2.2.2.1, (hb.cell (World.block_lt_of_cell? _ _ m0)).trans m0⟩))
      have HSH := Lib.hid (shows_all hV2.s hi6)
      obtain ⟨v, hv⟩ : ∃ v, winL X5.R X5.L m.win = v := ⟨_, rfl⟩
      obtain ⟨ax, hax⟩ : ∃ a, absXL X5.R X5.L m.win = a := ⟨_, rfl⟩
      obtain ⟨ay, hay⟩ : ∃ a, absYL X5.R X5.L m.win = a := ⟨_, rfl⟩
      obtain ⟨th, hth⟩ : ∃ t, thereL X5.R X5.L m.win = t := ⟨_, rfl⟩
      have HAB := Lib.hid (fun (W : World) (hb : Below wr.heap.size wr W) => (show Calls Tryz.prog 41 #[refV X5.R (.slice pl X5.L.length cl), .int .i64 m.win] W fun e w' => e = .returned (.tuple #[.agg #[.int .i64 ax, .int .i64 ay], .bool th]) ∧ Below W.heap.size W w' from by
        rw [← hax, ← hay, ← hth, ← hlv]; exact HSH.out.rabs W _ (RO.rd (hY.1.next hb).l)))
      have HGE0 := Lib.hid (fun (W : World) (hb : Below wr.heap.size wr W) => (show Calls Tryz.prog 39 #[refV X5.R (.slice pl X5.L.length cl), .int .i64 m.win] W fun e w' => e = .returned (.tuple #[.agg #[.int .i64 v.id, .int .i64 v.par, .int .i64 v.x, .int .i64 v.y, .int .i64 v.w, .int .i64 v.h, .bool v.on], .bool th]) ∧ Below W.heap.size W w' from by
        rw [← hv, ← hth, ← hlv]; exact HSH.out.rget W _ (RO.rd (hY.1.next hb).l)))
      have HM0 := Lib.hid m0
      have hm2 := m2
      go_upto_region 9 with fail
      clear m0 m1 m2 hm2
      go_cut [5, 6] (fun s5 s6 wx => ∃ q, s5 = .pointer (some ⟨q, 0, none⟩) ∧ Blk wx q 87 #[.int .i64 ax, .int .i64 ay] ∧ Below wr.heap.size wr wx ∧ wr.heap.size ≤ q)
      case first =>
        refine wp_region_noPanic ?_
        refine wp_region_held_drew (S := fun wx => wx.cell? ⟨r, 0, none⟩ = some (.int .i64 X5.R.x) ∧ wx.cell? ⟨r, 1, none⟩ = some (.int .i64 X5.R.y) ∧ wx.cell? ⟨r, 2, none⟩ = some (.int .i64 X5.R.w) ∧ wx.cell? ⟨r, 3, none⟩ = some (.int .i64 X5.R.h) ∧ wx.cell? ⟨r, 4, none⟩ = some (.int .i64 X5.R.last) ∧ wx.cell? ⟨r, 5, none⟩ = some (.slice pl X5.L.length cl) ∧ wx.cell? ⟨g, j * 3, none⟩ = some (.int .i64 m.win)) (by kernel_rfl) (by exact HSS.out _ (Below.drew (Below.refl _ _))) (fun hHeld => ?_)
        refine tk 0 ?va0 rfl ?ya0 ?ra0
        case ya0 => (intro q h; (try dsimp only at h); go_simp; (try with_reducible rfl))
        (try simp only [Act.put, p1, p3, p4, p5, p6])
        refine tk 1 ?va1 rfl ?ya1 ?ra1
        case ya1 => (intro q h; (try dsimp only at h); go_simp; (try with_reducible rfl))
        (try simp only [Act.put, p1, p2, p3, p4, p5, p6])
        refine tk 2 ?va2 rfl ?ya2 ?ra2
        case ya2 => (intro q h; (try dsimp only at h); go_simp; (try with_reducible rfl))
        (try simp only [Act.put, p1, p2, p3, p4, p5, p6])
        refine tk 3 ?va3 rfl ?ya3 ?ra3
        case ya3 => (intro q h; (try dsimp only at h); go_simp; (try with_reducible rfl))
        (try simp only [Act.put, p1, p2, p3, p4, p5, p6])
        refine tk 4 ?va4 rfl ?ya4 ?ra4
        case ya4 => (intro q h; (try dsimp only at h); go_simp; (try with_reducible rfl))
        (try simp only [Act.put, p1, p2, p3, p4, p5, p6])
        refine tk 5 ?va5 rfl ?ya5 ?ra5
        case ya5 => (intro q h; (try dsimp only at h); go_simp; (try with_reducible rfl))
        (try simp only [Act.put, p1, p2, p3, p4, p5, p6])
        refine tk 6 ?va6 rfl ?ya6 ?ra6
        case ya6 => (intro q h; (try dsimp only at h); go_simp; (try with_reducible rfl))
        (try simp only [Act.put, p1, p2, p3, p4, p5, p6])
        refine tk 7 ?va7 rfl ?ya7 ?ra7
        case ya7 => (intro q h; (try dsimp only at h); go_simp; (try with_reducible rfl))
        (try simp only [Act.put, p1, p2, p3, p4, p5, p6])
        refine tk 8 ?va8 rfl ?ya8 ?ra8
        case ya8 => (intro q h; (try dsimp only at h); go_simp; (try with_reducible rfl))
        (try simp only [Act.put, p1, p2, p3, p4, p5, p6])
        refine wpAnyH_ready (rs := [9, 13]) (by kernel_rfl) (by simp) ?_
        refine AllReadyH.cons rfl (fun K hK => ?_) (AllReadyH.cons rfl (fun K hK => ?_) AllReadyH.nil)
        · go_simp
          refine (HAB.out _ (Below.drew (Below.refl _ _))).mono ?_
          rintro e w5 ⟨rfl, T5⟩
          have HB5 := Lib.hid (T5.on (Below.drew (Below.refl wr.heap.size wr)) (Nat.le_refl _))
          clear T5
          (try dsimp only)
          refine hK.out _ _ (by exact HSS.out _ HB5.out) (fun hHeld => ?_)
          clear hK K
          (try simp only [Act.put, p1, p2, p3, p4, p5, p6])
          refine tk 10 ?vaa10 rfl ?yaa10 ?raa10
          case yaa10 => (intro q h; (try dsimp only at h); go_simp; (try with_reducible rfl))
          (try simp only [Act.put, p1, p2, p3, p4, p5, p6])
          refine tk 11 ?vaa11 rfl ?yaa11 ?raa11
          case yaa11 => (intro q h; (try dsimp only at h); go_simp; (try with_reducible rfl))
          (try simp only [Act.put, p1, p2, p3, p4, p5, p6])
          refine tk 12 ?vaa12 rfl ?yaa12 ?raa12
          case yaa12 => (intro q h; (try dsimp only at h); go_simp; (try with_reducible rfl))
          (try simp only [Act.put, p1, p2, p3, p4, p5, p6])
          refine wpAnyH_ready (rs := [13]) (by kernel_rfl) (by simp) ?_
          refine AllReadyH.cons rfl (fun K hK => ?_) AllReadyH.nil
          go_simp
          have HN := Lib.hid (show Blk (w5.alloc (.cells #[.int .i64 0, .int .i64 0] 87)) w5.heap.size 87 #[.int .i64 0, .int .i64 0] ∧ Below wr.heap.size wr (w5.alloc (.cells #[.int .i64 0, .int .i64 0] 87)) from ⟨Blk.new _ _ _, HB5.out.alloc HB5.out.size _⟩)
          refine hK.out _ _ (by exact HSS.out _ HN.out.2) (fun hHeld => ?_)
          clear hK K
          (try simp only [Act.put, p1, p2, p3, p4, p5, p6])
          refine wpAnyH_ready (rs := [14]) (by kernel_rfl) (by simp) ?_
          refine AllReadyH.cons rfl (fun K hK => ?_) AllReadyH.nil
          go_simp
          have HP := Lib.hid (show Blk (w5.alloc (.cells #[.int .i64 ax, .int .i64 ay] 87)) w5.heap.size 87 #[.int .i64 ax, .int .i64 ay] ∧ Below wr.heap.size wr (w5.alloc (.cells #[.int .i64 ax, .int .i64 ay] 87)) from ⟨Blk.new _ _ _, HB5.out.alloc HB5.out.size _⟩)
          refine hK.out _ _ (by exact HSS.out _ HP.out.2) (fun hHeld => ?_)
          clear hK K
          (try simp only [Act.put, p1, p2, p3, p4, p5, p6])
          refine tk 15 ?vab15 rfl ?yab15 ?rab15
          case yab15 => (intro q h; (try dsimp only at h); go_simp; (try with_reducible rfl))
          (try simp only [Act.put, p1, p2, p3, p4, p5, p6])
          refine wpAnyH_done (by kernel_rfl) ?_ _
          refine NoPanic.normal ?_
          go_wp2_with fail
          go_meet
          exact ⟨w5.heap.size, rfl, HP.out.1, HP.out.2, HB5.out.size⟩
        · go_simp
          have HN := Lib.hid (show Blk ((wr.alloc (.cells #[.int .i64 0, .int .i64 0] 87)).drew) wr.heap.size 87 #[.int .i64 0, .int .i64 0] ∧ Below wr.heap.size wr ((wr.alloc (.cells #[.int .i64 0, .int .i64 0] 87)).drew) from ⟨Blk.new _ _ _, Below.drew ((Below.refl _ _).alloc (Nat.le_refl _) _)⟩)
          refine hK.out _ _ (by exact HSS.out _ HN.out.2) (fun hHeld => ?_)
          clear hK K
          (try simp only [Act.put, p1, p2, p3, p4, p5, p6])
          refine wpAnyH_ready (rs := [9]) (by kernel_rfl) (by simp) ?_
          refine AllReadyH.cons rfl (fun K hK => ?_) AllReadyH.nil
          go_simp
          refine (HAB.out _ HN.out.2).mono ?_
          rintro e w5 ⟨rfl, T5⟩
          have HN5 := Lib.hid (HN.out.1.next T5)
          have HB5 := Lib.hid (T5.on HN.out.2 HN.out.2.size)
          clear T5
          (try dsimp only)
          refine hK.out _ _ (by exact HSS.out _ HB5.out) (fun hHeld => ?_)
          clear hK K
          (try simp only [Act.put, p1, p2, p3, p4, p5, p6])
          refine tk 10 ?vac10 rfl ?yac10 ?rac10
          case yac10 => (intro q h; (try dsimp only at h); go_simp; (try with_reducible rfl))
          (try simp only [Act.put, p1, p2, p3, p4, p5, p6])
          refine tk 11 ?vac11 rfl ?yac11 ?rac11
          case yac11 => (intro q h; (try dsimp only at h); go_simp; (try with_reducible rfl))
          (try simp only [Act.put, p1, p2, p3, p4, p5, p6])
          refine tk 12 ?vac12 rfl ?yac12 ?rac12
          case yac12 => (intro q h; (try dsimp only at h); go_simp; (try with_reducible rfl))
          (try simp only [Act.put, p1, p2, p3, p4, p5, p6])
          have xq0 := HN5.out.at_ (i := 0) (v := .int .i64 0) rfl
          have fq0 := HN5.out.frozen 0
          have xq1 := HN5.out.at_ (i := 1) (v := .int .i64 0) rfl
          have fq1 := HN5.out.frozen 1
          refine wpAnyH_ready (rs := [14]) (by kernel_rfl) (by simp) ?_
          refine AllReadyH.cons rfl (fun K hK => ?_) AllReadyH.nil
          go_simp
          have HP := Lib.hid (show Blk (World.setCell (World.setCell w5 ⟨wr.heap.size, 0, none⟩ (.int .i64 ax)) ⟨wr.heap.size, 1, none⟩ (.int .i64 ay)) wr.heap.size 87 #[.int .i64 ax, .int .i64 ay] ∧ Below wr.heap.size wr (World.setCell (World.setCell w5 ⟨wr.heap.size, 0, none⟩ (.int .i64 ax)) ⟨wr.heap.size, 1, none⟩ (.int .i64 ay)) from ⟨((HN5.out.set_ 0 (.int .i64 ax)).set_ 1 (.int .i64 ay)), ((HB5.out.setCell (by first | exact Nat.le_refl _ | exact HB5.out.size) _).setCell (by first | exact Nat.le_refl _ | exact HB5.out.size) _)⟩)
          refine hK.out _ _ (by exact HSS.out _ HP.out.2) (fun hHeld => ?_)
          clear hK K
          (try simp only [Act.put, p1, p2, p3, p4, p5, p6])
          refine tk 15 ?vad15 rfl ?yad15 ?rad15
          case yad15 => (intro q h; (try dsimp only at h); go_simp; (try with_reducible rfl))
          (try simp only [Act.put, p1, p2, p3, p4, p5, p6])
          refine wpAnyH_done (by kernel_rfl) ?_ _
          refine NoPanic.normal ?_
          go_wp2_with fail
          go_meet
          exact ⟨wr.heap.size, rfl, HP.out.1, HP.out.2, Nat.le_refl _⟩
      case rest =>
        obtain ⟨qp, rfl, hP, hB, hqp⟩ := hcut
        obtain ⟨wb, hwb⟩ : ∃ wb, wb = wc := ⟨_, rfl⟩
        subst hwb
        have HBB := Lib.hid hB
        have HSB := Lib.hid (fun (W : World) (hb : Below wb.heap.size wb W) => HSS.out W (hb.on HBB.out HBB.out.size))
        have HGE := Lib.hid (fun (W : World) (hb : Below wb.heap.size wb W) => HGE0.out W (hb.on HBB.out HBB.out.size))
        go_upto_region 10 with fail
        go_cut [7, 8] (fun s7 s8 wx => ∃ q, s7 = .pointer (some ⟨q, 0, none⟩) ∧ Blk wx q 61 #[.int .i64 v.id, .int .i64 v.par, .int .i64 v.x, .int .i64 v.y, .int .i64 v.w, .int .i64 v.h, .bool v.on] ∧ Below wb.heap.size wb wx ∧ wb.heap.size ≤ q)
        case first =>
          refine wp_region_noPanic ?_
          refine wp_region_held_drew (S := fun wx => wx.cell? ⟨r, 0, none⟩ = some (.int .i64 X5.R.x) ∧ wx.cell? ⟨r, 1, none⟩ = some (.int .i64 X5.R.y) ∧ wx.cell? ⟨r, 2, none⟩ = some (.int .i64 X5.R.w) ∧ wx.cell? ⟨r, 3, none⟩ = some (.int .i64 X5.R.h) ∧ wx.cell? ⟨r, 4, none⟩ = some (.int .i64 X5.R.last) ∧ wx.cell? ⟨r, 5, none⟩ = some (.slice pl X5.L.length cl) ∧ wx.cell? ⟨g, j * 3, none⟩ = some (.int .i64 m.win)) (by kernel_rfl) (by exact HSB.out _ (Below.drew (Below.refl _ _))) (fun hHeld => ?_)
          refine tk 0 ?vb0 rfl ?yb0 ?rb0
          case yb0 => (intro q h; (try dsimp only at h); go_simp; (try with_reducible rfl))
          (try simp only [Act.put, p1, p3, p4, p5, p6])
          refine tk 1 ?vb1 rfl ?yb1 ?rb1
          case yb1 => (intro q h; (try dsimp only at h); go_simp; (try with_reducible rfl))
          (try simp only [Act.put, p1, p2, p3, p4, p5, p6])
          refine tk 2 ?vb2 rfl ?yb2 ?rb2
          case yb2 => (intro q h; (try dsimp only at h); go_simp; (try with_reducible rfl))
          (try simp only [Act.put, p1, p2, p3, p4, p5, p6])
          refine tk 3 ?vb3 rfl ?yb3 ?rb3
          case yb3 => (intro q h; (try dsimp only at h); go_simp; (try with_reducible rfl))
          (try simp only [Act.put, p1, p2, p3, p4, p5, p6])
          refine tk 4 ?vb4 rfl ?yb4 ?rb4
          case yb4 => (intro q h; (try dsimp only at h); go_simp; (try with_reducible rfl))
          (try simp only [Act.put, p1, p2, p3, p4, p5, p6])
          refine tk 5 ?vb5 rfl ?yb5 ?rb5
          case yb5 => (intro q h; (try dsimp only at h); go_simp; (try with_reducible rfl))
          (try simp only [Act.put, p1, p2, p3, p4, p5, p6])
          refine tk 6 ?vb6 rfl ?yb6 ?rb6
          case yb6 => (intro q h; (try dsimp only at h); go_simp; (try with_reducible rfl))
          (try simp only [Act.put, p1, p2, p3, p4, p5, p6])
          refine tk 7 ?vb7 rfl ?yb7 ?rb7
          case yb7 => (intro q h; (try dsimp only at h); go_simp; (try with_reducible rfl))
          (try simp only [Act.put, p1, p2, p3, p4, p5, p6])
          refine tk 8 ?vb8 rfl ?yb8 ?rb8
          case yb8 => (intro q h; (try dsimp only at h); go_simp; (try with_reducible rfl))
          (try simp only [Act.put, p1, p2, p3, p4, p5, p6])
          refine wpAnyH_ready (rs := [9, 13]) (by kernel_rfl) (by simp) ?_
          refine AllReadyH.cons rfl (fun K hK => ?_) (AllReadyH.cons rfl (fun K hK => ?_) AllReadyH.nil)
          · go_simp
            refine (HGE.out _ (Below.drew (Below.refl _ _))).mono ?_
            rintro e w5 ⟨rfl, T5⟩
            have HB5 := Lib.hid (T5.on (Below.drew (Below.refl wb.heap.size wb)) (Nat.le_refl _))
            clear T5
            (try dsimp only)
            refine hK.out _ _ (by exact HSB.out _ HB5.out) (fun hHeld => ?_)
            clear hK K
            (try simp only [Act.put, p1, p2, p3, p4, p5, p6])
            refine tk 10 ?vba10 rfl ?yba10 ?rba10
            case yba10 => (intro q h; (try dsimp only at h); go_simp; (try with_reducible rfl))
            (try simp only [Act.put, p1, p2, p3, p4, p5, p6])
            refine tk 11 ?vba11 rfl ?yba11 ?rba11
            case yba11 => (intro q h; (try dsimp only at h); go_simp; (try with_reducible rfl))
            (try simp only [Act.put, p1, p2, p3, p4, p5, p6])
            refine tk 12 ?vba12 rfl ?yba12 ?rba12
            case yba12 => (intro q h; (try dsimp only at h); go_simp; (try with_reducible rfl))
            (try simp only [Act.put, p1, p2, p3, p4, p5, p6])
            refine wpAnyH_ready (rs := [13]) (by kernel_rfl) (by simp) ?_
            refine AllReadyH.cons rfl (fun K hK => ?_) AllReadyH.nil
            go_simp
            have HN := Lib.hid (show Blk (w5.alloc (.cells #[.int .i64 0, .int .i64 0, .int .i64 0, .int .i64 0, .int .i64 0, .int .i64 0, .bool false] 61)) w5.heap.size 61 #[.int .i64 0, .int .i64 0, .int .i64 0, .int .i64 0, .int .i64 0, .int .i64 0, .bool false] ∧ Below wb.heap.size wb (w5.alloc (.cells #[.int .i64 0, .int .i64 0, .int .i64 0, .int .i64 0, .int .i64 0, .int .i64 0, .bool false] 61)) from ⟨Blk.new _ _ _, HB5.out.alloc HB5.out.size _⟩)
            refine hK.out _ _ (by exact HSB.out _ HN.out.2) (fun hHeld => ?_)
            clear hK K
            (try simp only [Act.put, p1, p2, p3, p4, p5, p6])
            refine wpAnyH_ready (rs := [14]) (by kernel_rfl) (by simp) ?_
            refine AllReadyH.cons rfl (fun K hK => ?_) AllReadyH.nil
            go_simp
            have HP := Lib.hid (show Blk (w5.alloc (.cells #[.int .i64 v.id, .int .i64 v.par, .int .i64 v.x, .int .i64 v.y, .int .i64 v.w, .int .i64 v.h, .bool v.on] 61)) w5.heap.size 61 #[.int .i64 v.id, .int .i64 v.par, .int .i64 v.x, .int .i64 v.y, .int .i64 v.w, .int .i64 v.h, .bool v.on] ∧ Below wb.heap.size wb (w5.alloc (.cells #[.int .i64 v.id, .int .i64 v.par, .int .i64 v.x, .int .i64 v.y, .int .i64 v.w, .int .i64 v.h, .bool v.on] 61)) from ⟨Blk.new _ _ _, HB5.out.alloc HB5.out.size _⟩)
            refine hK.out _ _ (by exact HSB.out _ HP.out.2) (fun hHeld => ?_)
            clear hK K
            (try simp only [Act.put, p1, p2, p3, p4, p5, p6])
            refine tk 15 ?vbb15 rfl ?ybb15 ?rbb15
            case ybb15 => (intro q h; (try dsimp only at h); go_simp; (try with_reducible rfl))
            (try simp only [Act.put, p1, p2, p3, p4, p5, p6])
            refine wpAnyH_done (by kernel_rfl) ?_ _
            refine NoPanic.normal ?_
            go_wp2_with fail
            go_meet
            exact ⟨w5.heap.size, rfl, HP.out.1, HP.out.2, HB5.out.size⟩
          · go_simp
            have HN := Lib.hid (show Blk ((wb.alloc (.cells #[.int .i64 0, .int .i64 0, .int .i64 0, .int .i64 0, .int .i64 0, .int .i64 0, .bool false] 61)).drew) wb.heap.size 61 #[.int .i64 0, .int .i64 0, .int .i64 0, .int .i64 0, .int .i64 0, .int .i64 0, .bool false] ∧ Below wb.heap.size wb ((wb.alloc (.cells #[.int .i64 0, .int .i64 0, .int .i64 0, .int .i64 0, .int .i64 0, .int .i64 0, .bool false] 61)).drew) from ⟨Blk.new _ _ _, Below.drew ((Below.refl _ _).alloc (Nat.le_refl _) _)⟩)
            refine hK.out _ _ (by exact HSB.out _ HN.out.2) (fun hHeld => ?_)
            clear hK K
            (try simp only [Act.put, p1, p2, p3, p4, p5, p6])
            refine wpAnyH_ready (rs := [9]) (by kernel_rfl) (by simp) ?_
            refine AllReadyH.cons rfl (fun K hK => ?_) AllReadyH.nil
            go_simp
            refine (HGE.out _ HN.out.2).mono ?_
            rintro e w5 ⟨rfl, T5⟩
            have HN5 := Lib.hid (HN.out.1.next T5)
            have HB5 := Lib.hid (T5.on HN.out.2 HN.out.2.size)
            clear T5
            (try dsimp only)
            refine hK.out _ _ (by exact HSB.out _ HB5.out) (fun hHeld => ?_)
            clear hK K
            (try simp only [Act.put, p1, p2, p3, p4, p5, p6])
            refine tk 10 ?vbc10 rfl ?ybc10 ?rbc10
            case ybc10 => (intro q h; (try dsimp only at h); go_simp; (try with_reducible rfl))
            (try simp only [Act.put, p1, p2, p3, p4, p5, p6])
            refine tk 11 ?vbc11 rfl ?ybc11 ?rbc11
            case ybc11 => (intro q h; (try dsimp only at h); go_simp; (try with_reducible rfl))
            (try simp only [Act.put, p1, p2, p3, p4, p5, p6])
            refine tk 12 ?vbc12 rfl ?ybc12 ?rbc12
            case ybc12 => (intro q h; (try dsimp only at h); go_simp; (try with_reducible rfl))
            (try simp only [Act.put, p1, p2, p3, p4, p5, p6])
            have xq0 := HN5.out.at_ (i := 0) (v := .int .i64 0) rfl
            have fq0 := HN5.out.frozen 0
            have xq1 := HN5.out.at_ (i := 1) (v := .int .i64 0) rfl
            have fq1 := HN5.out.frozen 1
            have xq2 := HN5.out.at_ (i := 2) (v := .int .i64 0) rfl
            have fq2 := HN5.out.frozen 2
            have xq3 := HN5.out.at_ (i := 3) (v := .int .i64 0) rfl
            have fq3 := HN5.out.frozen 3
            have xq4 := HN5.out.at_ (i := 4) (v := .int .i64 0) rfl
            have fq4 := HN5.out.frozen 4
            have xq5 := HN5.out.at_ (i := 5) (v := .int .i64 0) rfl
            have fq5 := HN5.out.frozen 5
            have xq6 := HN5.out.at_ (i := 6) (v := .bool false) rfl
            have fq6 := HN5.out.frozen 6
            refine wpAnyH_ready (rs := [14]) (by kernel_rfl) (by simp) ?_
            refine AllReadyH.cons rfl (fun K hK => ?_) AllReadyH.nil
            go_simp
            have HP := Lib.hid (show Blk (World.setCell (World.setCell (World.setCell (World.setCell (World.setCell (World.setCell (World.setCell w5 ⟨wb.heap.size, 0, none⟩ (.int .i64 v.id)) ⟨wb.heap.size, 1, none⟩ (.int .i64 v.par)) ⟨wb.heap.size, 2, none⟩ (.int .i64 v.x)) ⟨wb.heap.size, 3, none⟩ (.int .i64 v.y)) ⟨wb.heap.size, 4, none⟩ (.int .i64 v.w)) ⟨wb.heap.size, 5, none⟩ (.int .i64 v.h)) ⟨wb.heap.size, 6, none⟩ (.bool v.on)) wb.heap.size 61 #[.int .i64 v.id, .int .i64 v.par, .int .i64 v.x, .int .i64 v.y, .int .i64 v.w, .int .i64 v.h, .bool v.on] ∧ Below wb.heap.size wb (World.setCell (World.setCell (World.setCell (World.setCell (World.setCell (World.setCell (World.setCell w5 ⟨wb.heap.size, 0, none⟩ (.int .i64 v.id)) ⟨wb.heap.size, 1, none⟩ (.int .i64 v.par)) ⟨wb.heap.size, 2, none⟩ (.int .i64 v.x)) ⟨wb.heap.size, 3, none⟩ (.int .i64 v.y)) ⟨wb.heap.size, 4, none⟩ (.int .i64 v.w)) ⟨wb.heap.size, 5, none⟩ (.int .i64 v.h)) ⟨wb.heap.size, 6, none⟩ (.bool v.on)) from ⟨(((((((HN5.out.set_ 0 (.int .i64 v.id)).set_ 1 (.int .i64 v.par)).set_ 2 (.int .i64 v.x)).set_ 3 (.int .i64 v.y)).set_ 4 (.int .i64 v.w)).set_ 5 (.int .i64 v.h)).set_ 6 (.bool v.on)), (((((((HB5.out.setCell (by first | exact Nat.le_refl _ | exact HB5.out.size) _).setCell (by first | exact Nat.le_refl _ | exact HB5.out.size) _).setCell (by first | exact Nat.le_refl _ | exact HB5.out.size) _).setCell (by first | exact Nat.le_refl _ | exact HB5.out.size) _).setCell (by first | exact Nat.le_refl _ | exact HB5.out.size) _).setCell (by first | exact Nat.le_refl _ | exact HB5.out.size) _).setCell (by first | exact Nat.le_refl _ | exact HB5.out.size) _)⟩)
            refine hK.out _ _ (by exact HSB.out _ HP.out.2) (fun hHeld => ?_)
            clear hK K
            (try simp only [Act.put, p1, p2, p3, p4, p5, p6])
            refine tk 15 ?vbd15 rfl ?ybd15 ?rbd15
            case ybd15 => (intro q h; (try dsimp only at h); go_simp; (try with_reducible rfl))
            (try simp only [Act.put, p1, p2, p3, p4, p5, p6])
            refine wpAnyH_done (by kernel_rfl) ?_ _
            refine NoPanic.normal ?_
            go_wp2_with fail
            go_meet
            exact ⟨wb.heap.size, rfl, HP.out.1, HP.out.2, Nat.le_refl _⟩
        case rest =>
          obtain ⟨qw, rfl, hW, hB2, hqw⟩ := hcut
          obtain ⟨wd, hwd⟩ : ∃ wd, wd = wc := ⟨_, rfl⟩
          subst hwd
          have hP2 := hP.next hB2
          have hBB2 := hB2.on HBB.out HBB.out.size
          obtain ⟨LR, hLR⟩ : ∃ L, landR X5.R X5.L m.win = L := ⟨_, rfl⟩
          have HSF := Lib.hid (fun W : World => (show Calls Tryz.prog 55 #[.agg #[.int .i64 (-32768), .int .i64 (-32768), .int .i64 v.w, .int .i64 v.h], .int .i64 (wrap64 (ax + 32768)), .int .i64 (wrap64 (ay + 32768))] W fun e w' => e = .returned (.agg #[.int .i64 LR.x, .int .i64 LR.y, .int .i64 LR.w, .int .i64 LR.h]) ∧ Below W.heap.size W w' from by
            have h := rshift_c (-32768) (-32768) v.w v.h (wrap64 (ax + 32768)) (wrap64 (ay + 32768)) W
            have hl : shiftR (-32768) (-32768) v.w v.h (wrap64 (ax + 32768)) (wrap64 (ay + 32768)) = LR := by
              rw [← hLR]
              unfold landR
              rw [hv, hax, hay, IntWalk.i64_left, IntWalk.i64_left]
            rw [hl] at h
            exact h))
          obtain ⟨⟨y0, y1, y2, y3, y4, y5, y6⟩, -⟩ := hW.c7
          obtain ⟨⟨u0, u1⟩, -⟩ := hP2.c2
          go_upto_region 12 with (go_at_call 55; ((with_reducible refine (HSF.out _).mono ?_); rintro e we ⟨rfl, hbe⟩); skip)
          have hBe := hbe.on hBB2 hBB2.size
          have hR7 := Blk.new we 23 #[.int .i64 LR.x, .int .i64 LR.y, .int .i64 LR.w, .int .i64 LR.h]
          have hB7 : Below wr.heap.size wr (we.alloc (.cells #[.int .i64 LR.x, .int .i64 LR.y, .int .i64 LR.w, .int .i64 LR.h] 23)) := hBe.alloc hBe.size _
          have hq7 : wr.heap.size ≤ we.heap.size := hBe.size
          clear hW hP hP2 hB2 hBB2 hBe hbe y0 y1 y2 y3 y4 y5 y6 u0 u1 hqp hqw
          generalize we.alloc (.cells #[.int .i64 LR.x, .int .i64 LR.y, .int .i64 LR.w, .int .i64 LR.h] 23) = w7 at *
          generalize we.heap.size = q9 at *
          have HR7 := Lib.hid (hY.1.next hB7)
          have HBL := Lib.hid hR7
          have HB7 := Lib.hid hB7
          have m7 := (hB7.cell (World.block_lt_of_cell? _ _ HM0.out)).trans HM0.out
          have hgl : g < w7.heap.size := World.block_lt_of_cell? _ _ m7
          have HNG := Lib.hid (show ¬ Z2.foot r g from hY.1.apartM hY.2.2 rfl)
          have HNQ := Lib.hid (show ¬ Z2.foot r q9 from fun hf => by have := hY.1.foot_lt hf; omega)
          have HS12 := Lib.hid (fun (W : World) (hb : Below w7.heap.size w7 W) => (show (fun wx => wx.cell? ⟨g, j * 3, none⟩ = some (.int .i64 m.win) ∧ wx.cell? ⟨q9, 0, none⟩ = some (.int .i64 LR.x) ∧ wx.cell? ⟨q9, 1, none⟩ = some (.int .i64 LR.y)) W from ⟨(hb.cell (p := ⟨g, j * 3, none⟩) hgl).trans m7, (hR7.next hb).at_ (i := 0) rfl, (hR7.next hb).at_ (i := 1) rfl⟩))
          have HS12T := Lib.hid (fun (W : World) (Z3 : Zl) (hT : Turn (Z2.foot r) (Z3.foot r) w7 W) => (show (fun wx => wx.cell? ⟨g, j * 3, none⟩ = some (.int .i64 m.win) ∧ wx.cell? ⟨q9, 0, none⟩ = some (.int .i64 LR.x) ∧ wx.cell? ⟨q9, 1, none⟩ = some (.int .i64 LR.y)) W from ⟨cell_turn hT hgl HNG.out m7, cell_turn hT hR7.lt HNQ.out (hR7.at_ (i := 0) rfl), cell_turn hT hR7.lt HNQ.out (hR7.at_ (i := 1) rfl)⟩))
          obtain ⟨er, her⟩ : ∃ e, (tRepar X5.R m.win 0 LR.x LR.y X5.L).2 = e := ⟨_, rfl⟩
          obtain ⟨L8, hL8⟩ : ∃ L, (tRepar X5.R m.win 0 LR.x LR.y X5.L).1 = L := ⟨_, rfl⟩
          have HRE := Lib.hid (fun (W : World) (hb : Below w7.heap.size w7 W) => (show Calls Tryz.prog 57 #[refV X5.R (.slice pl X5.L.length cl), .int .i64 m.win, .int .i64 0, .agg #[.int .i64 LR.x, .int .i64 LR.y]] W fun ex w' => ChR W X5.R L8 er ex w' from by
            rw [← her, ← hL8, ← hlv]; exact (t_repar hV2.s hi6 i64_zero LR.x LR.y).2.1 W _ (HR7.out.next hb).l))
          have HPT := Lib.hid (show (if er = 0 then { X5 with R := X5.R, L := L8 } else X5) = X5.put m.win from by
            unfold Xs.put
            rw [hLR, hL8]
            split
            · rfl
            · next hne => rw [← hL8, tRepar_no (by rw [her]; exact hne)])
          have HBK := Lib.hid (show X5.back m = ((X5.put m.win).save m.win false).2 from by
            unfold Xs.back Xs.save
            rw [if_pos hs, if_neg (by show ¬ ownM m.win X5.M ≤ 0; have := how hs; omega)]
            rfl)
          have HSV := Lib.hid (fun (W : World) (Z3 : Zl) (h3 : Ref W r Z3 (X5.put m.win)) => rsave_c h3 (show (X5.put m.win).M.length ≤ 1048576 from Nat.le_trans hL2 (by decide)) m.win false)
          have hy := HR7.out.blk.at11
          rw [hlv] at hy
          have hyd := HS12.out _ (Below.drew (Below.refl _ w7))
          obtain ⟨y0, y1, y2, y3, y4, y5, -⟩ := hy
          clear hm hX5 hsn hV2 hL2 hY how hs hlv hv hax hay hth hLR her hL8 hB hB7 hR7 hgl hq7 m7
          refine wp_region_noPanic ?_
          refine wp_region_held_drew (S := fun wx => wx.cell? ⟨g, j * 3, none⟩ = some (.int .i64 m.win) ∧ wx.cell? ⟨q9, 0, none⟩ = some (.int .i64 LR.x) ∧ wx.cell? ⟨q9, 1, none⟩ = some (.int .i64 LR.y)) (by kernel_rfl) (by exact HS12.out _ (Below.drew (Below.refl _ _))) (fun hHeld => ?_)
          refine tk 0 ?vf0 rfl ?yf0 ?rf0
          case yf0 => (intro q h; (try dsimp only at h); go_simp; (try with_reducible rfl))
          (try simp only [Act.put, p1, p3, p4, p5, p6])
          refine tk 1 ?vf1 rfl ?yf1 ?rf1
          case yf1 => (intro q h; (try dsimp only at h); go_simp; (try with_reducible rfl))
          (try simp only [Act.put, p1, p2, p3, p4, p5, p6])
          refine tk 2 ?vf2 rfl ?yf2 ?rf2
          case yf2 => (intro q h; (try dsimp only at h); go_simp; (try with_reducible rfl))
          (try simp only [Act.put, p1, p2, p3, p4, p5, p6])
          refine tk 3 ?vf3 rfl ?yf3 ?rf3
          case yf3 => (intro q h; (try dsimp only at h); go_simp; (try with_reducible rfl))
          (try simp only [Act.put, p1, p2, p3, p4, p5, p6])
          refine tk 5 ?vf5 rfl ?yf5 ?rf5
          case yf5 => (intro q h; (try dsimp only at h); go_simp; (try with_reducible rfl))
          (try simp only [Act.put, p1, p2, p3, p4, p5, p6])
          refine tk 6 ?vf6 rfl ?yf6 ?rf6
          case yf6 => (intro q h; (try dsimp only at h); go_simp; (try with_reducible rfl))
          (try simp only [Act.put, p1, p2, p3, p4, p5, p6])
          refine tk 7 ?vf7 rfl ?yf7 ?rf7
          case yf7 => (intro q h; (try dsimp only at h); go_simp; (try with_reducible rfl))
          (try simp only [Act.put, p1, p2, p3, p4, p5, p6])
          refine tk 8 ?vf8 rfl ?yf8 ?rf8
          case yf8 => (intro q h; (try dsimp only at h); go_simp; (try with_reducible rfl))
          (try simp only [Act.put, p1, p2, p3, p4, p5, p6])
          refine tk 9 ?vf9 rfl ?yf9 ?rf9
          case yf9 => (intro q h; (try dsimp only at h); go_simp; (try with_reducible rfl))
          (try simp only [Act.put, p1, p2, p3, p4, p5, p6])
          refine tk 10 ?vf10 rfl ?yf10 ?rf10
          case yf10 => (intro q h; (try dsimp only at h); go_simp; (try with_reducible rfl))
          (try simp only [Act.put, p1, p2, p3, p4, p5, p6])
          refine tk 11 ?vf11 rfl ?yf11 ?rf11
          case yf11 => (intro q h; (try dsimp only at h); go_simp; (try with_reducible rfl))
          (try simp only [Act.put, p1, p2, p3, p4, p5, p6])
          refine tk 12 ?vf12 rfl ?yf12 ?rf12
          case yf12 => (intro q h; (try dsimp only at h); go_simp; (try with_reducible rfl))
          (try simp only [Act.put, p1, p2, p3, p4, p5, p6])
          refine tk 13 ?vf13 rfl ?yf13 ?rf13
          case yf13 => (intro q h; (try dsimp only at h); go_simp; (try with_reducible rfl))
          (try simp only [Act.put, p1, p2, p3, p4, p5, p6])
          refine tk 14 ?vf14 rfl ?yf14 ?rf14
          case yf14 => (intro q h; (try dsimp only at h); go_simp; (try with_reducible rfl))
          (try simp only [Act.put, p1, p2, p3, p4, p5, p6])
          refine wpAnyH_ready (rs := [4]) (by kernel_rfl) (by simp) ?_
          refine AllReadyH.cons rfl (fun K hK => ?_) AllReadyH.nil
          go_simp
          refine hK.out _ _ (by exact HS12.out _ (Below.drew (Below.refl _ _))) (fun hHeld => ?_)
          clear hK K
          (try simp only [Act.put, p1, p2, p3, p4, p5, p6])
          refine wpAnyH_ready (rs := [15]) (by kernel_rfl) (by simp) ?_
          refine AllReadyH.cons rfl (fun K hK => ?_) AllReadyH.nil
          go_simp
          refine (HRE.out _ (Below.drew (Below.refl _ _))).mono ?_
          rintro ex w8 ⟨sv8, rfl, T8, B8⟩; have hb8 := B8.on (Below.drew (Below.refl w7.heap.size w7)) (Nat.le_refl _); clear B8; obtain ⟨p8, c8, hv8⟩ := T8.slice; subst hv8; have hy8 := HS12.out _ hb8; have HCG := Lib.hid (rchange_c HR7.out hb8 (R' := X5.R) T8 er); clear T8
          (try dsimp only)
          refine hK.out _ _ (by exact hy8) (fun hHeld => ?_)
          clear hK K
          (try simp only [Act.put, p1, p2, p3, p4, p5, p6])
          refine tk 16 ?vf16 rfl ?yf16 ?rf16
          case yf16 => (intro q h; (try dsimp only at h); go_simp; (try with_reducible rfl))
          (try simp only [Act.put, p1, p2, p3, p4, p5, p6])
          refine tk 17 ?vf17 rfl ?yf17 ?rf17
          case yf17 => (intro q h; (try dsimp only at h); go_simp; (try with_reducible rfl))
          (try simp only [Act.put, p1, p2, p3, p4, p5, p6])
          refine wpAnyH_ready (rs := [18]) (by kernel_rfl) (by simp) ?_
          refine AllReadyH.cons rfl (fun K hK => ?_) AllReadyH.nil
          go_simp
          refine (HCG.out).mono ?_
          rintro ex w9 ⟨rfl, T9⟩; rw [HPT.out] at T9; obtain ⟨Z3, S3, U3⟩ := T9; have hy9 := HS12T.out _ _ U3; have HZ3 := Lib.hid (And.intro S3 U3); clear S3 U3
          (try dsimp only)
          refine hK.out _ _ (by exact hy9) (fun hHeld => ?_)
          clear hK K
          (try simp only [Act.put, p1, p2, p3, p4, p5, p6])
          refine wpAnyH_done (by kernel_rfl) ?_ _
          refine NoPanic.normal ?_
          obtain ⟨m9, -⟩ := hy9
          go_wp2_with (go_at_call 58; ((with_reducible refine (HSV.out _ _ HZ3.out.1).mono ?_); rintro e w10 ⟨rfl, hT10⟩; have HT10 := Lib.hid (RefTo.after HB7.out (RefTo.trans HZ3.out.2 hT10)); clear hT10))
          go_roundw
          case rel => exact ⟨j + 1, by omega, by go_num, HT.out _ (by rw [HBK.out]; exact HT10.out)⟩
          case measure => simp [intOf]; omega
   · obtain rfl : j = n := by omega
     rw [show M0.take j = M0 from List.take_of_length_le (by rw [HN.out]; exact Nat.le_refl _), HX2.out] at hD
     have HD := Lib.hid hD
     clear hD
     have hjj : ¬ (j : Int) < (j : Int) := by omega
     go_wp2_with fail
     go_loopw [10] (fun z wr => ∃ i : Nat, i ≤ j ∧ z = .int .i64 i ∧ LqS w r Z (.slice p j c) M0 ((M0.take i).foldl Xs.end X2) wr) (fun z _ => j - (intOf z).toNat)
     case atStart => exact ⟨0, Nat.zero_le _, rfl, HD.out⟩
     case round =>
      obtain ⟨i, hi, rfl, hD⟩ := hrel
      by_cases hlt2 : i < j
      · obtain ⟨m, hm⟩ : ∃ m, M0[i]? = some m := ⟨_, List.getElem?_eq_getElem (by rw [HN.out]; exact hlt2)⟩
        have hi6 := H64.out m (List.mem_of_getElem? hm)
        obtain ⟨Z2, hY⟩ := hD
        have HY := Lib.hid hY
        obtain ⟨g, rfl, m0, m1, -⟩ := mad_at hY.2.2 hm
        have hsn : (M0.take (i + 1)).foldl Xs.end X2 = ((M0.take i).foldl Xs.end X2).end m := by rw [show M0.take (i + 1) = M0.take i ++ [m] by rw [List.take_add_one, hm]; rfl, List.foldl_append]; rfl
        obtain ⟨hV2, hL2⟩ := HVE.out i
        obtain ⟨X6, hX6⟩ : ∃ X6, (M0.take i).foldl Xs.end X2 = X6 := ⟨_, rfl⟩
        rw [hX6] at hsn hV2 hL2 hY HY
        have HT := Lib.hid (fun (W : World) (hT : RefTo wr r Z2 (X6.end m) W) => (show LqS w r Z (.slice (some ⟨g, 0, none⟩) j c) M0 ((M0.take (i + 1)).foldl Xs.end X2) W from by rw [hsn]; exact LqS.turn HY.out hT))
        have hi0 : (0 : Int) ≤ (i : Int) := by omega
        have hi1 : (i : Int) < (j : Int) := by omega
        by_cases ho : m.own = 0
        · rw [ho] at m1
          obtain ⟨pl, cl, hlv⟩ := hY.1.l.slice
          have HSS := Lib.hid (fun (W : World) (hb : Below wr.heap.size wr W) => (show (fun wx => wx.cell? ⟨r, 0, none⟩ = some (.int .i64 X6.R.x) ∧ wx.cell? ⟨r, 1, none⟩ = some (.int .i64 X6.R.y) ∧ wx.cell? ⟨r, 2, none⟩ = some (.int .i64 X6.R.w) ∧ wx.cell? ⟨r, 3, none⟩ = some (.int .i64 X6.R.h) ∧ wx.cell? ⟨r, 4, none⟩ = some (.int .i64 X6.R.last) ∧ wx.cell? ⟨r, 5, none⟩ = some (.slice pl X6.L.length cl) ∧ wx.cell? ⟨g, i * 3, none⟩ = some (.int .i64 m.win) ∧ wx.cell? ⟨g, i * 3 + 1, none⟩ = some (.int .i64 0)) W from by
            have hy := (hY.1.next hb).blk.at11
            rw [hlv] at hy
            exact ⟨hy.1, hy.2.1, hy.2.2.1, hy.2.2.2.1, hy.2.2.2.2.1, hy.2.2.2.2.2.1, (hb.cell (World.block_lt_of_cell? _ _ m0)).trans m0, (hb.cell (World.block_lt_of_cell? _ _ m1)).trans m1⟩))
          obtain ⟨th, hth⟩ : ∃ th, thereL X6.R X6.L m.win = th := ⟨_, rfl⟩
          have HIS := Lib.hid (fun (W : World) (hb : Below wr.heap.size wr W) => (show Calls Tryz.prog 59 #[refV X6.R (.slice pl X6.L.length cl), .int .i64 m.win] W fun e w' => e = .returned (.bool th) ∧ Below W.heap.size W w' from by
            rw [← hth, ← isL_there, ← hlv]; exact is_c (RO.rd (hY.1.next hb).l) (Nat.le_trans hV2.s.big (by decide)) m.win))
          have HDE := Lib.hid (fun (W : World) (hb : Below wr.heap.size wr W) => (show Calls Tryz.prog 60 #[refP r, .int .i64 m.win] W fun ex w' => ex = .returned (.tuple #[]) ∧ RefTo wr r Z2 (X6.destroy m.win) w' from
            (rdestroy_c (HY.out.1.next hb) hV2 hL2 hi6).mono fun ex w' hh => ⟨hh.1, RefTo.after hb hh.2⟩))
          have HEN := Lib.hid (show X6.end m = if th = true then X6.destroy m.win else X6 from by unfold Xs.end; rw [hth]; simp [ho])
          clear hm hX6 hsn hV2 hL2 hY hlv hth m0 m1
          go_upto_region 17 with fail
          refine wp_region_noPanic ?_
          refine wp_region_held_drew (S := fun wx => wx.cell? ⟨r, 0, none⟩ = some (.int .i64 X6.R.x) ∧ wx.cell? ⟨r, 1, none⟩ = some (.int .i64 X6.R.y) ∧ wx.cell? ⟨r, 2, none⟩ = some (.int .i64 X6.R.w) ∧ wx.cell? ⟨r, 3, none⟩ = some (.int .i64 X6.R.h) ∧ wx.cell? ⟨r, 4, none⟩ = some (.int .i64 X6.R.last) ∧ wx.cell? ⟨r, 5, none⟩ = some (.slice pl X6.L.length cl) ∧ wx.cell? ⟨g, i * 3, none⟩ = some (.int .i64 m.win) ∧ wx.cell? ⟨g, i * 3 + 1, none⟩ = some (.int .i64 0)) (by kernel_rfl) (by exact HSS.out _ (Below.drew (Below.refl _ _))) (fun hHeld => ?_)
          refine tk 0 ?ve0 rfl ?ye0 ?re0
          case ye0 => (intro q h; (try dsimp only at h); go_simp; (try with_reducible rfl))
          (try simp only [Act.put, p1, p3, p4, p5, p6])
          refine tk 1 ?ve1 rfl ?ye1 ?re1
          case ye1 => (intro q h; (try dsimp only at h); go_simp; (try with_reducible rfl))
          (try simp only [Act.put, p1, p2, p3, p4, p5, p6])
          refine tk 2 ?ve2 rfl ?ye2 ?re2
          case ye2 => (intro q h; (try dsimp only at h); go_simp; (try with_reducible rfl))
          (try simp only [Act.put, p1, p2, p3, p4, p5, p6])
          refine tk 3 ?ve3 rfl ?ye3 ?re3
          case ye3 => (intro q h; (try dsimp only at h); go_simp; (try with_reducible rfl))
          (try simp only [Act.put, p1, p2, p3, p4, p5, p6])
          refine tk 4 ?ve4 rfl ?ye4 ?re4
          case ye4 => (intro q h; (try dsimp only at h); go_simp; (try with_reducible rfl))
          (try simp only [Act.put, p1, p2, p3, p4, p5, p6])
          refine tk 5 ?ve5 rfl ?ye5 ?re5
          case ye5 => (intro q h; (try dsimp only at h); go_simp; (try with_reducible rfl))
          (try simp only [Act.put, p1, p2, p3, p4, p5, p6])
          refine tk 6 ?ve6 rfl ?ye6 ?re6
          case ye6 => (intro q h; (try dsimp only at h); go_simp; (try with_reducible rfl))
          (try simp only [Act.put, p1, p2, p3, p4, p5, p6])
          refine tk 7 ?ve7 rfl ?ye7 ?re7
          case ye7 => (intro q h; (try dsimp only at h); go_simp; (try with_reducible rfl))
          (try simp only [Act.put, p1, p2, p3, p4, p5, p6])
          refine tk 8 ?ve8 rfl ?ye8 ?re8
          case ye8 => (intro q h; (try dsimp only at h); go_simp; (try with_reducible rfl))
          (try simp only [Act.put, p1, p2, p3, p4, p5, p6])
          refine tk 9 ?ve9 rfl ?ye9 ?re9
          case ye9 => (intro q h; (try dsimp only at h); go_simp; (try with_reducible rfl))
          (try simp only [Act.put, p1, p2, p3, p4, p5, p6])
          refine tk 10 ?ve10 rfl ?ye10 ?re10
          case ye10 => (intro q h; (try dsimp only at h); go_simp; (try with_reducible rfl))
          (try simp only [Act.put, p1, p2, p3, p4, p5, p6])
          refine tk 11 ?ve11 rfl ?ye11 ?re11
          case ye11 => (intro q h; (try dsimp only at h); go_simp; (try with_reducible rfl))
          (try simp only [Act.put, p1, p2, p3, p4, p5, p6])
          refine tk 12 ?ve12 rfl ?ye12 ?re12
          case ye12 => (intro q h; (try dsimp only at h); go_simp; (try with_reducible rfl))
          (try simp only [Act.put, p1, p2, p3, p4, p5, p6])
          refine tk 13 ?ve13 rfl ?ye13 ?re13
          case ye13 => (intro q h; (try dsimp only at h); go_simp; (try with_reducible rfl))
          (try simp only [Act.put, p1, p2, p3, p4, p5, p6])
          refine tk 14 ?ve14 rfl ?ye14 ?re14
          case ye14 => (intro q h; (try dsimp only at h); go_simp; (try with_reducible rfl))
          (try simp only [Act.put, p1, p2, p3, p4, p5, p6])
          refine tk 15 ?ve15 rfl ?ye15 ?re15
          case ye15 => (intro q h; (try dsimp only at h); go_simp; (try with_reducible rfl))
          (try simp only [Act.put, p1, p2, p3, p4, p5, p6])
          refine wpAnyH_ready (rs := [16]) (by kernel_rfl) (by simp) ?_
          refine AllReadyH.cons rfl (fun K hK => ?_) AllReadyH.nil
          go_simp
          refine (HIS.out _ (Below.drew (Below.refl _ _))).mono ?_
          rintro ex w5 ⟨rfl, T5⟩; have HB5 := Lib.hid (T5.on (Below.drew (Below.refl wr.heap.size wr)) (Nat.le_refl _)); clear T5
          (try dsimp only)
          refine hK.out _ _ (by exact HSS.out _ HB5.out) (fun hHeld => ?_)
          clear hK K
          (try simp only [Act.put, p1, p2, p3, p4, p5, p6])
          refine tk 17 ?ve17 rfl ?ye17 ?re17
          case ye17 => (intro q h; (try dsimp only at h); go_simp; (try with_reducible rfl))
          (try simp only [Act.put, p1, p2, p3, p4, p5, p6])
          refine wpAnyH_done (by kernel_rfl) ?_ _
          refine NoPanic.normal ?_
          obtain ⟨-, -, -, -, -, -, m0, -⟩ := HSS.out _ HB5.out
          cases th with
          | true =>
            go_wp2_with (go_at_call 60; ((with_reducible refine (HDE.out _ HB5.out).mono ?_); rintro e w6 ⟨rfl, hT6⟩; have HT6 := Lib.hid hT6; clear hT6))
            go_roundw
            case rel => exact ⟨i + 1, by omega, by go_num, HT.out _ (by rw [HEN.out]; simpa using HT6.out)⟩
            case measure => simp [intOf]; omega
          | false =>
            go_wp2_with fail
            go_roundw
            case rel => exact ⟨i + 1, by omega, by go_num, HT.out _ (by rw [HEN.out, if_neg (by simp)]; exact RefTo.same HY.out.1 HB5.out)⟩
            case measure => simp [intOf]; omega
        · have hen : X6.end m = X6 := by unfold Xs.end; rw [if_neg fun e => ho e.1]
          have ho1 : (m.own == 0) = false := by simpa using ho
          rw [hen] at HT
          clear hm hX6 hsn hV2 hL2 hY hen
          go_upto_region 17 with fail
          go_quiet (fail)
          go_wp2_with fail
          go_roundw
          case rel => exact ⟨i + 1, by omega, by go_num, HT.out _ (RefTo.same HY.out.1 (below_drewN (Below.refl _ _) _))⟩
          case measure => simp [intOf]; omega
      · obtain rfl : i = j := by omega
        rw [show M0.take i = M0 from List.take_of_length_le (by rw [HN.out]; exact Nat.le_refl _), HX3.out] at hD
        obtain ⟨Z3, S3, U3, -⟩ := hD
        have HS := Lib.hid (And.intro S3 U3)
        clear S3 U3
        go_wp2_with (go_at_call 61; ((with_reducible refine (HLK.out _ _ HS.out.1).mono ?_); rintro e w5 ⟨rfl, hT5⟩); have HT5 := Lib.hid (RefTo.trans HS.out.2 hT5); clear hT5)
        go_ret
        exact ⟨rfl, HT5.out⟩
end
end Go.Proofs.YtnhchpiafchdgaaGreat
