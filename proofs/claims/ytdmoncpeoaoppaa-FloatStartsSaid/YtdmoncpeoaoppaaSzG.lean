/- Sides in the code: widths. Its first region draws its order: two calls in a chain, two allocs that may come at any time, two stores: each order is written out (wip/gensw.py). -/
import Derived.Test.YtdmoncpeoaoppaaSzF
import Derived.Deep.RegionLaw
namespace Go.Proofs.Ytdmoncpeoaoppaa
open Go.RowKit
namespace Sz
theorem SB.put4 {W : World} {g : Nat} {s0 : Sd} (a : SB W g s0) (s : Sd) : SB ((World.setCell (World.setCell (World.setCell (World.setCell W ⟨g, 0, none⟩ (.int .i64 s.l)) ⟨g, 1, none⟩ (.int .i64 s.m)) ⟨g, 2, none⟩ (.int .i64 s.b)) ⟨g, 3, none⟩ (.int .i64 s.i))) g s := (((Blk.set_ a 0 (.int .i64 s.l)).set_ 1 (.int .i64 s.m)).set_ 2 (.int .i64 s.b)).set_ 3 (.int .i64 s.i)
theorem SB.far4 {W : World} {g g' : Nat} {s0 : Sd} (a : SB W g' s0) (hn : g' ≠ g) (s : Sd) : SB ((World.setCell (World.setCell (World.setCell (World.setCell W ⟨g, 0, none⟩ (.int .i64 s.l)) ⟨g, 1, none⟩ (.int .i64 s.m)) ⟨g, 2, none⟩ (.int .i64 s.b)) ⟨g, 3, none⟩ (.int .i64 s.i))) g' s0 := (((a.far hn _).far hn _).far hn _).far hn _
theorem HB.far4 {W : World} {g g' : Nat} {s0 : Hn} (a : HB W g' s0) (hn : g' ≠ g) (s : Sd) : HB ((World.setCell (World.setCell (World.setCell (World.setCell W ⟨g, 0, none⟩ (.int .i64 s.l)) ⟨g, 1, none⟩ (.int .i64 s.m)) ⟨g, 2, none⟩ (.int .i64 s.b)) ⟨g, 3, none⟩ (.int .i64 s.i))) g' s0 := (((a.far hn _).far hn _).far hn _).far hn _
theorem below_set4 {B : Nat} {w0 W : World} {g : Nat} (a : Below B w0 W) (hg : B ≤ g) (s : Sd) : Below B w0 ((World.setCell (World.setCell (World.setCell (World.setCell W ⟨g, 0, none⟩ (.int .i64 s.l)) ⟨g, 1, none⟩ (.int .i64 s.m)) ⟨g, 2, none⟩ (.int .i64 s.b)) ⟨g, 3, none⟩ (.int .i64 s.i))) := (((a.setCell hg _).setCell hg _).setCell hg _).setCell hg _
set_option maxHeartbeats 4000000 in
theorem widths_c (h : Hn) (hb : Bd h) (w : World) : Calls Try.prog 77 #[.agg #[.int .i64 h.minW, .int .i64 h.minH, .int .i64 h.maxW, .int .i64 h.maxH, .int .i64 h.baseW, .int .i64 h.baseH, .int .i64 h.incW, .int .i64 h.incH, .int .i64 h.lowX, .int .i64 h.lowY, .int .i64 h.highX, .int .i64 h.highY]] w fun e w' => e = .returned (.agg #[.int .i64 (widthsS h).l, .int .i64 (widthsS h).m, .int .i64 (widthsS h).b, .int .i64 (widthsS h).i]) ∧ Below w.heap.size w w' := by
  have A0 := ((HB.new w h).alloc (.cells #[.int .i64 0, .int .i64 0, .int .i64 0, .int .i64 0] 70))
  have A1 := SB.zero (w.alloc (.cells (#[.int .i64 h.minW, .int .i64 h.minH, .int .i64 h.maxW, .int .i64 h.maxH, .int .i64 h.baseW, .int .i64 h.baseH, .int .i64 h.incW, .int .i64 h.incH, .int .i64 h.lowX, .int .i64 h.lowY, .int .i64 h.highX, .int .i64 h.highY]) 25))
  simp only [World.size_alloc] at A1
  have W0 : Below w.heap.size w ((w.alloc (.cells (#[.int .i64 h.minW, .int .i64 h.minH, .int .i64 h.maxW, .int .i64 h.maxH, .int .i64 h.baseW, .int .i64 h.baseH, .int .i64 h.incW, .int .i64 h.incH, .int .i64 h.lowX, .int .i64 h.lowY, .int .i64 h.highX, .int .i64 h.highY]) 25)).alloc (.cells #[.int .i64 0, .int .i64 0, .int .i64 0, .int .i64 0] 70)) := by repeat' (first | (with_reducible exact Below.refl _ _) | (with_reducible assumption) | (with_reducible refine Below.alloc ?_ ?_ _) | (with_reducible refine Below.drew ?_) | (with_reducible refine Below.setCell ?_ ?_ _) | (with_reducible refine Below.on (by with_reducible assumption) ?_ ?_) | go_size)
  obtain ⟨sW, hsW⟩ : ∃ s, wideS h = s := ⟨_, rfl⟩
  obtain ⟨sT, hsT⟩ : ∃ s, tallS h = s := ⟨_, rfl⟩
  have HWd := Lib.hid (fun W : World => wide_c h W)
  have HTl := Lib.hid (fun W : World => tall_c h W)
  rw [hsW] at HWd
  rw [hsT] at HTl
  have hTb := tall_b hb
  have hWb := wide_b hb
  rw [hsT] at hTb
  rw [hsW] at hWb
  obtain ⟨v, hv⟩ : ∃ v, widthsS h = v := ⟨_, rfl⟩
  rw [hv]
  have HA2 := Lib.hid A0
  have HA3 := Lib.hid A1
  have HW2 := Lib.hid W0
  clear A0 A1 W0
  go_enter Try.func77, Try.ntmps77
  go_upto_region 1 with fail
  go_cut [3, 4] (fun s3 s4 wx => ∃ g3 g4, s3 = .pointer (some ⟨g3, 0, none⟩) ∧ s4 = .pointer (some ⟨g4, 0, none⟩) ∧ HB wx w.heap.size h ∧ SB wx (w.heap.size + 1) zeroS ∧ SB wx g3 sW ∧ SB wx g4 sT ∧ Below w.heap.size w wx)
  case first =>
    have H0 := HB.drew HA2.out
    have Z0 := SB.drew HA3.out
    have B0 := Below.drew HW2.out
    refine wp_region_noPanic ?_
    refine wp_region_held_drew (S := fun wx => wx.cell? ⟨w.heap.size, 0, none⟩ = some (.int .i64 h.minW) ∧ wx.cell? ⟨w.heap.size, 1, none⟩ = some (.int .i64 h.minH) ∧ wx.cell? ⟨w.heap.size, 2, none⟩ = some (.int .i64 h.maxW) ∧ wx.cell? ⟨w.heap.size, 3, none⟩ = some (.int .i64 h.maxH) ∧ wx.cell? ⟨w.heap.size, 4, none⟩ = some (.int .i64 h.baseW) ∧ wx.cell? ⟨w.heap.size, 5, none⟩ = some (.int .i64 h.baseH) ∧ wx.cell? ⟨w.heap.size, 6, none⟩ = some (.int .i64 h.incW) ∧ wx.cell? ⟨w.heap.size, 7, none⟩ = some (.int .i64 h.incH) ∧ wx.cell? ⟨w.heap.size, 8, none⟩ = some (.int .i64 h.lowX) ∧ wx.cell? ⟨w.heap.size, 9, none⟩ = some (.int .i64 h.lowY) ∧ wx.cell? ⟨w.heap.size, 10, none⟩ = some (.int .i64 h.highX) ∧ wx.cell? ⟨w.heap.size, 11, none⟩ = some (.int .i64 h.highY)) (by kernel_rfl) (by exact H0.out.1) (fun hHeld => ?_)
    refine wpAnyH_take (i := 0) (v := ?v0) rfl (by kernel_rfl) (by kernel_rfl) (by kernel_rfl) (fun _ _ _ h => h) (Or.inl ⟨by kernel_rfl, ?y0⟩) (by assumption) ?r0
    case y0 => (intro wq hSw; (try dsimp only at hSw); go_simp; (try with_reducible rfl))
    (try simp only [Act.put, List.getElem_toArray, List.getElem_cons_zero, List.setIfInBounds_toArray, List.set_cons_zero, List.set_cons_succ])
    refine wpAnyH_take (i := 2) (v := ?v2) rfl (by kernel_rfl) (by kernel_rfl) (by kernel_rfl) (fun _ _ _ h => h) (Or.inl ⟨by kernel_rfl, ?y2⟩) (by assumption) ?r2
    case y2 => (intro wq hSw; (try dsimp only at hSw); go_simp; (try with_reducible rfl))
    (try simp only [Act.put, List.getElem_toArray, List.getElem_cons_succ, List.getElem_cons_zero, List.setIfInBounds_toArray, List.set_cons_zero, List.set_cons_succ])
    generalize hw0 : World.drew _ = w0 at *
    refine wpAnyH_ready (rs := [1, 4, 5]) (by kernel_rfl) (by simp) ?_
    refine (AllReadyH.cons rfl (fun K hK => ?_) (AllReadyH.cons rfl (fun K hK => ?_) (AllReadyH.cons rfl (fun K hK => ?_) AllReadyH.nil)))
    · skip
      go_simp
      refine (HWd.out _).mono ?_
      rintro e w1 ⟨rfl, hb1⟩
      (try dsimp only)
      have H1 := H0.next hb1
      have Z1 := Z0.next hb1
      have B1 := bnext B0 hb1 B0.size
      refine hK.out _ _ (by exact H1.out.1) (fun hHeld => ?_)
      clear hK K
      (try simp only [Act.put, List.getElem_toArray, List.getElem_cons_succ, List.getElem_cons_zero, List.setIfInBounds_toArray, List.set_cons_zero, List.set_cons_succ])
      refine wpAnyH_ready (rs := [3, 4, 5]) (by kernel_rfl) (by simp) ?_
      refine (AllReadyH.cons rfl (fun K hK => ?_) (AllReadyH.cons rfl (fun K hK => ?_) (AllReadyH.cons rfl (fun K hK => ?_) AllReadyH.nil)))
      · skip
        go_simp
        refine (HTl.out _).mono ?_
        rintro e w2 ⟨rfl, hb2⟩
        (try dsimp only)
        have H2 := H1.next hb2
        have Z2 := Z1.next hb2
        have B2 := bnext B1 hb2 B1.size
        refine hK.out _ _ (by exact H2.out.1) (fun hHeld => ?_)
        clear hK K
        (try simp only [Act.put, List.getElem_toArray, List.getElem_cons_succ, List.getElem_cons_zero, List.setIfInBounds_toArray, List.set_cons_zero, List.set_cons_succ])
        refine wpAnyH_ready (rs := [4, 5]) (by kernel_rfl) (by simp) ?_
        refine (AllReadyH.cons rfl (fun K hK => ?_) (AllReadyH.cons rfl (fun K hK => ?_) AllReadyH.nil))
        · skip
          go_simp
          have H3 := H2.alloc (.cells #[.int .i64 0, .int .i64 0, .int .i64 0, .int .i64 0] 70)
          have lH3 := H2.raw.lt
          have Z3 := Z2.alloc (.cells #[.int .i64 0, .int .i64 0, .int .i64 0, .int .i64 0] 70)
          have lZ3 := Z2.raw.lt
          have P33 := SB.zero w2
          have B3 := B2.alloc B2.size (.cells #[.int .i64 0, .int .i64 0, .int .i64 0, .int .i64 0] 70)
          have hLg3 := B2.size
          generalize World.alloc w2 (.cells #[.int .i64 0, .int .i64 0, .int .i64 0, .int .i64 0] 70) = w3 at *
          generalize hg3 : w2.heap.size = g3 at *
          have nH3 := Nat.ne_of_lt lH3
          have nZ3 := Nat.ne_of_lt lZ3
          clear lH3 lZ3
          refine hK.out _ _ (by exact H3.out.1) (fun hHeld => ?_)
          clear hK K
          (try simp only [Act.put, List.getElem_toArray, List.getElem_cons_succ, List.getElem_cons_zero, List.setIfInBounds_toArray, List.set_cons_zero, List.set_cons_succ])
          refine wpAnyH_ready (rs := [5]) (by kernel_rfl) (by simp) ?_
          refine (AllReadyH.cons rfl (fun K hK => ?_) AllReadyH.nil)
          go_simp
          have H4 := H3.alloc (.cells #[.int .i64 0, .int .i64 0, .int .i64 0, .int .i64 0] 70)
          have lH4 := H3.raw.lt
          have Z4 := Z3.alloc (.cells #[.int .i64 0, .int .i64 0, .int .i64 0, .int .i64 0] 70)
          have lZ4 := Z3.raw.lt
          have P34 := P33.alloc (.cells #[.int .i64 0, .int .i64 0, .int .i64 0, .int .i64 0] 70)
          have lP34 := P33.raw.lt
          have P44 := SB.zero w3
          have B4 := B3.alloc B3.size (.cells #[.int .i64 0, .int .i64 0, .int .i64 0, .int .i64 0] 70)
          have hLg4 := B3.size
          generalize World.alloc w3 (.cells #[.int .i64 0, .int .i64 0, .int .i64 0, .int .i64 0] 70) = w4 at *
          generalize hg4 : w3.heap.size = g4 at *
          have nH4 := Nat.ne_of_lt lH4
          have nZ4 := Nat.ne_of_lt lZ4
          have nP34 := Nat.ne_of_lt lP34
          clear lH4 lZ4 lP34
          refine hK.out _ _ (by exact H4.out.1) (fun hHeld => ?_)
          clear hK K
          (try simp only [Act.put, List.getElem_toArray, List.getElem_cons_succ, List.getElem_cons_zero, List.setIfInBounds_toArray, List.set_cons_zero, List.set_cons_succ])
          refine wpAnyH_ready (rs := [6]) (by kernel_rfl) (by simp) ?_
          refine (AllReadyH.cons rfl (fun K hK => ?_) AllReadyH.nil)
          obtain ⟨⟨q50, q51, q52, q53⟩, ⟨q5f0, q5f1, q5f2, q5f3⟩⟩ := P34.out
          go_simp
          clear q50 q5f0 q51 q5f1 q52 q5f2 q53 q5f3
          have H5 := H4.far4 nH3 sW
          have Z5 := Z4.far4 nZ3 sW
          have P35 := P34.put4 sW
          have P45 := P44.far4 (Ne.symm nP34) sW
          have B5 := below_set4 B4 hLg3 sW
          generalize (World.setCell (World.setCell (World.setCell (World.setCell w4 ⟨g3, 0, none⟩ (.int .i64 sW.l)) ⟨g3, 1, none⟩ (.int .i64 sW.m)) ⟨g3, 2, none⟩ (.int .i64 sW.b)) ⟨g3, 3, none⟩ (.int .i64 sW.i)) = w5 at *
          refine hK.out _ _ (by exact H5.out.1) (fun hHeld => ?_)
          clear hK K
          (try simp only [Act.put, List.getElem_toArray, List.getElem_cons_succ, List.getElem_cons_zero, List.setIfInBounds_toArray, List.set_cons_zero, List.set_cons_succ])
          refine wpAnyH_ready (rs := [7]) (by kernel_rfl) (by simp) ?_
          refine (AllReadyH.cons rfl (fun K hK => ?_) AllReadyH.nil)
          obtain ⟨⟨q60, q61, q62, q63⟩, ⟨q6f0, q6f1, q6f2, q6f3⟩⟩ := P45.out
          go_simp
          clear q60 q6f0 q61 q6f1 q62 q6f2 q63 q6f3
          have H6 := H5.far4 nH4 sT
          have Z6 := Z5.far4 nZ4 sT
          have P36 := P35.far4 nP34 sT
          have P46 := P45.put4 sT
          have B6 := below_set4 B5 hLg4 sT
          generalize (World.setCell (World.setCell (World.setCell (World.setCell w5 ⟨g4, 0, none⟩ (.int .i64 sT.l)) ⟨g4, 1, none⟩ (.int .i64 sT.m)) ⟨g4, 2, none⟩ (.int .i64 sT.b)) ⟨g4, 3, none⟩ (.int .i64 sT.i)) = w6 at *
          refine hK.out _ _ (by exact H6.out.1) (fun hHeld => ?_)
          clear hK K
          (try simp only [Act.put, List.getElem_toArray, List.getElem_cons_succ, List.getElem_cons_zero, List.setIfInBounds_toArray, List.set_cons_zero, List.set_cons_succ])
          refine wpAnyH_done (by kernel_rfl) ?_ _
          refine NoPanic.normal ?_
          go_wp2_with fail
          go_meet
          exact ⟨_, _, rfl, rfl, H6, Z6, P36, P46, B6⟩
        · skip
          go_simp
          have H7 := H2.alloc (.cells #[.int .i64 0, .int .i64 0, .int .i64 0, .int .i64 0] 70)
          have lH7 := H2.raw.lt
          have Z7 := Z2.alloc (.cells #[.int .i64 0, .int .i64 0, .int .i64 0, .int .i64 0] 70)
          have lZ7 := Z2.raw.lt
          have P47 := SB.zero w2
          have B7 := B2.alloc B2.size (.cells #[.int .i64 0, .int .i64 0, .int .i64 0, .int .i64 0] 70)
          have hLg4 := B2.size
          generalize World.alloc w2 (.cells #[.int .i64 0, .int .i64 0, .int .i64 0, .int .i64 0] 70) = w7 at *
          generalize hg7 : w2.heap.size = g4 at *
          have nH7 := Nat.ne_of_lt lH7
          have nZ7 := Nat.ne_of_lt lZ7
          clear lH7 lZ7
          refine hK.out _ _ (by exact H7.out.1) (fun hHeld => ?_)
          clear hK K
          (try simp only [Act.put, List.getElem_toArray, List.getElem_cons_succ, List.getElem_cons_zero, List.setIfInBounds_toArray, List.set_cons_zero, List.set_cons_succ])
          refine wpAnyH_ready (rs := [4]) (by kernel_rfl) (by simp) ?_
          refine (AllReadyH.cons rfl (fun K hK => ?_) AllReadyH.nil)
          go_simp
          have H8 := H7.alloc (.cells #[.int .i64 0, .int .i64 0, .int .i64 0, .int .i64 0] 70)
          have lH8 := H7.raw.lt
          have Z8 := Z7.alloc (.cells #[.int .i64 0, .int .i64 0, .int .i64 0, .int .i64 0] 70)
          have lZ8 := Z7.raw.lt
          have P48 := P47.alloc (.cells #[.int .i64 0, .int .i64 0, .int .i64 0, .int .i64 0] 70)
          have lP48 := P47.raw.lt
          have P38 := SB.zero w7
          have B8 := B7.alloc B7.size (.cells #[.int .i64 0, .int .i64 0, .int .i64 0, .int .i64 0] 70)
          have hLg3 := B7.size
          generalize World.alloc w7 (.cells #[.int .i64 0, .int .i64 0, .int .i64 0, .int .i64 0] 70) = w8 at *
          generalize hg8 : w7.heap.size = g3 at *
          have nH8 := Nat.ne_of_lt lH8
          have nZ8 := Nat.ne_of_lt lZ8
          have nP48 := Nat.ne_of_lt lP48
          clear lH8 lZ8 lP48
          refine hK.out _ _ (by exact H8.out.1) (fun hHeld => ?_)
          clear hK K
          (try simp only [Act.put, List.getElem_toArray, List.getElem_cons_succ, List.getElem_cons_zero, List.setIfInBounds_toArray, List.set_cons_zero, List.set_cons_succ])
          refine wpAnyH_ready (rs := [6]) (by kernel_rfl) (by simp) ?_
          refine (AllReadyH.cons rfl (fun K hK => ?_) AllReadyH.nil)
          obtain ⟨⟨q90, q91, q92, q93⟩, ⟨q9f0, q9f1, q9f2, q9f3⟩⟩ := P38.out
          go_simp
          clear q90 q9f0 q91 q9f1 q92 q9f2 q93 q9f3
          have H9 := H8.far4 nH8 sW
          have Z9 := Z8.far4 nZ8 sW
          have P39 := P38.put4 sW
          have P49 := P48.far4 nP48 sW
          have B9 := below_set4 B8 hLg3 sW
          generalize (World.setCell (World.setCell (World.setCell (World.setCell w8 ⟨g3, 0, none⟩ (.int .i64 sW.l)) ⟨g3, 1, none⟩ (.int .i64 sW.m)) ⟨g3, 2, none⟩ (.int .i64 sW.b)) ⟨g3, 3, none⟩ (.int .i64 sW.i)) = w9 at *
          refine hK.out _ _ (by exact H9.out.1) (fun hHeld => ?_)
          clear hK K
          (try simp only [Act.put, List.getElem_toArray, List.getElem_cons_succ, List.getElem_cons_zero, List.setIfInBounds_toArray, List.set_cons_zero, List.set_cons_succ])
          refine wpAnyH_ready (rs := [7]) (by kernel_rfl) (by simp) ?_
          refine (AllReadyH.cons rfl (fun K hK => ?_) AllReadyH.nil)
          obtain ⟨⟨q100, q101, q102, q103⟩, ⟨q10f0, q10f1, q10f2, q10f3⟩⟩ := P49.out
          go_simp
          clear q100 q10f0 q101 q10f1 q102 q10f2 q103 q10f3
          have H10 := H9.far4 nH7 sT
          have Z10 := Z9.far4 nZ7 sT
          have P310 := P39.far4 (Ne.symm nP48) sT
          have P410 := P49.put4 sT
          have B10 := below_set4 B9 hLg4 sT
          generalize (World.setCell (World.setCell (World.setCell (World.setCell w9 ⟨g4, 0, none⟩ (.int .i64 sT.l)) ⟨g4, 1, none⟩ (.int .i64 sT.m)) ⟨g4, 2, none⟩ (.int .i64 sT.b)) ⟨g4, 3, none⟩ (.int .i64 sT.i)) = w10 at *
          refine hK.out _ _ (by exact H10.out.1) (fun hHeld => ?_)
          clear hK K
          (try simp only [Act.put, List.getElem_toArray, List.getElem_cons_succ, List.getElem_cons_zero, List.setIfInBounds_toArray, List.set_cons_zero, List.set_cons_succ])
          refine wpAnyH_done (by kernel_rfl) ?_ _
          refine NoPanic.normal ?_
          go_wp2_with fail
          go_meet
          exact ⟨_, _, rfl, rfl, H10, Z10, P310, P410, B10⟩
      · skip
        go_simp
        have H11 := H1.alloc (.cells #[.int .i64 0, .int .i64 0, .int .i64 0, .int .i64 0] 70)
        have lH11 := H1.raw.lt
        have Z11 := Z1.alloc (.cells #[.int .i64 0, .int .i64 0, .int .i64 0, .int .i64 0] 70)
        have lZ11 := Z1.raw.lt
        have P311 := SB.zero w1
        have B11 := B1.alloc B1.size (.cells #[.int .i64 0, .int .i64 0, .int .i64 0, .int .i64 0] 70)
        have hLg3 := B1.size
        generalize World.alloc w1 (.cells #[.int .i64 0, .int .i64 0, .int .i64 0, .int .i64 0] 70) = w11 at *
        generalize hg11 : w1.heap.size = g3 at *
        have nH11 := Nat.ne_of_lt lH11
        have nZ11 := Nat.ne_of_lt lZ11
        clear lH11 lZ11
        refine hK.out _ _ (by exact H11.out.1) (fun hHeld => ?_)
        clear hK K
        (try simp only [Act.put, List.getElem_toArray, List.getElem_cons_succ, List.getElem_cons_zero, List.setIfInBounds_toArray, List.set_cons_zero, List.set_cons_succ])
        refine wpAnyH_ready (rs := [3, 5]) (by kernel_rfl) (by simp) ?_
        refine (AllReadyH.cons rfl (fun K hK => ?_) (AllReadyH.cons rfl (fun K hK => ?_) AllReadyH.nil))
        · skip
          go_simp
          refine (HTl.out _).mono ?_
          rintro e w12 ⟨rfl, hb12⟩
          (try dsimp only)
          have H12 := H11.next hb12
          have Z12 := Z11.next hb12
          have P312 := P311.next hb12
          have B12 := bnext B11 hb12 B11.size
          refine hK.out _ _ (by exact H12.out.1) (fun hHeld => ?_)
          clear hK K
          (try simp only [Act.put, List.getElem_toArray, List.getElem_cons_succ, List.getElem_cons_zero, List.setIfInBounds_toArray, List.set_cons_zero, List.set_cons_succ])
          refine wpAnyH_ready (rs := [5]) (by kernel_rfl) (by simp) ?_
          refine (AllReadyH.cons rfl (fun K hK => ?_) AllReadyH.nil)
          go_simp
          have H13 := H12.alloc (.cells #[.int .i64 0, .int .i64 0, .int .i64 0, .int .i64 0] 70)
          have lH13 := H12.raw.lt
          have Z13 := Z12.alloc (.cells #[.int .i64 0, .int .i64 0, .int .i64 0, .int .i64 0] 70)
          have lZ13 := Z12.raw.lt
          have P313 := P312.alloc (.cells #[.int .i64 0, .int .i64 0, .int .i64 0, .int .i64 0] 70)
          have lP313 := P312.raw.lt
          have P413 := SB.zero w12
          have B13 := B12.alloc B12.size (.cells #[.int .i64 0, .int .i64 0, .int .i64 0, .int .i64 0] 70)
          have hLg4 := B12.size
          generalize World.alloc w12 (.cells #[.int .i64 0, .int .i64 0, .int .i64 0, .int .i64 0] 70) = w13 at *
          generalize hg13 : w12.heap.size = g4 at *
          have nH13 := Nat.ne_of_lt lH13
          have nZ13 := Nat.ne_of_lt lZ13
          have nP313 := Nat.ne_of_lt lP313
          clear lH13 lZ13 lP313
          refine hK.out _ _ (by exact H13.out.1) (fun hHeld => ?_)
          clear hK K
          (try simp only [Act.put, List.getElem_toArray, List.getElem_cons_succ, List.getElem_cons_zero, List.setIfInBounds_toArray, List.set_cons_zero, List.set_cons_succ])
          refine wpAnyH_ready (rs := [6]) (by kernel_rfl) (by simp) ?_
          refine (AllReadyH.cons rfl (fun K hK => ?_) AllReadyH.nil)
          obtain ⟨⟨q140, q141, q142, q143⟩, ⟨q14f0, q14f1, q14f2, q14f3⟩⟩ := P313.out
          go_simp
          clear q140 q14f0 q141 q14f1 q142 q14f2 q143 q14f3
          have H14 := H13.far4 nH11 sW
          have Z14 := Z13.far4 nZ11 sW
          have P314 := P313.put4 sW
          have P414 := P413.far4 (Ne.symm nP313) sW
          have B14 := below_set4 B13 hLg3 sW
          generalize (World.setCell (World.setCell (World.setCell (World.setCell w13 ⟨g3, 0, none⟩ (.int .i64 sW.l)) ⟨g3, 1, none⟩ (.int .i64 sW.m)) ⟨g3, 2, none⟩ (.int .i64 sW.b)) ⟨g3, 3, none⟩ (.int .i64 sW.i)) = w14 at *
          refine hK.out _ _ (by exact H14.out.1) (fun hHeld => ?_)
          clear hK K
          (try simp only [Act.put, List.getElem_toArray, List.getElem_cons_succ, List.getElem_cons_zero, List.setIfInBounds_toArray, List.set_cons_zero, List.set_cons_succ])
          refine wpAnyH_ready (rs := [7]) (by kernel_rfl) (by simp) ?_
          refine (AllReadyH.cons rfl (fun K hK => ?_) AllReadyH.nil)
          obtain ⟨⟨q150, q151, q152, q153⟩, ⟨q15f0, q15f1, q15f2, q15f3⟩⟩ := P414.out
          go_simp
          clear q150 q15f0 q151 q15f1 q152 q15f2 q153 q15f3
          have H15 := H14.far4 nH13 sT
          have Z15 := Z14.far4 nZ13 sT
          have P315 := P314.far4 nP313 sT
          have P415 := P414.put4 sT
          have B15 := below_set4 B14 hLg4 sT
          generalize (World.setCell (World.setCell (World.setCell (World.setCell w14 ⟨g4, 0, none⟩ (.int .i64 sT.l)) ⟨g4, 1, none⟩ (.int .i64 sT.m)) ⟨g4, 2, none⟩ (.int .i64 sT.b)) ⟨g4, 3, none⟩ (.int .i64 sT.i)) = w15 at *
          refine hK.out _ _ (by exact H15.out.1) (fun hHeld => ?_)
          clear hK K
          (try simp only [Act.put, List.getElem_toArray, List.getElem_cons_succ, List.getElem_cons_zero, List.setIfInBounds_toArray, List.set_cons_zero, List.set_cons_succ])
          refine wpAnyH_done (by kernel_rfl) ?_ _
          refine NoPanic.normal ?_
          go_wp2_with fail
          go_meet
          exact ⟨_, _, rfl, rfl, H15, Z15, P315, P415, B15⟩
        · skip
          go_simp
          have H16 := H11.alloc (.cells #[.int .i64 0, .int .i64 0, .int .i64 0, .int .i64 0] 70)
          have lH16 := H11.raw.lt
          have Z16 := Z11.alloc (.cells #[.int .i64 0, .int .i64 0, .int .i64 0, .int .i64 0] 70)
          have lZ16 := Z11.raw.lt
          have P316 := P311.alloc (.cells #[.int .i64 0, .int .i64 0, .int .i64 0, .int .i64 0] 70)
          have lP316 := P311.raw.lt
          have P416 := SB.zero w11
          have B16 := B11.alloc B11.size (.cells #[.int .i64 0, .int .i64 0, .int .i64 0, .int .i64 0] 70)
          have hLg4 := B11.size
          generalize World.alloc w11 (.cells #[.int .i64 0, .int .i64 0, .int .i64 0, .int .i64 0] 70) = w16 at *
          generalize hg16 : w11.heap.size = g4 at *
          have nH16 := Nat.ne_of_lt lH16
          have nZ16 := Nat.ne_of_lt lZ16
          have nP316 := Nat.ne_of_lt lP316
          clear lH16 lZ16 lP316
          refine hK.out _ _ (by exact H16.out.1) (fun hHeld => ?_)
          clear hK K
          (try simp only [Act.put, List.getElem_toArray, List.getElem_cons_succ, List.getElem_cons_zero, List.setIfInBounds_toArray, List.set_cons_zero, List.set_cons_succ])
          refine wpAnyH_ready (rs := [3]) (by kernel_rfl) (by simp) ?_
          refine (AllReadyH.cons rfl (fun K hK => ?_) AllReadyH.nil)
          go_simp
          refine (HTl.out _).mono ?_
          rintro e w17 ⟨rfl, hb17⟩
          (try dsimp only)
          have H17 := H16.next hb17
          have Z17 := Z16.next hb17
          have P317 := P316.next hb17
          have P417 := P416.next hb17
          have B17 := bnext B16 hb17 B16.size
          refine hK.out _ _ (by exact H17.out.1) (fun hHeld => ?_)
          clear hK K
          (try simp only [Act.put, List.getElem_toArray, List.getElem_cons_succ, List.getElem_cons_zero, List.setIfInBounds_toArray, List.set_cons_zero, List.set_cons_succ])
          refine wpAnyH_ready (rs := [6]) (by kernel_rfl) (by simp) ?_
          refine (AllReadyH.cons rfl (fun K hK => ?_) AllReadyH.nil)
          obtain ⟨⟨q180, q181, q182, q183⟩, ⟨q18f0, q18f1, q18f2, q18f3⟩⟩ := P317.out
          go_simp
          clear q180 q18f0 q181 q18f1 q182 q18f2 q183 q18f3
          have H18 := H17.far4 nH11 sW
          have Z18 := Z17.far4 nZ11 sW
          have P318 := P317.put4 sW
          have P418 := P417.far4 (Ne.symm nP316) sW
          have B18 := below_set4 B17 hLg3 sW
          generalize (World.setCell (World.setCell (World.setCell (World.setCell w17 ⟨g3, 0, none⟩ (.int .i64 sW.l)) ⟨g3, 1, none⟩ (.int .i64 sW.m)) ⟨g3, 2, none⟩ (.int .i64 sW.b)) ⟨g3, 3, none⟩ (.int .i64 sW.i)) = w18 at *
          refine hK.out _ _ (by exact H18.out.1) (fun hHeld => ?_)
          clear hK K
          (try simp only [Act.put, List.getElem_toArray, List.getElem_cons_succ, List.getElem_cons_zero, List.setIfInBounds_toArray, List.set_cons_zero, List.set_cons_succ])
          refine wpAnyH_ready (rs := [7]) (by kernel_rfl) (by simp) ?_
          refine (AllReadyH.cons rfl (fun K hK => ?_) AllReadyH.nil)
          obtain ⟨⟨q190, q191, q192, q193⟩, ⟨q19f0, q19f1, q19f2, q19f3⟩⟩ := P418.out
          go_simp
          clear q190 q19f0 q191 q19f1 q192 q19f2 q193 q19f3
          have H19 := H18.far4 nH16 sT
          have Z19 := Z18.far4 nZ16 sT
          have P319 := P318.far4 nP316 sT
          have P419 := P418.put4 sT
          have B19 := below_set4 B18 hLg4 sT
          generalize (World.setCell (World.setCell (World.setCell (World.setCell w18 ⟨g4, 0, none⟩ (.int .i64 sT.l)) ⟨g4, 1, none⟩ (.int .i64 sT.m)) ⟨g4, 2, none⟩ (.int .i64 sT.b)) ⟨g4, 3, none⟩ (.int .i64 sT.i)) = w19 at *
          refine hK.out _ _ (by exact H19.out.1) (fun hHeld => ?_)
          clear hK K
          (try simp only [Act.put, List.getElem_toArray, List.getElem_cons_succ, List.getElem_cons_zero, List.setIfInBounds_toArray, List.set_cons_zero, List.set_cons_succ])
          refine wpAnyH_done (by kernel_rfl) ?_ _
          refine NoPanic.normal ?_
          go_wp2_with fail
          go_meet
          exact ⟨_, _, rfl, rfl, H19, Z19, P319, P419, B19⟩
      · skip
        go_simp
        have H20 := H1.alloc (.cells #[.int .i64 0, .int .i64 0, .int .i64 0, .int .i64 0] 70)
        have lH20 := H1.raw.lt
        have Z20 := Z1.alloc (.cells #[.int .i64 0, .int .i64 0, .int .i64 0, .int .i64 0] 70)
        have lZ20 := Z1.raw.lt
        have P420 := SB.zero w1
        have B20 := B1.alloc B1.size (.cells #[.int .i64 0, .int .i64 0, .int .i64 0, .int .i64 0] 70)
        have hLg4 := B1.size
        generalize World.alloc w1 (.cells #[.int .i64 0, .int .i64 0, .int .i64 0, .int .i64 0] 70) = w20 at *
        generalize hg20 : w1.heap.size = g4 at *
        have nH20 := Nat.ne_of_lt lH20
        have nZ20 := Nat.ne_of_lt lZ20
        clear lH20 lZ20
        refine hK.out _ _ (by exact H20.out.1) (fun hHeld => ?_)
        clear hK K
        (try simp only [Act.put, List.getElem_toArray, List.getElem_cons_succ, List.getElem_cons_zero, List.setIfInBounds_toArray, List.set_cons_zero, List.set_cons_succ])
        refine wpAnyH_ready (rs := [3, 4]) (by kernel_rfl) (by simp) ?_
        refine (AllReadyH.cons rfl (fun K hK => ?_) (AllReadyH.cons rfl (fun K hK => ?_) AllReadyH.nil))
        · skip
          go_simp
          refine (HTl.out _).mono ?_
          rintro e w21 ⟨rfl, hb21⟩
          (try dsimp only)
          have H21 := H20.next hb21
          have Z21 := Z20.next hb21
          have P421 := P420.next hb21
          have B21 := bnext B20 hb21 B20.size
          refine hK.out _ _ (by exact H21.out.1) (fun hHeld => ?_)
          clear hK K
          (try simp only [Act.put, List.getElem_toArray, List.getElem_cons_succ, List.getElem_cons_zero, List.setIfInBounds_toArray, List.set_cons_zero, List.set_cons_succ])
          refine wpAnyH_ready (rs := [4]) (by kernel_rfl) (by simp) ?_
          refine (AllReadyH.cons rfl (fun K hK => ?_) AllReadyH.nil)
          go_simp
          have H22 := H21.alloc (.cells #[.int .i64 0, .int .i64 0, .int .i64 0, .int .i64 0] 70)
          have lH22 := H21.raw.lt
          have Z22 := Z21.alloc (.cells #[.int .i64 0, .int .i64 0, .int .i64 0, .int .i64 0] 70)
          have lZ22 := Z21.raw.lt
          have P422 := P421.alloc (.cells #[.int .i64 0, .int .i64 0, .int .i64 0, .int .i64 0] 70)
          have lP422 := P421.raw.lt
          have P322 := SB.zero w21
          have B22 := B21.alloc B21.size (.cells #[.int .i64 0, .int .i64 0, .int .i64 0, .int .i64 0] 70)
          have hLg3 := B21.size
          generalize World.alloc w21 (.cells #[.int .i64 0, .int .i64 0, .int .i64 0, .int .i64 0] 70) = w22 at *
          generalize hg22 : w21.heap.size = g3 at *
          have nH22 := Nat.ne_of_lt lH22
          have nZ22 := Nat.ne_of_lt lZ22
          have nP422 := Nat.ne_of_lt lP422
          clear lH22 lZ22 lP422
          refine hK.out _ _ (by exact H22.out.1) (fun hHeld => ?_)
          clear hK K
          (try simp only [Act.put, List.getElem_toArray, List.getElem_cons_succ, List.getElem_cons_zero, List.setIfInBounds_toArray, List.set_cons_zero, List.set_cons_succ])
          refine wpAnyH_ready (rs := [6]) (by kernel_rfl) (by simp) ?_
          refine (AllReadyH.cons rfl (fun K hK => ?_) AllReadyH.nil)
          obtain ⟨⟨q230, q231, q232, q233⟩, ⟨q23f0, q23f1, q23f2, q23f3⟩⟩ := P322.out
          go_simp
          clear q230 q23f0 q231 q23f1 q232 q23f2 q233 q23f3
          have H23 := H22.far4 nH22 sW
          have Z23 := Z22.far4 nZ22 sW
          have P323 := P322.put4 sW
          have P423 := P422.far4 nP422 sW
          have B23 := below_set4 B22 hLg3 sW
          generalize (World.setCell (World.setCell (World.setCell (World.setCell w22 ⟨g3, 0, none⟩ (.int .i64 sW.l)) ⟨g3, 1, none⟩ (.int .i64 sW.m)) ⟨g3, 2, none⟩ (.int .i64 sW.b)) ⟨g3, 3, none⟩ (.int .i64 sW.i)) = w23 at *
          refine hK.out _ _ (by exact H23.out.1) (fun hHeld => ?_)
          clear hK K
          (try simp only [Act.put, List.getElem_toArray, List.getElem_cons_succ, List.getElem_cons_zero, List.setIfInBounds_toArray, List.set_cons_zero, List.set_cons_succ])
          refine wpAnyH_ready (rs := [7]) (by kernel_rfl) (by simp) ?_
          refine (AllReadyH.cons rfl (fun K hK => ?_) AllReadyH.nil)
          obtain ⟨⟨q240, q241, q242, q243⟩, ⟨q24f0, q24f1, q24f2, q24f3⟩⟩ := P423.out
          go_simp
          clear q240 q24f0 q241 q24f1 q242 q24f2 q243 q24f3
          have H24 := H23.far4 nH20 sT
          have Z24 := Z23.far4 nZ20 sT
          have P324 := P323.far4 (Ne.symm nP422) sT
          have P424 := P423.put4 sT
          have B24 := below_set4 B23 hLg4 sT
          generalize (World.setCell (World.setCell (World.setCell (World.setCell w23 ⟨g4, 0, none⟩ (.int .i64 sT.l)) ⟨g4, 1, none⟩ (.int .i64 sT.m)) ⟨g4, 2, none⟩ (.int .i64 sT.b)) ⟨g4, 3, none⟩ (.int .i64 sT.i)) = w24 at *
          refine hK.out _ _ (by exact H24.out.1) (fun hHeld => ?_)
          clear hK K
          (try simp only [Act.put, List.getElem_toArray, List.getElem_cons_succ, List.getElem_cons_zero, List.setIfInBounds_toArray, List.set_cons_zero, List.set_cons_succ])
          refine wpAnyH_done (by kernel_rfl) ?_ _
          refine NoPanic.normal ?_
          go_wp2_with fail
          go_meet
          exact ⟨_, _, rfl, rfl, H24, Z24, P324, P424, B24⟩
        · skip
          go_simp
          have H25 := H20.alloc (.cells #[.int .i64 0, .int .i64 0, .int .i64 0, .int .i64 0] 70)
          have lH25 := H20.raw.lt
          have Z25 := Z20.alloc (.cells #[.int .i64 0, .int .i64 0, .int .i64 0, .int .i64 0] 70)
          have lZ25 := Z20.raw.lt
          have P425 := P420.alloc (.cells #[.int .i64 0, .int .i64 0, .int .i64 0, .int .i64 0] 70)
          have lP425 := P420.raw.lt
          have P325 := SB.zero w20
          have B25 := B20.alloc B20.size (.cells #[.int .i64 0, .int .i64 0, .int .i64 0, .int .i64 0] 70)
          have hLg3 := B20.size
          generalize World.alloc w20 (.cells #[.int .i64 0, .int .i64 0, .int .i64 0, .int .i64 0] 70) = w25 at *
          generalize hg25 : w20.heap.size = g3 at *
          have nH25 := Nat.ne_of_lt lH25
          have nZ25 := Nat.ne_of_lt lZ25
          have nP425 := Nat.ne_of_lt lP425
          clear lH25 lZ25 lP425
          refine hK.out _ _ (by exact H25.out.1) (fun hHeld => ?_)
          clear hK K
          (try simp only [Act.put, List.getElem_toArray, List.getElem_cons_succ, List.getElem_cons_zero, List.setIfInBounds_toArray, List.set_cons_zero, List.set_cons_succ])
          refine wpAnyH_ready (rs := [3]) (by kernel_rfl) (by simp) ?_
          refine (AllReadyH.cons rfl (fun K hK => ?_) AllReadyH.nil)
          go_simp
          refine (HTl.out _).mono ?_
          rintro e w26 ⟨rfl, hb26⟩
          (try dsimp only)
          have H26 := H25.next hb26
          have Z26 := Z25.next hb26
          have P326 := P325.next hb26
          have P426 := P425.next hb26
          have B26 := bnext B25 hb26 B25.size
          refine hK.out _ _ (by exact H26.out.1) (fun hHeld => ?_)
          clear hK K
          (try simp only [Act.put, List.getElem_toArray, List.getElem_cons_succ, List.getElem_cons_zero, List.setIfInBounds_toArray, List.set_cons_zero, List.set_cons_succ])
          refine wpAnyH_ready (rs := [6]) (by kernel_rfl) (by simp) ?_
          refine (AllReadyH.cons rfl (fun K hK => ?_) AllReadyH.nil)
          obtain ⟨⟨q270, q271, q272, q273⟩, ⟨q27f0, q27f1, q27f2, q27f3⟩⟩ := P326.out
          go_simp
          clear q270 q27f0 q271 q27f1 q272 q27f2 q273 q27f3
          have H27 := H26.far4 nH25 sW
          have Z27 := Z26.far4 nZ25 sW
          have P327 := P326.put4 sW
          have P427 := P426.far4 nP425 sW
          have B27 := below_set4 B26 hLg3 sW
          generalize (World.setCell (World.setCell (World.setCell (World.setCell w26 ⟨g3, 0, none⟩ (.int .i64 sW.l)) ⟨g3, 1, none⟩ (.int .i64 sW.m)) ⟨g3, 2, none⟩ (.int .i64 sW.b)) ⟨g3, 3, none⟩ (.int .i64 sW.i)) = w27 at *
          refine hK.out _ _ (by exact H27.out.1) (fun hHeld => ?_)
          clear hK K
          (try simp only [Act.put, List.getElem_toArray, List.getElem_cons_succ, List.getElem_cons_zero, List.setIfInBounds_toArray, List.set_cons_zero, List.set_cons_succ])
          refine wpAnyH_ready (rs := [7]) (by kernel_rfl) (by simp) ?_
          refine (AllReadyH.cons rfl (fun K hK => ?_) AllReadyH.nil)
          obtain ⟨⟨q280, q281, q282, q283⟩, ⟨q28f0, q28f1, q28f2, q28f3⟩⟩ := P427.out
          go_simp
          clear q280 q28f0 q281 q28f1 q282 q28f2 q283 q28f3
          have H28 := H27.far4 nH20 sT
          have Z28 := Z27.far4 nZ20 sT
          have P328 := P327.far4 (Ne.symm nP425) sT
          have P428 := P427.put4 sT
          have B28 := below_set4 B27 hLg4 sT
          generalize (World.setCell (World.setCell (World.setCell (World.setCell w27 ⟨g4, 0, none⟩ (.int .i64 sT.l)) ⟨g4, 1, none⟩ (.int .i64 sT.m)) ⟨g4, 2, none⟩ (.int .i64 sT.b)) ⟨g4, 3, none⟩ (.int .i64 sT.i)) = w28 at *
          refine hK.out _ _ (by exact H28.out.1) (fun hHeld => ?_)
          clear hK K
          (try simp only [Act.put, List.getElem_toArray, List.getElem_cons_succ, List.getElem_cons_zero, List.setIfInBounds_toArray, List.set_cons_zero, List.set_cons_succ])
          refine wpAnyH_done (by kernel_rfl) ?_ _
          refine NoPanic.normal ?_
          go_wp2_with fail
          go_meet
          exact ⟨_, _, rfl, rfl, H28, Z28, P328, P428, B28⟩
    · skip
      go_simp
      have H29 := H0.alloc (.cells #[.int .i64 0, .int .i64 0, .int .i64 0, .int .i64 0] 70)
      have lH29 := H0.raw.lt
      have Z29 := Z0.alloc (.cells #[.int .i64 0, .int .i64 0, .int .i64 0, .int .i64 0] 70)
      have lZ29 := Z0.raw.lt
      have P329 := SB.zero w0
      have B29 := B0.alloc B0.size (.cells #[.int .i64 0, .int .i64 0, .int .i64 0, .int .i64 0] 70)
      have hLg3 := B0.size
      generalize World.alloc w0 (.cells #[.int .i64 0, .int .i64 0, .int .i64 0, .int .i64 0] 70) = w29 at *
      generalize hg29 : w0.heap.size = g3 at *
      have nH29 := Nat.ne_of_lt lH29
      have nZ29 := Nat.ne_of_lt lZ29
      clear lH29 lZ29
      refine hK.out _ _ (by exact H29.out.1) (fun hHeld => ?_)
      clear hK K
      (try simp only [Act.put, List.getElem_toArray, List.getElem_cons_succ, List.getElem_cons_zero, List.setIfInBounds_toArray, List.set_cons_zero, List.set_cons_succ])
      refine wpAnyH_ready (rs := [1, 5]) (by kernel_rfl) (by simp) ?_
      refine (AllReadyH.cons rfl (fun K hK => ?_) (AllReadyH.cons rfl (fun K hK => ?_) AllReadyH.nil))
      · skip
        go_simp
        refine (HWd.out _).mono ?_
        rintro e w30 ⟨rfl, hb30⟩
        (try dsimp only)
        have H30 := H29.next hb30
        have Z30 := Z29.next hb30
        have P330 := P329.next hb30
        have B30 := bnext B29 hb30 B29.size
        refine hK.out _ _ (by exact H30.out.1) (fun hHeld => ?_)
        clear hK K
        (try simp only [Act.put, List.getElem_toArray, List.getElem_cons_succ, List.getElem_cons_zero, List.setIfInBounds_toArray, List.set_cons_zero, List.set_cons_succ])
        refine wpAnyH_ready (rs := [3, 5]) (by kernel_rfl) (by simp) ?_
        refine (AllReadyH.cons rfl (fun K hK => ?_) (AllReadyH.cons rfl (fun K hK => ?_) AllReadyH.nil))
        · skip
          go_simp
          refine (HTl.out _).mono ?_
          rintro e w31 ⟨rfl, hb31⟩
          (try dsimp only)
          have H31 := H30.next hb31
          have Z31 := Z30.next hb31
          have P331 := P330.next hb31
          have B31 := bnext B30 hb31 B30.size
          refine hK.out _ _ (by exact H31.out.1) (fun hHeld => ?_)
          clear hK K
          (try simp only [Act.put, List.getElem_toArray, List.getElem_cons_succ, List.getElem_cons_zero, List.setIfInBounds_toArray, List.set_cons_zero, List.set_cons_succ])
          refine wpAnyH_ready (rs := [5]) (by kernel_rfl) (by simp) ?_
          refine (AllReadyH.cons rfl (fun K hK => ?_) AllReadyH.nil)
          go_simp
          have H32 := H31.alloc (.cells #[.int .i64 0, .int .i64 0, .int .i64 0, .int .i64 0] 70)
          have lH32 := H31.raw.lt
          have Z32 := Z31.alloc (.cells #[.int .i64 0, .int .i64 0, .int .i64 0, .int .i64 0] 70)
          have lZ32 := Z31.raw.lt
          have P332 := P331.alloc (.cells #[.int .i64 0, .int .i64 0, .int .i64 0, .int .i64 0] 70)
          have lP332 := P331.raw.lt
          have P432 := SB.zero w31
          have B32 := B31.alloc B31.size (.cells #[.int .i64 0, .int .i64 0, .int .i64 0, .int .i64 0] 70)
          have hLg4 := B31.size
          generalize World.alloc w31 (.cells #[.int .i64 0, .int .i64 0, .int .i64 0, .int .i64 0] 70) = w32 at *
          generalize hg32 : w31.heap.size = g4 at *
          have nH32 := Nat.ne_of_lt lH32
          have nZ32 := Nat.ne_of_lt lZ32
          have nP332 := Nat.ne_of_lt lP332
          clear lH32 lZ32 lP332
          refine hK.out _ _ (by exact H32.out.1) (fun hHeld => ?_)
          clear hK K
          (try simp only [Act.put, List.getElem_toArray, List.getElem_cons_succ, List.getElem_cons_zero, List.setIfInBounds_toArray, List.set_cons_zero, List.set_cons_succ])
          refine wpAnyH_ready (rs := [6]) (by kernel_rfl) (by simp) ?_
          refine (AllReadyH.cons rfl (fun K hK => ?_) AllReadyH.nil)
          obtain ⟨⟨q330, q331, q332, q333⟩, ⟨q33f0, q33f1, q33f2, q33f3⟩⟩ := P332.out
          go_simp
          clear q330 q33f0 q331 q33f1 q332 q33f2 q333 q33f3
          have H33 := H32.far4 nH29 sW
          have Z33 := Z32.far4 nZ29 sW
          have P333 := P332.put4 sW
          have P433 := P432.far4 (Ne.symm nP332) sW
          have B33 := below_set4 B32 hLg3 sW
          generalize (World.setCell (World.setCell (World.setCell (World.setCell w32 ⟨g3, 0, none⟩ (.int .i64 sW.l)) ⟨g3, 1, none⟩ (.int .i64 sW.m)) ⟨g3, 2, none⟩ (.int .i64 sW.b)) ⟨g3, 3, none⟩ (.int .i64 sW.i)) = w33 at *
          refine hK.out _ _ (by exact H33.out.1) (fun hHeld => ?_)
          clear hK K
          (try simp only [Act.put, List.getElem_toArray, List.getElem_cons_succ, List.getElem_cons_zero, List.setIfInBounds_toArray, List.set_cons_zero, List.set_cons_succ])
          refine wpAnyH_ready (rs := [7]) (by kernel_rfl) (by simp) ?_
          refine (AllReadyH.cons rfl (fun K hK => ?_) AllReadyH.nil)
          obtain ⟨⟨q340, q341, q342, q343⟩, ⟨q34f0, q34f1, q34f2, q34f3⟩⟩ := P433.out
          go_simp
          clear q340 q34f0 q341 q34f1 q342 q34f2 q343 q34f3
          have H34 := H33.far4 nH32 sT
          have Z34 := Z33.far4 nZ32 sT
          have P334 := P333.far4 nP332 sT
          have P434 := P433.put4 sT
          have B34 := below_set4 B33 hLg4 sT
          generalize (World.setCell (World.setCell (World.setCell (World.setCell w33 ⟨g4, 0, none⟩ (.int .i64 sT.l)) ⟨g4, 1, none⟩ (.int .i64 sT.m)) ⟨g4, 2, none⟩ (.int .i64 sT.b)) ⟨g4, 3, none⟩ (.int .i64 sT.i)) = w34 at *
          refine hK.out _ _ (by exact H34.out.1) (fun hHeld => ?_)
          clear hK K
          (try simp only [Act.put, List.getElem_toArray, List.getElem_cons_succ, List.getElem_cons_zero, List.setIfInBounds_toArray, List.set_cons_zero, List.set_cons_succ])
          refine wpAnyH_done (by kernel_rfl) ?_ _
          refine NoPanic.normal ?_
          go_wp2_with fail
          go_meet
          exact ⟨_, _, rfl, rfl, H34, Z34, P334, P434, B34⟩
        · skip
          go_simp
          have H35 := H30.alloc (.cells #[.int .i64 0, .int .i64 0, .int .i64 0, .int .i64 0] 70)
          have lH35 := H30.raw.lt
          have Z35 := Z30.alloc (.cells #[.int .i64 0, .int .i64 0, .int .i64 0, .int .i64 0] 70)
          have lZ35 := Z30.raw.lt
          have P335 := P330.alloc (.cells #[.int .i64 0, .int .i64 0, .int .i64 0, .int .i64 0] 70)
          have lP335 := P330.raw.lt
          have P435 := SB.zero w30
          have B35 := B30.alloc B30.size (.cells #[.int .i64 0, .int .i64 0, .int .i64 0, .int .i64 0] 70)
          have hLg4 := B30.size
          generalize World.alloc w30 (.cells #[.int .i64 0, .int .i64 0, .int .i64 0, .int .i64 0] 70) = w35 at *
          generalize hg35 : w30.heap.size = g4 at *
          have nH35 := Nat.ne_of_lt lH35
          have nZ35 := Nat.ne_of_lt lZ35
          have nP335 := Nat.ne_of_lt lP335
          clear lH35 lZ35 lP335
          refine hK.out _ _ (by exact H35.out.1) (fun hHeld => ?_)
          clear hK K
          (try simp only [Act.put, List.getElem_toArray, List.getElem_cons_succ, List.getElem_cons_zero, List.setIfInBounds_toArray, List.set_cons_zero, List.set_cons_succ])
          refine wpAnyH_ready (rs := [3]) (by kernel_rfl) (by simp) ?_
          refine (AllReadyH.cons rfl (fun K hK => ?_) AllReadyH.nil)
          go_simp
          refine (HTl.out _).mono ?_
          rintro e w36 ⟨rfl, hb36⟩
          (try dsimp only)
          have H36 := H35.next hb36
          have Z36 := Z35.next hb36
          have P336 := P335.next hb36
          have P436 := P435.next hb36
          have B36 := bnext B35 hb36 B35.size
          refine hK.out _ _ (by exact H36.out.1) (fun hHeld => ?_)
          clear hK K
          (try simp only [Act.put, List.getElem_toArray, List.getElem_cons_succ, List.getElem_cons_zero, List.setIfInBounds_toArray, List.set_cons_zero, List.set_cons_succ])
          refine wpAnyH_ready (rs := [6]) (by kernel_rfl) (by simp) ?_
          refine (AllReadyH.cons rfl (fun K hK => ?_) AllReadyH.nil)
          obtain ⟨⟨q370, q371, q372, q373⟩, ⟨q37f0, q37f1, q37f2, q37f3⟩⟩ := P336.out
          go_simp
          clear q370 q37f0 q371 q37f1 q372 q37f2 q373 q37f3
          have H37 := H36.far4 nH29 sW
          have Z37 := Z36.far4 nZ29 sW
          have P337 := P336.put4 sW
          have P437 := P436.far4 (Ne.symm nP335) sW
          have B37 := below_set4 B36 hLg3 sW
          generalize (World.setCell (World.setCell (World.setCell (World.setCell w36 ⟨g3, 0, none⟩ (.int .i64 sW.l)) ⟨g3, 1, none⟩ (.int .i64 sW.m)) ⟨g3, 2, none⟩ (.int .i64 sW.b)) ⟨g3, 3, none⟩ (.int .i64 sW.i)) = w37 at *
          refine hK.out _ _ (by exact H37.out.1) (fun hHeld => ?_)
          clear hK K
          (try simp only [Act.put, List.getElem_toArray, List.getElem_cons_succ, List.getElem_cons_zero, List.setIfInBounds_toArray, List.set_cons_zero, List.set_cons_succ])
          refine wpAnyH_ready (rs := [7]) (by kernel_rfl) (by simp) ?_
          refine (AllReadyH.cons rfl (fun K hK => ?_) AllReadyH.nil)
          obtain ⟨⟨q380, q381, q382, q383⟩, ⟨q38f0, q38f1, q38f2, q38f3⟩⟩ := P437.out
          go_simp
          clear q380 q38f0 q381 q38f1 q382 q38f2 q383 q38f3
          have H38 := H37.far4 nH35 sT
          have Z38 := Z37.far4 nZ35 sT
          have P338 := P337.far4 nP335 sT
          have P438 := P437.put4 sT
          have B38 := below_set4 B37 hLg4 sT
          generalize (World.setCell (World.setCell (World.setCell (World.setCell w37 ⟨g4, 0, none⟩ (.int .i64 sT.l)) ⟨g4, 1, none⟩ (.int .i64 sT.m)) ⟨g4, 2, none⟩ (.int .i64 sT.b)) ⟨g4, 3, none⟩ (.int .i64 sT.i)) = w38 at *
          refine hK.out _ _ (by exact H38.out.1) (fun hHeld => ?_)
          clear hK K
          (try simp only [Act.put, List.getElem_toArray, List.getElem_cons_succ, List.getElem_cons_zero, List.setIfInBounds_toArray, List.set_cons_zero, List.set_cons_succ])
          refine wpAnyH_done (by kernel_rfl) ?_ _
          refine NoPanic.normal ?_
          go_wp2_with fail
          go_meet
          exact ⟨_, _, rfl, rfl, H38, Z38, P338, P438, B38⟩
      · skip
        go_simp
        have H39 := H29.alloc (.cells #[.int .i64 0, .int .i64 0, .int .i64 0, .int .i64 0] 70)
        have lH39 := H29.raw.lt
        have Z39 := Z29.alloc (.cells #[.int .i64 0, .int .i64 0, .int .i64 0, .int .i64 0] 70)
        have lZ39 := Z29.raw.lt
        have P339 := P329.alloc (.cells #[.int .i64 0, .int .i64 0, .int .i64 0, .int .i64 0] 70)
        have lP339 := P329.raw.lt
        have P439 := SB.zero w29
        have B39 := B29.alloc B29.size (.cells #[.int .i64 0, .int .i64 0, .int .i64 0, .int .i64 0] 70)
        have hLg4 := B29.size
        generalize World.alloc w29 (.cells #[.int .i64 0, .int .i64 0, .int .i64 0, .int .i64 0] 70) = w39 at *
        generalize hg39 : w29.heap.size = g4 at *
        have nH39 := Nat.ne_of_lt lH39
        have nZ39 := Nat.ne_of_lt lZ39
        have nP339 := Nat.ne_of_lt lP339
        clear lH39 lZ39 lP339
        refine hK.out _ _ (by exact H39.out.1) (fun hHeld => ?_)
        clear hK K
        (try simp only [Act.put, List.getElem_toArray, List.getElem_cons_succ, List.getElem_cons_zero, List.setIfInBounds_toArray, List.set_cons_zero, List.set_cons_succ])
        refine wpAnyH_ready (rs := [1]) (by kernel_rfl) (by simp) ?_
        refine (AllReadyH.cons rfl (fun K hK => ?_) AllReadyH.nil)
        go_simp
        refine (HWd.out _).mono ?_
        rintro e w40 ⟨rfl, hb40⟩
        (try dsimp only)
        have H40 := H39.next hb40
        have Z40 := Z39.next hb40
        have P340 := P339.next hb40
        have P440 := P439.next hb40
        have B40 := bnext B39 hb40 B39.size
        refine hK.out _ _ (by exact H40.out.1) (fun hHeld => ?_)
        clear hK K
        (try simp only [Act.put, List.getElem_toArray, List.getElem_cons_succ, List.getElem_cons_zero, List.setIfInBounds_toArray, List.set_cons_zero, List.set_cons_succ])
        refine wpAnyH_ready (rs := [3]) (by kernel_rfl) (by simp) ?_
        refine (AllReadyH.cons rfl (fun K hK => ?_) AllReadyH.nil)
        go_simp
        refine (HTl.out _).mono ?_
        rintro e w41 ⟨rfl, hb41⟩
        (try dsimp only)
        have H41 := H40.next hb41
        have Z41 := Z40.next hb41
        have P341 := P340.next hb41
        have P441 := P440.next hb41
        have B41 := bnext B40 hb41 B40.size
        refine hK.out _ _ (by exact H41.out.1) (fun hHeld => ?_)
        clear hK K
        (try simp only [Act.put, List.getElem_toArray, List.getElem_cons_succ, List.getElem_cons_zero, List.setIfInBounds_toArray, List.set_cons_zero, List.set_cons_succ])
        refine wpAnyH_ready (rs := [6]) (by kernel_rfl) (by simp) ?_
        refine (AllReadyH.cons rfl (fun K hK => ?_) AllReadyH.nil)
        obtain ⟨⟨q420, q421, q422, q423⟩, ⟨q42f0, q42f1, q42f2, q42f3⟩⟩ := P341.out
        go_simp
        clear q420 q42f0 q421 q42f1 q422 q42f2 q423 q42f3
        have H42 := H41.far4 nH29 sW
        have Z42 := Z41.far4 nZ29 sW
        have P342 := P341.put4 sW
        have P442 := P441.far4 (Ne.symm nP339) sW
        have B42 := below_set4 B41 hLg3 sW
        generalize (World.setCell (World.setCell (World.setCell (World.setCell w41 ⟨g3, 0, none⟩ (.int .i64 sW.l)) ⟨g3, 1, none⟩ (.int .i64 sW.m)) ⟨g3, 2, none⟩ (.int .i64 sW.b)) ⟨g3, 3, none⟩ (.int .i64 sW.i)) = w42 at *
        refine hK.out _ _ (by exact H42.out.1) (fun hHeld => ?_)
        clear hK K
        (try simp only [Act.put, List.getElem_toArray, List.getElem_cons_succ, List.getElem_cons_zero, List.setIfInBounds_toArray, List.set_cons_zero, List.set_cons_succ])
        refine wpAnyH_ready (rs := [7]) (by kernel_rfl) (by simp) ?_
        refine (AllReadyH.cons rfl (fun K hK => ?_) AllReadyH.nil)
        obtain ⟨⟨q430, q431, q432, q433⟩, ⟨q43f0, q43f1, q43f2, q43f3⟩⟩ := P442.out
        go_simp
        clear q430 q43f0 q431 q43f1 q432 q43f2 q433 q43f3
        have H43 := H42.far4 nH39 sT
        have Z43 := Z42.far4 nZ39 sT
        have P343 := P342.far4 nP339 sT
        have P443 := P442.put4 sT
        have B43 := below_set4 B42 hLg4 sT
        generalize (World.setCell (World.setCell (World.setCell (World.setCell w42 ⟨g4, 0, none⟩ (.int .i64 sT.l)) ⟨g4, 1, none⟩ (.int .i64 sT.m)) ⟨g4, 2, none⟩ (.int .i64 sT.b)) ⟨g4, 3, none⟩ (.int .i64 sT.i)) = w43 at *
        refine hK.out _ _ (by exact H43.out.1) (fun hHeld => ?_)
        clear hK K
        (try simp only [Act.put, List.getElem_toArray, List.getElem_cons_succ, List.getElem_cons_zero, List.setIfInBounds_toArray, List.set_cons_zero, List.set_cons_succ])
        refine wpAnyH_done (by kernel_rfl) ?_ _
        refine NoPanic.normal ?_
        go_wp2_with fail
        go_meet
        exact ⟨_, _, rfl, rfl, H43, Z43, P343, P443, B43⟩
    · skip
      go_simp
      have H44 := H0.alloc (.cells #[.int .i64 0, .int .i64 0, .int .i64 0, .int .i64 0] 70)
      have lH44 := H0.raw.lt
      have Z44 := Z0.alloc (.cells #[.int .i64 0, .int .i64 0, .int .i64 0, .int .i64 0] 70)
      have lZ44 := Z0.raw.lt
      have P444 := SB.zero w0
      have B44 := B0.alloc B0.size (.cells #[.int .i64 0, .int .i64 0, .int .i64 0, .int .i64 0] 70)
      have hLg4 := B0.size
      generalize World.alloc w0 (.cells #[.int .i64 0, .int .i64 0, .int .i64 0, .int .i64 0] 70) = w44 at *
      generalize hg44 : w0.heap.size = g4 at *
      have nH44 := Nat.ne_of_lt lH44
      have nZ44 := Nat.ne_of_lt lZ44
      clear lH44 lZ44
      refine hK.out _ _ (by exact H44.out.1) (fun hHeld => ?_)
      clear hK K
      (try simp only [Act.put, List.getElem_toArray, List.getElem_cons_succ, List.getElem_cons_zero, List.setIfInBounds_toArray, List.set_cons_zero, List.set_cons_succ])
      refine wpAnyH_ready (rs := [1, 4]) (by kernel_rfl) (by simp) ?_
      refine (AllReadyH.cons rfl (fun K hK => ?_) (AllReadyH.cons rfl (fun K hK => ?_) AllReadyH.nil))
      · skip
        go_simp
        refine (HWd.out _).mono ?_
        rintro e w45 ⟨rfl, hb45⟩
        (try dsimp only)
        have H45 := H44.next hb45
        have Z45 := Z44.next hb45
        have P445 := P444.next hb45
        have B45 := bnext B44 hb45 B44.size
        refine hK.out _ _ (by exact H45.out.1) (fun hHeld => ?_)
        clear hK K
        (try simp only [Act.put, List.getElem_toArray, List.getElem_cons_succ, List.getElem_cons_zero, List.setIfInBounds_toArray, List.set_cons_zero, List.set_cons_succ])
        refine wpAnyH_ready (rs := [3, 4]) (by kernel_rfl) (by simp) ?_
        refine (AllReadyH.cons rfl (fun K hK => ?_) (AllReadyH.cons rfl (fun K hK => ?_) AllReadyH.nil))
        · skip
          go_simp
          refine (HTl.out _).mono ?_
          rintro e w46 ⟨rfl, hb46⟩
          (try dsimp only)
          have H46 := H45.next hb46
          have Z46 := Z45.next hb46
          have P446 := P445.next hb46
          have B46 := bnext B45 hb46 B45.size
          refine hK.out _ _ (by exact H46.out.1) (fun hHeld => ?_)
          clear hK K
          (try simp only [Act.put, List.getElem_toArray, List.getElem_cons_succ, List.getElem_cons_zero, List.setIfInBounds_toArray, List.set_cons_zero, List.set_cons_succ])
          refine wpAnyH_ready (rs := [4]) (by kernel_rfl) (by simp) ?_
          refine (AllReadyH.cons rfl (fun K hK => ?_) AllReadyH.nil)
          go_simp
          have H47 := H46.alloc (.cells #[.int .i64 0, .int .i64 0, .int .i64 0, .int .i64 0] 70)
          have lH47 := H46.raw.lt
          have Z47 := Z46.alloc (.cells #[.int .i64 0, .int .i64 0, .int .i64 0, .int .i64 0] 70)
          have lZ47 := Z46.raw.lt
          have P447 := P446.alloc (.cells #[.int .i64 0, .int .i64 0, .int .i64 0, .int .i64 0] 70)
          have lP447 := P446.raw.lt
          have P347 := SB.zero w46
          have B47 := B46.alloc B46.size (.cells #[.int .i64 0, .int .i64 0, .int .i64 0, .int .i64 0] 70)
          have hLg3 := B46.size
          generalize World.alloc w46 (.cells #[.int .i64 0, .int .i64 0, .int .i64 0, .int .i64 0] 70) = w47 at *
          generalize hg47 : w46.heap.size = g3 at *
          have nH47 := Nat.ne_of_lt lH47
          have nZ47 := Nat.ne_of_lt lZ47
          have nP447 := Nat.ne_of_lt lP447
          clear lH47 lZ47 lP447
          refine hK.out _ _ (by exact H47.out.1) (fun hHeld => ?_)
          clear hK K
          (try simp only [Act.put, List.getElem_toArray, List.getElem_cons_succ, List.getElem_cons_zero, List.setIfInBounds_toArray, List.set_cons_zero, List.set_cons_succ])
          refine wpAnyH_ready (rs := [6]) (by kernel_rfl) (by simp) ?_
          refine (AllReadyH.cons rfl (fun K hK => ?_) AllReadyH.nil)
          obtain ⟨⟨q480, q481, q482, q483⟩, ⟨q48f0, q48f1, q48f2, q48f3⟩⟩ := P347.out
          go_simp
          clear q480 q48f0 q481 q48f1 q482 q48f2 q483 q48f3
          have H48 := H47.far4 nH47 sW
          have Z48 := Z47.far4 nZ47 sW
          have P348 := P347.put4 sW
          have P448 := P447.far4 nP447 sW
          have B48 := below_set4 B47 hLg3 sW
          generalize (World.setCell (World.setCell (World.setCell (World.setCell w47 ⟨g3, 0, none⟩ (.int .i64 sW.l)) ⟨g3, 1, none⟩ (.int .i64 sW.m)) ⟨g3, 2, none⟩ (.int .i64 sW.b)) ⟨g3, 3, none⟩ (.int .i64 sW.i)) = w48 at *
          refine hK.out _ _ (by exact H48.out.1) (fun hHeld => ?_)
          clear hK K
          (try simp only [Act.put, List.getElem_toArray, List.getElem_cons_succ, List.getElem_cons_zero, List.setIfInBounds_toArray, List.set_cons_zero, List.set_cons_succ])
          refine wpAnyH_ready (rs := [7]) (by kernel_rfl) (by simp) ?_
          refine (AllReadyH.cons rfl (fun K hK => ?_) AllReadyH.nil)
          obtain ⟨⟨q490, q491, q492, q493⟩, ⟨q49f0, q49f1, q49f2, q49f3⟩⟩ := P448.out
          go_simp
          clear q490 q49f0 q491 q49f1 q492 q49f2 q493 q49f3
          have H49 := H48.far4 nH44 sT
          have Z49 := Z48.far4 nZ44 sT
          have P349 := P348.far4 (Ne.symm nP447) sT
          have P449 := P448.put4 sT
          have B49 := below_set4 B48 hLg4 sT
          generalize (World.setCell (World.setCell (World.setCell (World.setCell w48 ⟨g4, 0, none⟩ (.int .i64 sT.l)) ⟨g4, 1, none⟩ (.int .i64 sT.m)) ⟨g4, 2, none⟩ (.int .i64 sT.b)) ⟨g4, 3, none⟩ (.int .i64 sT.i)) = w49 at *
          refine hK.out _ _ (by exact H49.out.1) (fun hHeld => ?_)
          clear hK K
          (try simp only [Act.put, List.getElem_toArray, List.getElem_cons_succ, List.getElem_cons_zero, List.setIfInBounds_toArray, List.set_cons_zero, List.set_cons_succ])
          refine wpAnyH_done (by kernel_rfl) ?_ _
          refine NoPanic.normal ?_
          go_wp2_with fail
          go_meet
          exact ⟨_, _, rfl, rfl, H49, Z49, P349, P449, B49⟩
        · skip
          go_simp
          have H50 := H45.alloc (.cells #[.int .i64 0, .int .i64 0, .int .i64 0, .int .i64 0] 70)
          have lH50 := H45.raw.lt
          have Z50 := Z45.alloc (.cells #[.int .i64 0, .int .i64 0, .int .i64 0, .int .i64 0] 70)
          have lZ50 := Z45.raw.lt
          have P450 := P445.alloc (.cells #[.int .i64 0, .int .i64 0, .int .i64 0, .int .i64 0] 70)
          have lP450 := P445.raw.lt
          have P350 := SB.zero w45
          have B50 := B45.alloc B45.size (.cells #[.int .i64 0, .int .i64 0, .int .i64 0, .int .i64 0] 70)
          have hLg3 := B45.size
          generalize World.alloc w45 (.cells #[.int .i64 0, .int .i64 0, .int .i64 0, .int .i64 0] 70) = w50 at *
          generalize hg50 : w45.heap.size = g3 at *
          have nH50 := Nat.ne_of_lt lH50
          have nZ50 := Nat.ne_of_lt lZ50
          have nP450 := Nat.ne_of_lt lP450
          clear lH50 lZ50 lP450
          refine hK.out _ _ (by exact H50.out.1) (fun hHeld => ?_)
          clear hK K
          (try simp only [Act.put, List.getElem_toArray, List.getElem_cons_succ, List.getElem_cons_zero, List.setIfInBounds_toArray, List.set_cons_zero, List.set_cons_succ])
          refine wpAnyH_ready (rs := [3]) (by kernel_rfl) (by simp) ?_
          refine (AllReadyH.cons rfl (fun K hK => ?_) AllReadyH.nil)
          go_simp
          refine (HTl.out _).mono ?_
          rintro e w51 ⟨rfl, hb51⟩
          (try dsimp only)
          have H51 := H50.next hb51
          have Z51 := Z50.next hb51
          have P351 := P350.next hb51
          have P451 := P450.next hb51
          have B51 := bnext B50 hb51 B50.size
          refine hK.out _ _ (by exact H51.out.1) (fun hHeld => ?_)
          clear hK K
          (try simp only [Act.put, List.getElem_toArray, List.getElem_cons_succ, List.getElem_cons_zero, List.setIfInBounds_toArray, List.set_cons_zero, List.set_cons_succ])
          refine wpAnyH_ready (rs := [6]) (by kernel_rfl) (by simp) ?_
          refine (AllReadyH.cons rfl (fun K hK => ?_) AllReadyH.nil)
          obtain ⟨⟨q520, q521, q522, q523⟩, ⟨q52f0, q52f1, q52f2, q52f3⟩⟩ := P351.out
          go_simp
          clear q520 q52f0 q521 q52f1 q522 q52f2 q523 q52f3
          have H52 := H51.far4 nH50 sW
          have Z52 := Z51.far4 nZ50 sW
          have P352 := P351.put4 sW
          have P452 := P451.far4 nP450 sW
          have B52 := below_set4 B51 hLg3 sW
          generalize (World.setCell (World.setCell (World.setCell (World.setCell w51 ⟨g3, 0, none⟩ (.int .i64 sW.l)) ⟨g3, 1, none⟩ (.int .i64 sW.m)) ⟨g3, 2, none⟩ (.int .i64 sW.b)) ⟨g3, 3, none⟩ (.int .i64 sW.i)) = w52 at *
          refine hK.out _ _ (by exact H52.out.1) (fun hHeld => ?_)
          clear hK K
          (try simp only [Act.put, List.getElem_toArray, List.getElem_cons_succ, List.getElem_cons_zero, List.setIfInBounds_toArray, List.set_cons_zero, List.set_cons_succ])
          refine wpAnyH_ready (rs := [7]) (by kernel_rfl) (by simp) ?_
          refine (AllReadyH.cons rfl (fun K hK => ?_) AllReadyH.nil)
          obtain ⟨⟨q530, q531, q532, q533⟩, ⟨q53f0, q53f1, q53f2, q53f3⟩⟩ := P452.out
          go_simp
          clear q530 q53f0 q531 q53f1 q532 q53f2 q533 q53f3
          have H53 := H52.far4 nH44 sT
          have Z53 := Z52.far4 nZ44 sT
          have P353 := P352.far4 (Ne.symm nP450) sT
          have P453 := P452.put4 sT
          have B53 := below_set4 B52 hLg4 sT
          generalize (World.setCell (World.setCell (World.setCell (World.setCell w52 ⟨g4, 0, none⟩ (.int .i64 sT.l)) ⟨g4, 1, none⟩ (.int .i64 sT.m)) ⟨g4, 2, none⟩ (.int .i64 sT.b)) ⟨g4, 3, none⟩ (.int .i64 sT.i)) = w53 at *
          refine hK.out _ _ (by exact H53.out.1) (fun hHeld => ?_)
          clear hK K
          (try simp only [Act.put, List.getElem_toArray, List.getElem_cons_succ, List.getElem_cons_zero, List.setIfInBounds_toArray, List.set_cons_zero, List.set_cons_succ])
          refine wpAnyH_done (by kernel_rfl) ?_ _
          refine NoPanic.normal ?_
          go_wp2_with fail
          go_meet
          exact ⟨_, _, rfl, rfl, H53, Z53, P353, P453, B53⟩
      · skip
        go_simp
        have H54 := H44.alloc (.cells #[.int .i64 0, .int .i64 0, .int .i64 0, .int .i64 0] 70)
        have lH54 := H44.raw.lt
        have Z54 := Z44.alloc (.cells #[.int .i64 0, .int .i64 0, .int .i64 0, .int .i64 0] 70)
        have lZ54 := Z44.raw.lt
        have P454 := P444.alloc (.cells #[.int .i64 0, .int .i64 0, .int .i64 0, .int .i64 0] 70)
        have lP454 := P444.raw.lt
        have P354 := SB.zero w44
        have B54 := B44.alloc B44.size (.cells #[.int .i64 0, .int .i64 0, .int .i64 0, .int .i64 0] 70)
        have hLg3 := B44.size
        generalize World.alloc w44 (.cells #[.int .i64 0, .int .i64 0, .int .i64 0, .int .i64 0] 70) = w54 at *
        generalize hg54 : w44.heap.size = g3 at *
        have nH54 := Nat.ne_of_lt lH54
        have nZ54 := Nat.ne_of_lt lZ54
        have nP454 := Nat.ne_of_lt lP454
        clear lH54 lZ54 lP454
        refine hK.out _ _ (by exact H54.out.1) (fun hHeld => ?_)
        clear hK K
        (try simp only [Act.put, List.getElem_toArray, List.getElem_cons_succ, List.getElem_cons_zero, List.setIfInBounds_toArray, List.set_cons_zero, List.set_cons_succ])
        refine wpAnyH_ready (rs := [1]) (by kernel_rfl) (by simp) ?_
        refine (AllReadyH.cons rfl (fun K hK => ?_) AllReadyH.nil)
        go_simp
        refine (HWd.out _).mono ?_
        rintro e w55 ⟨rfl, hb55⟩
        (try dsimp only)
        have H55 := H54.next hb55
        have Z55 := Z54.next hb55
        have P355 := P354.next hb55
        have P455 := P454.next hb55
        have B55 := bnext B54 hb55 B54.size
        refine hK.out _ _ (by exact H55.out.1) (fun hHeld => ?_)
        clear hK K
        (try simp only [Act.put, List.getElem_toArray, List.getElem_cons_succ, List.getElem_cons_zero, List.setIfInBounds_toArray, List.set_cons_zero, List.set_cons_succ])
        refine wpAnyH_ready (rs := [3]) (by kernel_rfl) (by simp) ?_
        refine (AllReadyH.cons rfl (fun K hK => ?_) AllReadyH.nil)
        go_simp
        refine (HTl.out _).mono ?_
        rintro e w56 ⟨rfl, hb56⟩
        (try dsimp only)
        have H56 := H55.next hb56
        have Z56 := Z55.next hb56
        have P356 := P355.next hb56
        have P456 := P455.next hb56
        have B56 := bnext B55 hb56 B55.size
        refine hK.out _ _ (by exact H56.out.1) (fun hHeld => ?_)
        clear hK K
        (try simp only [Act.put, List.getElem_toArray, List.getElem_cons_succ, List.getElem_cons_zero, List.setIfInBounds_toArray, List.set_cons_zero, List.set_cons_succ])
        refine wpAnyH_ready (rs := [6]) (by kernel_rfl) (by simp) ?_
        refine (AllReadyH.cons rfl (fun K hK => ?_) AllReadyH.nil)
        obtain ⟨⟨q570, q571, q572, q573⟩, ⟨q57f0, q57f1, q57f2, q57f3⟩⟩ := P356.out
        go_simp
        clear q570 q57f0 q571 q57f1 q572 q57f2 q573 q57f3
        have H57 := H56.far4 nH54 sW
        have Z57 := Z56.far4 nZ54 sW
        have P357 := P356.put4 sW
        have P457 := P456.far4 nP454 sW
        have B57 := below_set4 B56 hLg3 sW
        generalize (World.setCell (World.setCell (World.setCell (World.setCell w56 ⟨g3, 0, none⟩ (.int .i64 sW.l)) ⟨g3, 1, none⟩ (.int .i64 sW.m)) ⟨g3, 2, none⟩ (.int .i64 sW.b)) ⟨g3, 3, none⟩ (.int .i64 sW.i)) = w57 at *
        refine hK.out _ _ (by exact H57.out.1) (fun hHeld => ?_)
        clear hK K
        (try simp only [Act.put, List.getElem_toArray, List.getElem_cons_succ, List.getElem_cons_zero, List.setIfInBounds_toArray, List.set_cons_zero, List.set_cons_succ])
        refine wpAnyH_ready (rs := [7]) (by kernel_rfl) (by simp) ?_
        refine (AllReadyH.cons rfl (fun K hK => ?_) AllReadyH.nil)
        obtain ⟨⟨q580, q581, q582, q583⟩, ⟨q58f0, q58f1, q58f2, q58f3⟩⟩ := P457.out
        go_simp
        clear q580 q58f0 q581 q58f1 q582 q58f2 q583 q58f3
        have H58 := H57.far4 nH44 sT
        have Z58 := Z57.far4 nZ44 sT
        have P358 := P357.far4 (Ne.symm nP454) sT
        have P458 := P457.put4 sT
        have B58 := below_set4 B57 hLg4 sT
        generalize (World.setCell (World.setCell (World.setCell (World.setCell w57 ⟨g4, 0, none⟩ (.int .i64 sT.l)) ⟨g4, 1, none⟩ (.int .i64 sT.m)) ⟨g4, 2, none⟩ (.int .i64 sT.b)) ⟨g4, 3, none⟩ (.int .i64 sT.i)) = w58 at *
        refine hK.out _ _ (by exact H58.out.1) (fun hHeld => ?_)
        clear hK K
        (try simp only [Act.put, List.getElem_toArray, List.getElem_cons_succ, List.getElem_cons_zero, List.setIfInBounds_toArray, List.set_cons_zero, List.set_cons_succ])
        refine wpAnyH_done (by kernel_rfl) ?_ _
        refine NoPanic.normal ?_
        go_wp2_with fail
        go_meet
        exact ⟨_, _, rfl, rfl, H58, Z58, P358, P458, B58⟩
  case rest =>
    obtain ⟨g3, g4, rfl, rfl, H1, Z1, P3, P4, B1⟩ := hcut
    by_cases h0 : h.lowX = 0
    · have E : v = sW := by rw [← hv, ← hsW]; unfold widthsS; rw [if_pos h0]
      subst E
      have h1 : (h.lowX == 0) = true := by simp [h0]
      clear h0 hTb hWb hb hv
      obtain ⟨⟨k0, k1, k2, k3, k4, k5, k6, k7, k8, k9, k10, k11⟩, ⟨kf0, kf1, kf2, kf3, kf4, kf5, kf6, kf7, kf8, kf9, kf10, kf11⟩⟩ := H1.out
      obtain ⟨⟨c0, c1, c2, c3⟩, ⟨cf0, cf1, cf2, cf3⟩⟩ := Z1.out
      obtain ⟨⟨d0, d1, d2, d3⟩, ⟨df0, df1, df2, df3⟩⟩ := P3.out
      go_wp2_with fail
      exact bodyPost_ret (v := .agg #[.int .i64 v.l, .int .i64 v.m, .int .i64 v.b, .int .i64 v.i]) (by simp [results, Try.results77, go_sem, c0, c1, c2, c3]) rfl ⟨rfl, by repeat' (first | (with_reducible exact Below.refl _ _) | (with_reducible assumption) | (with_reducible refine Below.alloc ?_ ?_ _) | (with_reducible refine Below.drew ?_) | (with_reducible refine Below.setCell ?_ ?_ _) | (with_reducible refine Below.on (by with_reducible assumption) ?_ ?_) | go_size)⟩
    · rcases hb.a with ⟨ha, -⟩ | ha
      · exact absurd ha h0
      obtain ⟨a1, a2, b1, b2, c1', c2', d1', d2', -⟩ := ha
      have p1 := mul_b (a := sT.l) (b := h.lowX) (by omega) (by omega) (by omega) a2
      have p2 := mul_b (a := sT.m) (b := h.highX) (by omega) (by omega) (by omega) c2'
      obtain ⟨P, hP⟩ : ∃ P, sT.l * h.lowX = P := ⟨_, rfl⟩
      obtain ⟨Q, hQ⟩ : ∃ Q, sT.m * h.highX = Q := ⟨_, rfl⟩
      rw [hP] at p1; rw [hQ] at p2
      have E : v = inS sW (qUp P h.lowY) (Q / h.highY) := by rw [← hv, ← hsW, ← hP, ← hQ, ← hsT]; unfold widthsS; rw [if_neg h0]
      have HI := Lib.hid (fun W : World => within_c sW P h.lowY Q h.highY p1.1 p1.2 b1 b2 p2.1 p2.2 d1' d2' W)
      rw [← E] at HI
      have h1 : (h.lowX == 0) = false := by simp [h0]
      have f1 : IntKind.i64.wrap P = P := IntWalk.i64_in _ (by omega)
      have f2 : IntKind.i64.wrap Q = Q := IntWalk.i64_in _ (by omega)
      clear h0 a1 a2 b1 b2 c1' c2' d1' d2' p1 p2 E hTb hWb hb hv hsW hsT
      obtain ⟨⟨k0, k1, k2, k3, k4, k5, k6, k7, k8, k9, k10, k11⟩, ⟨kf0, kf1, kf2, kf3, kf4, kf5, kf6, kf7, kf8, kf9, kf10, kf11⟩⟩ := H1.out
      obtain ⟨⟨c0, c1, c2, c3⟩, ⟨cf0, cf1, cf2, cf3⟩⟩ := Z1.out
      obtain ⟨⟨d0, d1, d2, d3⟩, ⟨df0, df1, df2, df3⟩⟩ := P3.out
      obtain ⟨⟨e0, e1, e2, e3⟩, ⟨ef0, ef1, ef2, ef3⟩⟩ := P4.out
      go_wp2_with (go_at_call 81; ((with_reducible refine (HI.out _).mono ?_); rintro e w3 ⟨rfl, hc⟩; have C3 := Z1.next hc; clear c0 c1 c2 c3 cf0 cf1 cf2 cf3; obtain ⟨⟨c0, c1, c2, c3⟩, ⟨cf0, cf1, cf2, cf3⟩⟩ := C3.out))
      have B1s := B1.size
      exact bodyPost_ret (v := .agg #[.int .i64 v.l, .int .i64 v.m, .int .i64 v.b, .int .i64 v.i]) (by simp [results, Try.results77, go_sem, c0, c1, c2, c3]) rfl ⟨rfl, by repeat' (first | (with_reducible exact Below.refl _ _) | (with_reducible assumption) | (with_reducible refine Below.alloc ?_ ?_ _) | (with_reducible refine Below.drew ?_) | (with_reducible refine Below.setCell ?_ ?_ _) | (with_reducible refine Below.on (by with_reducible assumption) ?_ ?_) | go_size)⟩
end Sz
end Go.Proofs.Ytdmoncpeoaoppaa
