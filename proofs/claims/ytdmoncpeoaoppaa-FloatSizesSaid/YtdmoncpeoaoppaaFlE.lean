/- float's calls, walked: Resize, Frame, Inner, Move. -/
import Derived.Test.YtdmoncpeoaoppaaFlC
namespace Go.Proofs.Ytdmoncpeoaoppaa.Fl
open Go.RowKit Sz
set_option maxRecDepth 100000 in
set_option maxHeartbeats 4000000 in
theorem resize_c (r : Rc) (hh : Hn) (dx dt : Int) (w : World) : Calls Try.prog 14 #[rcV r, hnV hh, .int .i64 dx, .int .i64 dt] w fun e w' => (rightR r = false → e = .returned (rcV zeroR)) ∧ (rightR r = true → ∃ n a b, e = .returned (rcV (sizedR r a b)) ∧ NormP hh n ∧ FitP n (r.w + spanI dx (-65535) 65535) (r.h + spanI dt (-65535) 65535) a b) ∧ Below w.heap.size w w' := by
  cases hr : rightR r
  · have H0 := (((Bk.start w).alloc #[.int .i64 r.x, .int .i64 r.y, .int .i64 r.w, .int .i64 r.h] 23).alloc #[.int .i64 hh.minW, .int .i64 hh.minH, .int .i64 hh.maxW, .int .i64 hh.maxH, .int .i64 hh.baseW, .int .i64 hh.baseH, .int .i64 hh.incW, .int .i64 hh.incH, .int .i64 hh.lowX, .int .i64 hh.lowY, .int .i64 hh.highX, .int .i64 hh.highY] 25).alloc #[.int .i64 0, .int .i64 0, .int .i64 0, .int .i64 0] 23
    simp only [World.size_alloc, List.nil_append, List.cons_append] at H0
    have HR := Lib.hid (fun W => right_c r.x r.y r.w r.h W)
    rw [show rightB r.x r.y r.w r.h = false from hr] at HR
    clear hr
    go_enter Try.func14, Try.ntmps14
    go_wp2_with fail
    with_reducible refine (HR.out _).mono ?_
    rintro e w1 ⟨rfl, hb⟩
    have H1 := H0.next hb
    clear hb H0
    obtain ⟨⟨c0_0, c0_1, c0_2, c0_3⟩, ⟨f0_0, f0_1, f0_2, f0_3⟩⟩ := (H1.get 0 rfl).c4
    obtain ⟨⟨c1_0, c1_1, c1_2, c1_3, c1_4, c1_5, c1_6, c1_7, c1_8, c1_9, c1_10, c1_11⟩, -⟩ := HB.out (H1.get 1 rfl)
    obtain ⟨⟨c2_0, c2_1, c2_2, c2_3⟩, ⟨f2_0, f2_1, f2_2, f2_3⟩⟩ := (H1.get 2 rfl).c4
    go_wp2_with fail
    refine bodyPost_ret (by simp [results, Try.results14, go_sem, c2_0, c2_1, c2_2, c2_3]; try rfl) rfl ?_
    exact ⟨fun _ => rfl, fun k => absurd k (by simp), (H1.put4 2 rfl _ _ _ _).below⟩
  · have H0 := (((Bk.start w).alloc #[.int .i64 r.x, .int .i64 r.y, .int .i64 r.w, .int .i64 r.h] 23).alloc #[.int .i64 hh.minW, .int .i64 hh.minH, .int .i64 hh.maxW, .int .i64 hh.maxH, .int .i64 hh.baseW, .int .i64 hh.baseH, .int .i64 hh.incW, .int .i64 hh.incH, .int .i64 hh.lowX, .int .i64 hh.lowY, .int .i64 hh.highX, .int .i64 hh.highY] 25).alloc #[.int .i64 0, .int .i64 0, .int .i64 0, .int .i64 0] 23
    simp only [World.size_alloc, List.nil_append, List.cons_append] at H0
    have HR := Lib.hid (fun W => right_c r.x r.y r.w r.h W)
    rw [show rightB r.x r.y r.w r.h = true from hr] at HR
    obtain ⟨⟨x1, x2, x3, x4⟩, y1, y2, y3, y4⟩ := (rightR_iff r).1 hr
    have p1 := spanI_le dx (-65535) 65535
    have p2 := spanI_ge dx (-65535) 65535 (by omega)
    have q1 := spanI_le dt (-65535) 65535
    have q2 := spanI_ge dt (-65535) 65535 (by omega)
    have HX := Lib.hid (fun W => bounded_c dx W)
    have HY := Lib.hid (fun W => bounded_c dt W)
    have HF := Lib.hid (fun W => fit_c hh (r.w + spanI dx (-65535) 65535) (r.h + spanI dt (-65535) 65535) W)
    generalize spanI dx (-65535) 65535 = p at *
    generalize spanI dt (-65535) 65535 = q at *
    have e1 : IntKind.i64.wrap (r.w + p) = r.w + p := IntWalk.i64_in _ (by omega)
    have e2 : IntKind.i64.wrap (r.h + q) = r.h + q := IntWalk.i64_in _ (by omega)
    clear hr
    go_enter Try.func14, Try.ntmps14
    go_wp2_with fail
    with_reducible refine (HR.out _).mono ?_
    rintro e w1 ⟨rfl, hb⟩
    have H1 := H0.next hb
    clear hb H0
    obtain ⟨⟨c0_0, c0_1, c0_2, c0_3⟩, ⟨f0_0, f0_1, f0_2, f0_3⟩⟩ := (H1.get 0 rfl).c4
    obtain ⟨⟨c1_0, c1_1, c1_2, c1_3, c1_4, c1_5, c1_6, c1_7, c1_8, c1_9, c1_10, c1_11⟩, -⟩ := HB.out (H1.get 1 rfl)
    obtain ⟨⟨c2_0, c2_1, c2_2, c2_3⟩, ⟨f2_0, f2_1, f2_2, f2_3⟩⟩ := (H1.get 2 rfl).c4
    go_upto_region 3 with fail
    clear c0_0 c0_1 c0_2 c0_3 f0_0 f0_1 f0_2 f0_3 c1_0 c1_1 c1_2 c1_3 c1_4 c1_5 c1_6 c1_7 c1_8 c1_9 c1_10 c1_11 c2_0 c2_1 c2_2 c2_3 f2_0 f2_1 f2_2 f2_3
    obtain ⟨⟨k0_0, k0_1, k0_2, k0_3⟩, ⟨k0_f0, k0_f1, k0_f2, k0_f3⟩⟩ := (H1.get 0 rfl).c4; obtain ⟨⟨k1_0, k1_1, k1_2, k1_3, k1_4, k1_5, k1_6, k1_7, k1_8, k1_9, k1_10, k1_11⟩, -⟩ := HB.out (H1.get 1 rfl)
    refine wp_region_noPanic ?_
    refine wp_region_held_drew (S := fun wx => wx.cell? ⟨w.heap.size, 0, none⟩ = some (.int .i64 r.x) ∧ wx.cell? ⟨w.heap.size, 1, none⟩ = some (.int .i64 r.y) ∧ wx.cell? ⟨w.heap.size, 2, none⟩ = some (.int .i64 r.w) ∧ wx.cell? ⟨w.heap.size, 3, none⟩ = some (.int .i64 r.h) ∧ wx.cell? ⟨w.heap.size + 1, 0, none⟩ = some (.int .i64 hh.minW) ∧ wx.cell? ⟨w.heap.size + 1, 1, none⟩ = some (.int .i64 hh.minH) ∧ wx.cell? ⟨w.heap.size + 1, 2, none⟩ = some (.int .i64 hh.maxW) ∧ wx.cell? ⟨w.heap.size + 1, 3, none⟩ = some (.int .i64 hh.maxH) ∧ wx.cell? ⟨w.heap.size + 1, 4, none⟩ = some (.int .i64 hh.baseW) ∧ wx.cell? ⟨w.heap.size + 1, 5, none⟩ = some (.int .i64 hh.baseH) ∧ wx.cell? ⟨w.heap.size + 1, 6, none⟩ = some (.int .i64 hh.incW) ∧ wx.cell? ⟨w.heap.size + 1, 7, none⟩ = some (.int .i64 hh.incH) ∧ wx.cell? ⟨w.heap.size + 1, 8, none⟩ = some (.int .i64 hh.lowX) ∧ wx.cell? ⟨w.heap.size + 1, 9, none⟩ = some (.int .i64 hh.lowY) ∧ wx.cell? ⟨w.heap.size + 1, 10, none⟩ = some (.int .i64 hh.highX) ∧ wx.cell? ⟨w.heap.size + 1, 11, none⟩ = some (.int .i64 hh.highY)) (by kernel_rfl) (by exact ⟨k0_0, k0_1, k0_2, k0_3, k1_0, k1_1, k1_2, k1_3, k1_4, k1_5, k1_6, k1_7, k1_8, k1_9, k1_10, k1_11⟩) (fun hHeld => ?_)
    refine wpAnyH_take (i := 0) (v := ?vq1x0) rfl (by kernel_rfl) (by kernel_rfl) (by kernel_rfl) (fun _ _ _ h => h) (Or.inl ⟨by kernel_rfl, ?yq1x0⟩) (by assumption) ?rq1x0
    case yq1x0 => (intro wq hSw; (try dsimp only at hSw); go_simp; (try with_reducible rfl))
    (try simp only [Act.put, List.getElem_toArray, List.getElem_cons_zero, List.setIfInBounds_toArray, List.set_cons_zero, List.set_cons_succ])
    refine wpAnyH_take (i := 1) (v := ?vq1x1) rfl (by kernel_rfl) (by kernel_rfl) (by kernel_rfl) (fun _ _ _ h => h) (Or.inl ⟨by kernel_rfl, ?yq1x1⟩) (by assumption) ?rq1x1
    case yq1x1 => (intro wq hSw; (try dsimp only at hSw); go_simp; (try with_reducible rfl))
    (try simp only [Act.put, List.getElem_toArray, List.getElem_cons_succ, List.getElem_cons_zero, List.setIfInBounds_toArray, List.set_cons_zero, List.set_cons_succ])
    refine wpAnyH_take (i := 2) (v := ?vq1x2) rfl (by kernel_rfl) (by kernel_rfl) (by kernel_rfl) (fun _ _ _ h => h) (Or.inl ⟨by kernel_rfl, ?yq1x2⟩) (by assumption) ?rq1x2
    case yq1x2 => (intro wq hSw; (try dsimp only at hSw); go_simp; (try with_reducible rfl))
    (try simp only [Act.put, List.getElem_toArray, List.getElem_cons_succ, List.getElem_cons_zero, List.setIfInBounds_toArray, List.set_cons_zero, List.set_cons_succ])
    refine wpAnyH_take (i := 3) (v := ?vq1x3) rfl (by kernel_rfl) (by kernel_rfl) (by kernel_rfl) (fun _ _ _ h => h) (Or.inl ⟨by kernel_rfl, ?yq1x3⟩) (by assumption) ?rq1x3
    case yq1x3 => (intro wq hSw; (try dsimp only at hSw); go_simp; (try with_reducible rfl))
    (try simp only [Act.put, List.getElem_toArray, List.getElem_cons_succ, List.getElem_cons_zero, List.setIfInBounds_toArray, List.set_cons_zero, List.set_cons_succ])
    refine wpAnyH_take (i := 6) (v := ?vq1x6) rfl (by kernel_rfl) (by kernel_rfl) (by kernel_rfl) (fun _ _ _ h => h) (Or.inl ⟨by kernel_rfl, ?yq1x6⟩) (by assumption) ?rq1x6
    case yq1x6 => (intro wq hSw; (try dsimp only at hSw); go_simp; (try with_reducible rfl))
    (try simp only [Act.put, List.getElem_toArray, List.getElem_cons_succ, List.getElem_cons_zero, List.setIfInBounds_toArray, List.set_cons_zero, List.set_cons_succ])
    refine wpAnyH_take (i := 7) (v := ?vq1x7) rfl (by kernel_rfl) (by kernel_rfl) (by kernel_rfl) (fun _ _ _ h => h) (Or.inl ⟨by kernel_rfl, ?yq1x7⟩) (by assumption) ?rq1x7
    case yq1x7 => (intro wq hSw; (try dsimp only at hSw); go_simp; (try with_reducible rfl))
    (try simp only [Act.put, List.getElem_toArray, List.getElem_cons_succ, List.getElem_cons_zero, List.setIfInBounds_toArray, List.set_cons_zero, List.set_cons_succ])
    refine wpAnyH_take (i := 8) (v := ?vq1x8) rfl (by kernel_rfl) (by kernel_rfl) (by kernel_rfl) (fun _ _ _ h => h) (Or.inl ⟨by kernel_rfl, ?yq1x8⟩) (by assumption) ?rq1x8
    case yq1x8 => (intro wq hSw; (try dsimp only at hSw); go_simp; (try with_reducible rfl))
    (try simp only [Act.put, List.getElem_toArray, List.getElem_cons_succ, List.getElem_cons_zero, List.setIfInBounds_toArray, List.set_cons_zero, List.set_cons_succ])
    refine wpAnyH_ready (rs := [4]) (by kernel_rfl) (by simp) ?_
    refine AllReadyH.cons rfl (fun K hK => ?_) AllReadyH.nil
    go_simp
    refine (HX.out _).mono ?_
    rintro e w2 ⟨rfl, rfl⟩; have H2 := H1.drew; clear H1 k0_0 k0_f0 k0_1 k0_f1 k0_2 k0_f2 k0_3 k0_f3 k1_0 k1_1 k1_2 k1_3 k1_4 k1_5 k1_6 k1_7 k1_8 k1_9 k1_10 k1_11; obtain ⟨⟨k0_0, k0_1, k0_2, k0_3⟩, ⟨k0_f0, k0_f1, k0_f2, k0_f3⟩⟩ := (H2.get 0 rfl).c4; obtain ⟨⟨k1_0, k1_1, k1_2, k1_3, k1_4, k1_5, k1_6, k1_7, k1_8, k1_9, k1_10, k1_11⟩, -⟩ := HB.out (H2.get 1 rfl)
    (try dsimp only)
    refine hK.out _ _ (by exact ⟨k0_0, k0_1, k0_2, k0_3, k1_0, k1_1, k1_2, k1_3, k1_4, k1_5, k1_6, k1_7, k1_8, k1_9, k1_10, k1_11⟩) (fun hHeld => ?_)
    clear hK K
    (try simp only [Act.put, List.getElem_toArray, List.getElem_cons_succ, List.getElem_cons_zero, List.setIfInBounds_toArray, List.set_cons_zero, List.set_cons_succ])
    refine wpAnyH_take (i := 5) (v := ?vq1x5) rfl (by kernel_rfl) (by kernel_rfl) (by kernel_rfl) (fun _ _ _ h => h) (Or.inl ⟨by kernel_rfl, ?yq1x5⟩) (by assumption) ?rq1x5
    case yq1x5 => (intro wq hSw; (try dsimp only at hSw); go_simp; (try with_reducible rfl))
    (try simp only [Act.put, List.getElem_toArray, List.getElem_cons_succ, List.getElem_cons_zero, List.setIfInBounds_toArray, List.set_cons_zero, List.set_cons_succ])
    refine wpAnyH_ready (rs := [9]) (by kernel_rfl) (by simp) ?_
    refine AllReadyH.cons rfl (fun K hK => ?_) AllReadyH.nil
    go_simp
    refine (HY.out _).mono ?_
    rintro e w3 ⟨rfl, rfl⟩; have H3 := H2; clear H2 k0_0 k0_f0 k0_1 k0_f1 k0_2 k0_f2 k0_3 k0_f3 k1_0 k1_1 k1_2 k1_3 k1_4 k1_5 k1_6 k1_7 k1_8 k1_9 k1_10 k1_11; obtain ⟨⟨k0_0, k0_1, k0_2, k0_3⟩, ⟨k0_f0, k0_f1, k0_f2, k0_f3⟩⟩ := (H3.get 0 rfl).c4; obtain ⟨⟨k1_0, k1_1, k1_2, k1_3, k1_4, k1_5, k1_6, k1_7, k1_8, k1_9, k1_10, k1_11⟩, -⟩ := HB.out (H3.get 1 rfl)
    (try dsimp only)
    refine hK.out _ _ (by exact ⟨k0_0, k0_1, k0_2, k0_3, k1_0, k1_1, k1_2, k1_3, k1_4, k1_5, k1_6, k1_7, k1_8, k1_9, k1_10, k1_11⟩) (fun hHeld => ?_)
    clear hK K
    (try simp only [Act.put, List.getElem_toArray, List.getElem_cons_succ, List.getElem_cons_zero, List.setIfInBounds_toArray, List.set_cons_zero, List.set_cons_succ])
    refine wpAnyH_take (i := 10) (v := ?vq1x10) rfl (by kernel_rfl) (by kernel_rfl) (by kernel_rfl) (fun _ _ _ h => h) (Or.inl ⟨by kernel_rfl, ?yq1x10⟩) (by assumption) ?rq1x10
    case yq1x10 => (intro wq hSw; (try dsimp only at hSw); go_simp; (try with_reducible rfl))
    (try simp only [Act.put, List.getElem_toArray, List.getElem_cons_succ, List.getElem_cons_zero, List.setIfInBounds_toArray, List.set_cons_zero, List.set_cons_succ])
    refine wpAnyH_ready (rs := [11]) (by kernel_rfl) (by simp) ?_
    refine AllReadyH.cons rfl (fun K hK => ?_) AllReadyH.nil
    go_simp
    refine (HF.out _).mono ?_
    rintro e w4 ⟨n, a, b, rfl, hN, hF, hb⟩; have H4 := H3.next hb; clear hb H3 k0_0 k0_f0 k0_1 k0_f1 k0_2 k0_f2 k0_3 k0_f3 k1_0 k1_1 k1_2 k1_3 k1_4 k1_5 k1_6 k1_7 k1_8 k1_9 k1_10 k1_11; obtain ⟨⟨k0_0, k0_1, k0_2, k0_3⟩, ⟨k0_f0, k0_f1, k0_f2, k0_f3⟩⟩ := (H4.get 0 rfl).c4; obtain ⟨⟨k1_0, k1_1, k1_2, k1_3, k1_4, k1_5, k1_6, k1_7, k1_8, k1_9, k1_10, k1_11⟩, -⟩ := HB.out (H4.get 1 rfl)
    (try dsimp only)
    refine hK.out _ _ (by exact ⟨k0_0, k0_1, k0_2, k0_3, k1_0, k1_1, k1_2, k1_3, k1_4, k1_5, k1_6, k1_7, k1_8, k1_9, k1_10, k1_11⟩) (fun hHeld => ?_)
    clear hK K
    (try simp only [Act.put, List.getElem_toArray, List.getElem_cons_succ, List.getElem_cons_zero, List.setIfInBounds_toArray, List.set_cons_zero, List.set_cons_succ])
    refine wpAnyH_take (i := 12) (v := ?vq1x12) rfl (by kernel_rfl) (by kernel_rfl) (by kernel_rfl) (fun _ _ _ h => h) (Or.inl ⟨by kernel_rfl, ?yq1x12⟩) (by assumption) ?rq1x12
    case yq1x12 => (intro wq hSw; (try dsimp only at hSw); go_simp; (try with_reducible rfl))
    (try simp only [Act.put, List.getElem_toArray, List.getElem_cons_succ, List.getElem_cons_zero, List.setIfInBounds_toArray, List.set_cons_zero, List.set_cons_succ])
    refine wpAnyH_take (i := 13) (v := ?vq1x13) rfl (by kernel_rfl) (by kernel_rfl) (by kernel_rfl) (fun _ _ _ h => h) (Or.inl ⟨by kernel_rfl, ?yq1x13⟩) (by assumption) ?rq1x13
    case yq1x13 => (intro wq hSw; (try dsimp only at hSw); go_simp; (try with_reducible rfl))
    (try simp only [Act.put, List.getElem_toArray, List.getElem_cons_succ, List.getElem_cons_zero, List.setIfInBounds_toArray, List.set_cons_zero, List.set_cons_succ])
    refine wpAnyH_take (i := 14) (v := ?vq1x14) rfl (by kernel_rfl) (by kernel_rfl) (by kernel_rfl) (fun _ _ _ h => h) (Or.inl ⟨by kernel_rfl, ?yq1x14⟩) (by assumption) ?rq1x14
    case yq1x14 => (intro wq hSw; (try dsimp only at hSw); go_simp; (try with_reducible rfl))
    (try simp only [Act.put, List.getElem_toArray, List.getElem_cons_succ, List.getElem_cons_zero, List.setIfInBounds_toArray, List.set_cons_zero, List.set_cons_succ])
    refine wpAnyH_take (i := 15) (v := ?vq1x15) rfl (by kernel_rfl) (by kernel_rfl) (by kernel_rfl) (fun _ _ _ h => h) (Or.inl ⟨by kernel_rfl, ?yq1x15⟩) (by assumption) ?rq1x15
    case yq1x15 => (intro wq hSw; (try dsimp only at hSw); go_simp; (try with_reducible rfl))
    (try simp only [Act.put, List.getElem_toArray, List.getElem_cons_succ, List.getElem_cons_zero, List.setIfInBounds_toArray, List.set_cons_zero, List.set_cons_succ])
    refine wpAnyH_take (i := 16) (v := ?vq1x16) rfl (by kernel_rfl) (by kernel_rfl) (by kernel_rfl) (fun _ _ _ h => h) (Or.inl ⟨by kernel_rfl, ?yq1x16⟩) (by assumption) ?rq1x16
    case yq1x16 => (intro wq hSw; (try dsimp only at hSw); go_simp; (try with_reducible rfl))
    (try simp only [Act.put, List.getElem_toArray, List.getElem_cons_succ, List.getElem_cons_zero, List.setIfInBounds_toArray, List.set_cons_zero, List.set_cons_succ])
    refine wpAnyH_done (by kernel_rfl) ?_ _
    refine NoPanic.normal ?_
    obtain ⟨⟨a1, a2⟩, b1, b2⟩ := fit_b hN.right.1 hF
    have HNF := Lib.hid (And.intro hN hF)
    clear hN hF
    have HS := Lib.hid (fun W => sized_c r.x r.y a b W (by omega) (by omega))
    obtain ⟨z, hz⟩ : ∃ z, z = laidR r.x r.y a b := ⟨_, rfl⟩
    rw [← hz] at HS
    have HZ := Lib.hid hz
    clear hz
    clear k0_0 k0_f0 k0_1 k0_f1 k0_2 k0_f2 k0_3 k0_f3 k1_0 k1_1 k1_2 k1_3 k1_4 k1_5 k1_6 k1_7 k1_8 k1_9 k1_10 k1_11
    obtain ⟨⟨c0_0, c0_1, c0_2, c0_3⟩, ⟨f0_0, f0_1, f0_2, f0_3⟩⟩ := (H4.get 0 rfl).c4
    obtain ⟨⟨c1_0, c1_1, c1_2, c1_3, c1_4, c1_5, c1_6, c1_7, c1_8, c1_9, c1_10, c1_11⟩, -⟩ := HB.out (H4.get 1 rfl)
    obtain ⟨⟨c2_0, c2_1, c2_2, c2_3⟩, ⟨f2_0, f2_1, f2_2, f2_3⟩⟩ := (H4.get 2 rfl).c4
    go_wp2_with fail
    with_reducible refine (HS.out _).mono ?_
    rintro e w5 ⟨rfl, hb⟩
    have H5 := H4.next hb
    clear hb H4
    clear c0_0 c0_1 c0_2 c0_3 f0_0 f0_1 f0_2 f0_3 c1_0 c1_1 c1_2 c1_3 c1_4 c1_5 c1_6 c1_7 c1_8 c1_9 c1_10 c1_11 c2_0 c2_1 c2_2 c2_3 f2_0 f2_1 f2_2 f2_3
    obtain ⟨⟨c2_0, c2_1, c2_2, c2_3⟩, ⟨f2_0, f2_1, f2_2, f2_3⟩⟩ := (H5.get 2 rfl).c4
    go_wp2_with fail
    refine bodyPost_ret (by simp [results, Try.results14, go_sem, c2_0, c2_1, c2_2, c2_3]; try rfl) rfl ?_
    exact ⟨fun k => absurd k (by simp), fun _ => ⟨n, a, b, by rw [HZ.out]; rfl, HNF.out.1, HNF.out.2⟩, (H5.put4 2 rfl _ _ _ _).below⟩
set_option maxRecDepth 100000 in
set_option maxHeartbeats 4000000 in
theorem inner_c (r : Rc) (g b t : Int) (w : World) : Calls Try.prog 18 #[rcV r, stV g b t] w fun e w' => e = .returned (rcV (innerR r g b t)) ∧ Below w.heap.size w w' := by
  cases hs : styleB g b t
  · have H0 := (((Bk.start w).alloc #[.int .i64 r.x, .int .i64 r.y, .int .i64 r.w, .int .i64 r.h] 23).alloc #[.int .i64 g, .int .i64 b, .int .i64 t] 34).alloc #[.int .i64 0, .int .i64 0, .int .i64 0, .int .i64 0] 23
    simp only [World.size_alloc, List.nil_append, List.cons_append] at H0
    have HC := Lib.hid (fun W => check_c g b t W)
    rw [show chkI g b t = 1 from if_neg (by rw [hs]; exact Bool.false_ne_true)] at HC
    have e : innerR r g b t = zeroR := if_neg (by rw [hs]; exact Bool.false_ne_true)
    rw [e]
    clear e
    clear hs
    go_enter Try.func18, Try.ntmps18
    go_wp2_with fail
    with_reducible refine (HC.out _).mono ?_
    rintro e w1 ⟨rfl, hb⟩
    have H1 := H0.next hb
    clear hb H0
    obtain ⟨⟨c0_0, c0_1, c0_2, c0_3⟩, ⟨f0_0, f0_1, f0_2, f0_3⟩⟩ := (H1.get 0 rfl).c4
    obtain ⟨⟨c1_0, c1_1, c1_2⟩, ⟨f1_0, f1_1, f1_2⟩⟩ := (H1.get 1 rfl).c3
    obtain ⟨⟨c2_0, c2_1, c2_2, c2_3⟩, ⟨f2_0, f2_1, f2_2, f2_3⟩⟩ := (H1.get 2 rfl).c4
    go_wp2_with fail
    refine bodyPost_ret (by simp [results, Try.results18, go_sem, c2_0, c2_1, c2_2, c2_3]; try rfl) rfl ?_
    exact ⟨rfl, (H1.put4 2 rfl _ _ _ _).below⟩
  · have H0 := (((Bk.start w).alloc #[.int .i64 r.x, .int .i64 r.y, .int .i64 r.w, .int .i64 r.h] 23).alloc #[.int .i64 g, .int .i64 b, .int .i64 t] 34).alloc #[.int .i64 0, .int .i64 0, .int .i64 0, .int .i64 0] 23
    simp only [World.size_alloc, List.nil_append, List.cons_append] at H0
    have HC := Lib.hid (fun W => check_c g b t W)
    rw [show chkI g b t = 0 from if_pos hs] at HC
    have e : innerR r g b t = insetR r.x r.y r.w r.h b (b + t) b b := if_pos hs
    rw [e]
    clear e
    have hs' := of_decide_eq_true hs
    have HE := Lib.hid (fun W => edges_c g b t W hs'.2.1 hs'.2.2)
    have HI := Lib.hid (fun W => inset_c r.x r.y r.w r.h b (b + t) b b W)
    generalize insetR r.x r.y r.w r.h b (b + t) b b = z at *
    clear hs'
    clear hs
    go_enter Try.func18, Try.ntmps18
    go_wp2_with fail
    with_reducible refine (HC.out _).mono ?_
    rintro e w1 ⟨rfl, hb⟩
    have H1 := H0.next hb
    clear hb H0
    obtain ⟨⟨c0_0, c0_1, c0_2, c0_3⟩, ⟨f0_0, f0_1, f0_2, f0_3⟩⟩ := (H1.get 0 rfl).c4
    obtain ⟨⟨c1_0, c1_1, c1_2⟩, ⟨f1_0, f1_1, f1_2⟩⟩ := (H1.get 1 rfl).c3
    obtain ⟨⟨c2_0, c2_1, c2_2, c2_3⟩, ⟨f2_0, f2_1, f2_2, f2_3⟩⟩ := (H1.get 2 rfl).c4
    go_upto_region 3 with fail
    clear c0_0 c0_1 c0_2 c0_3 f0_0 f0_1 f0_2 f0_3 c1_0 c1_1 c1_2 f1_0 f1_1 f1_2 c2_0 c2_1 c2_2 c2_3 f2_0 f2_1 f2_2 f2_3
    obtain ⟨⟨k0_0, k0_1, k0_2, k0_3⟩, ⟨k0_f0, k0_f1, k0_f2, k0_f3⟩⟩ := (H1.get 0 rfl).c4; obtain ⟨⟨k1_0, k1_1, k1_2⟩, ⟨k1_f0, k1_f1, k1_f2⟩⟩ := (H1.get 1 rfl).c3; obtain ⟨⟨k2_0, k2_1, k2_2, k2_3⟩, ⟨k2_f0, k2_f1, k2_f2, k2_f3⟩⟩ := (H1.get 2 rfl).c4
    refine wp_region_noPanic ?_
    refine wp_region_held_drew (S := fun wx => wx.cell? ⟨w.heap.size, 0, none⟩ = some (.int .i64 r.x) ∧ wx.cell? ⟨w.heap.size, 1, none⟩ = some (.int .i64 r.y) ∧ wx.cell? ⟨w.heap.size, 2, none⟩ = some (.int .i64 r.w) ∧ wx.cell? ⟨w.heap.size, 3, none⟩ = some (.int .i64 r.h) ∧ wx.cell? ⟨w.heap.size + 1, 0, none⟩ = some (.int .i64 g) ∧ wx.cell? ⟨w.heap.size + 1, 1, none⟩ = some (.int .i64 b) ∧ wx.cell? ⟨w.heap.size + 1, 2, none⟩ = some (.int .i64 t)) (by kernel_rfl) (by exact ⟨k0_0, k0_1, k0_2, k0_3, k1_0, k1_1, k1_2⟩) (fun hHeld => ?_)
    refine wpAnyH_take (i := 0) (v := ?vq2x0) rfl (by kernel_rfl) (by kernel_rfl) (by kernel_rfl) (fun _ _ _ h => h) (Or.inl ⟨by kernel_rfl, ?yq2x0⟩) (by assumption) ?rq2x0
    case yq2x0 => (intro wq hSw; (try dsimp only at hSw); go_simp; (try with_reducible rfl))
    (try simp only [Act.put, List.getElem_toArray, List.getElem_cons_zero, List.setIfInBounds_toArray, List.set_cons_zero, List.set_cons_succ])
    refine wpAnyH_take (i := 1) (v := ?vq2x1) rfl (by kernel_rfl) (by kernel_rfl) (by kernel_rfl) (fun _ _ _ h => h) (Or.inl ⟨by kernel_rfl, ?yq2x1⟩) (by assumption) ?rq2x1
    case yq2x1 => (intro wq hSw; (try dsimp only at hSw); go_simp; (try with_reducible rfl))
    (try simp only [Act.put, List.getElem_toArray, List.getElem_cons_succ, List.getElem_cons_zero, List.setIfInBounds_toArray, List.set_cons_zero, List.set_cons_succ])
    refine wpAnyH_ready (rs := [2]) (by kernel_rfl) (by simp) ?_
    refine AllReadyH.cons rfl (fun K hK => ?_) AllReadyH.nil
    go_simp
    refine (HE.out _).mono ?_
    rintro e w2 ⟨rfl, hb⟩; have H2 := H1.drew.next hb; clear hb H1 k0_0 k0_f0 k0_1 k0_f1 k0_2 k0_f2 k0_3 k0_f3 k1_0 k1_f0 k1_1 k1_f1 k1_2 k1_f2 k2_0 k2_f0 k2_1 k2_f1 k2_2 k2_f2 k2_3 k2_f3; obtain ⟨⟨k0_0, k0_1, k0_2, k0_3⟩, ⟨k0_f0, k0_f1, k0_f2, k0_f3⟩⟩ := (H2.get 0 rfl).c4; obtain ⟨⟨k1_0, k1_1, k1_2⟩, ⟨k1_f0, k1_f1, k1_f2⟩⟩ := (H2.get 1 rfl).c3; obtain ⟨⟨k2_0, k2_1, k2_2, k2_3⟩, ⟨k2_f0, k2_f1, k2_f2, k2_f3⟩⟩ := (H2.get 2 rfl).c4
    (try dsimp only)
    refine hK.out _ _ (by exact ⟨k0_0, k0_1, k0_2, k0_3, k1_0, k1_1, k1_2⟩) (fun hHeld => ?_)
    clear hK K
    (try simp only [Act.put, List.getElem_toArray, List.getElem_cons_succ, List.getElem_cons_zero, List.setIfInBounds_toArray, List.set_cons_zero, List.set_cons_succ])
    refine wpAnyH_ready (rs := [3]) (by kernel_rfl) (by simp) ?_
    refine AllReadyH.cons rfl (fun K hK => ?_) AllReadyH.nil
    go_simp
    refine (HI.out _).mono ?_
    rintro e w3 ⟨rfl, hb⟩; have H3 := H2.next hb; clear hb H2 k0_0 k0_f0 k0_1 k0_f1 k0_2 k0_f2 k0_3 k0_f3 k1_0 k1_f0 k1_1 k1_f1 k1_2 k1_f2 k2_0 k2_f0 k2_1 k2_f1 k2_2 k2_f2 k2_3 k2_f3; obtain ⟨⟨k0_0, k0_1, k0_2, k0_3⟩, ⟨k0_f0, k0_f1, k0_f2, k0_f3⟩⟩ := (H3.get 0 rfl).c4; obtain ⟨⟨k1_0, k1_1, k1_2⟩, ⟨k1_f0, k1_f1, k1_f2⟩⟩ := (H3.get 1 rfl).c3; obtain ⟨⟨k2_0, k2_1, k2_2, k2_3⟩, ⟨k2_f0, k2_f1, k2_f2, k2_f3⟩⟩ := (H3.get 2 rfl).c4
    (try dsimp only)
    refine hK.out _ _ (by exact ⟨k0_0, k0_1, k0_2, k0_3, k1_0, k1_1, k1_2⟩) (fun hHeld => ?_)
    clear hK K
    (try simp only [Act.put, List.getElem_toArray, List.getElem_cons_succ, List.getElem_cons_zero, List.setIfInBounds_toArray, List.set_cons_zero, List.set_cons_succ])
    refine wpAnyH_ready (rs := [4]) (by kernel_rfl) (by simp) ?_
    refine AllReadyH.cons rfl (fun K hK => ?_) AllReadyH.nil
    go_simp
    refine hK.out _ _ (by (have HX := H3.put4 2 rfl (.int .i64 z.x) (.int .i64 z.y) (.int .i64 z.w) (.int .i64 z.h); obtain ⟨⟨k0_0, k0_1, k0_2, k0_3⟩, ⟨k0_f0, k0_f1, k0_f2, k0_f3⟩⟩ := (HX.get 0 rfl).c4; obtain ⟨⟨k1_0, k1_1, k1_2⟩, ⟨k1_f0, k1_f1, k1_f2⟩⟩ := (HX.get 1 rfl).c3; exact ⟨k0_0, k0_1, k0_2, k0_3, k1_0, k1_1, k1_2⟩)) (fun hHeld => ?_)
    clear hK K
    (try simp only [Act.put, List.getElem_toArray, List.getElem_cons_succ, List.getElem_cons_zero, List.setIfInBounds_toArray, List.set_cons_zero, List.set_cons_succ])
    refine wpAnyH_done (by kernel_rfl) ?_ _
    refine NoPanic.normal ?_
    go_wp2_with fail
    refine bodyPost_ret (by simp [results, Try.results18, go_sem, k2_0, k2_1, k2_2, k2_3]; try rfl) rfl ?_
    exact ⟨rfl, (H3.put4 2 rfl _ _ _ _).below⟩
set_option maxRecDepth 100000 in
set_option maxHeartbeats 4000000 in
theorem frame_c (r : Rc) (g b t : Int) (w : World) : Calls Try.prog 16 #[rcV r, stV g b t] w fun e w' => e = .returned (.tuple #[rcV (frameR r g b t), .bool (hasFrame r g b t)]) ∧ Below w.heap.size w w' := by
  cases hr : rightR r
  · have H0 := (((Bk.start w).alloc #[.int .i64 r.x, .int .i64 r.y, .int .i64 r.w, .int .i64 r.h] 23).alloc #[.int .i64 g, .int .i64 b, .int .i64 t] 34).alloc #[.int .i64 0, .int .i64 0, .int .i64 0, .int .i64 0] 23
    simp only [World.size_alloc, List.nil_append, List.cons_append] at H0
    have HR := Lib.hid (fun W => right_c r.x r.y r.w r.h W)
    rw [show rightB r.x r.y r.w r.h = false from hr] at HR
    have e1 : hasFrame r g b t = false := by unfold hasFrame; rw [hr]; rfl
    have e2 : frameR r g b t = zeroR := if_neg (by rw [e1]; exact Bool.false_ne_true)
    rw [e1, e2]
    clear e1 e2 hr
    go_enter Try.func16, Try.ntmps16
    go_wp2_with fail
    with_reducible refine (HR.out _).mono ?_
    rintro e w1 ⟨rfl, hb⟩
    have H1 := H0.next hb
    clear hb H0
    obtain ⟨⟨c0_0, c0_1, c0_2, c0_3⟩, ⟨f0_0, f0_1, f0_2, f0_3⟩⟩ := (H1.get 0 rfl).c4
    obtain ⟨⟨c1_0, c1_1, c1_2⟩, ⟨f1_0, f1_1, f1_2⟩⟩ := (H1.get 1 rfl).c3
    obtain ⟨⟨c2_0, c2_1, c2_2, c2_3⟩, ⟨f2_0, f2_1, f2_2, f2_3⟩⟩ := (H1.get 2 rfl).c4
    go_wp2_with fail
    refine bodyPost_ret (by simp [results, Try.results16, go_sem, c2_0, c2_1, c2_2, c2_3]; try rfl) rfl ?_
    exact ⟨rfl, (H1.put4 2 rfl _ _ _ _).below⟩
  cases hs : styleB g b t
  · have H0 := (((Bk.start w).alloc #[.int .i64 r.x, .int .i64 r.y, .int .i64 r.w, .int .i64 r.h] 23).alloc #[.int .i64 g, .int .i64 b, .int .i64 t] 34).alloc #[.int .i64 0, .int .i64 0, .int .i64 0, .int .i64 0] 23
    simp only [World.size_alloc, List.nil_append, List.cons_append] at H0
    have HR := Lib.hid (fun W => right_c r.x r.y r.w r.h W)
    rw [show rightB r.x r.y r.w r.h = true from hr] at HR
    have HC := Lib.hid (fun W => check_c g b t W)
    rw [show chkI g b t = 1 from if_neg (by rw [hs]; exact Bool.false_ne_true)] at HC
    have e1 : hasFrame r g b t = false := by unfold hasFrame; rw [hs, Bool.and_false]; rfl
    have e2 : frameR r g b t = zeroR := if_neg (by rw [e1]; exact Bool.false_ne_true)
    rw [e1, e2]
    clear e1 e2 hr hs
    go_enter Try.func16, Try.ntmps16
    go_wp2_with fail
    with_reducible refine (HR.out _).mono ?_
    rintro e w1 ⟨rfl, hb⟩
    have H1 := H0.next hb
    clear hb H0
    obtain ⟨⟨c0_0, c0_1, c0_2, c0_3⟩, ⟨f0_0, f0_1, f0_2, f0_3⟩⟩ := (H1.get 0 rfl).c4
    obtain ⟨⟨c1_0, c1_1, c1_2⟩, ⟨f1_0, f1_1, f1_2⟩⟩ := (H1.get 1 rfl).c3
    obtain ⟨⟨c2_0, c2_1, c2_2, c2_3⟩, ⟨f2_0, f2_1, f2_2, f2_3⟩⟩ := (H1.get 2 rfl).c4
    go_wp2_with fail
    with_reducible refine (HC.out _).mono ?_
    rintro e w2 ⟨rfl, hb⟩
    have H2 := H1.next hb
    clear hb H1
    clear c0_0 c0_1 c0_2 c0_3 f0_0 f0_1 f0_2 f0_3 c1_0 c1_1 c1_2 f1_0 f1_1 f1_2 c2_0 c2_1 c2_2 c2_3 f2_0 f2_1 f2_2 f2_3
    obtain ⟨⟨c0_0, c0_1, c0_2, c0_3⟩, ⟨f0_0, f0_1, f0_2, f0_3⟩⟩ := (H2.get 0 rfl).c4
    obtain ⟨⟨c1_0, c1_1, c1_2⟩, ⟨f1_0, f1_1, f1_2⟩⟩ := (H2.get 1 rfl).c3
    obtain ⟨⟨c2_0, c2_1, c2_2, c2_3⟩, ⟨f2_0, f2_1, f2_2, f2_3⟩⟩ := (H2.get 2 rfl).c4
    go_wp2_with fail
    refine bodyPost_ret (by simp [results, Try.results16, go_sem, c2_0, c2_1, c2_2, c2_3]; try rfl) rfl ?_
    exact ⟨rfl, (H2.put4 2 rfl _ _ _ _).below⟩
  cases hf : rightR (aroundR r b t)
  · have H0 := (((Bk.start w).alloc #[.int .i64 r.x, .int .i64 r.y, .int .i64 r.w, .int .i64 r.h] 23).alloc #[.int .i64 g, .int .i64 b, .int .i64 t] 34).alloc #[.int .i64 0, .int .i64 0, .int .i64 0, .int .i64 0] 23
    simp only [World.size_alloc, List.nil_append, List.cons_append] at H0
    have HR := Lib.hid (fun W => right_c r.x r.y r.w r.h W)
    rw [show rightB r.x r.y r.w r.h = true from hr] at HR
    have HC := Lib.hid (fun W => check_c g b t W)
    rw [show chkI g b t = 0 from if_pos hs] at HC
    have hs' := of_decide_eq_true hs
    obtain ⟨⟨g1, g2⟩, ⟨b1, b2⟩, t1, t2⟩ := hs'
    obtain ⟨⟨x1, x2, x3, x4⟩, y1, y2, y3, y4⟩ := (rightR_iff r).1 hr
    have HE := Lib.hid (fun W => edges_c g b t W ⟨b1, b2⟩ ⟨t1, t2⟩)
    obtain ⟨z, hz⟩ : ∃ z, z = aroundR r b t := ⟨_, rfl⟩
    have HR2 := Lib.hid (fun W => right_c z.x z.y z.w z.h W)
    rw [show rightB z.x z.y z.w z.h = false from by rw [hz]; exact hf] at HR2
    have z1 : r.x - b = z.x := by rw [hz]; rfl
    have z2 : r.y - (b + t) = z.y := by rw [hz]; show _ = r.y - b - t; omega
    have z3 : b + r.w + b = z.w := by rw [hz]; show _ = r.w + b + b; omega
    have z4 : b + t + r.h + b = z.h := by rw [hz]; show _ = r.h + b + b + t; omega
    have e1 : hasFrame r g b t = false := by unfold hasFrame; rw [hf, Bool.and_false]
    have e2 : frameR r g b t = zeroR := if_neg (by rw [e1]; exact Bool.false_ne_true)
    rw [e1, e2]
    clear e1 e2 hr hs hf hz
    have Z1 := Lib.hid z1
    have Z2 := Lib.hid z2
    have Z3 := Lib.hid z3
    have Z4 := Lib.hid z4
    clear z1 z2 z3 z4
    go_enter Try.func16, Try.ntmps16
    go_wp2_with fail
    with_reducible refine (HR.out _).mono ?_
    rintro e w1 ⟨rfl, hb⟩
    have H1 := H0.next hb
    clear hb H0
    obtain ⟨⟨c0_0, c0_1, c0_2, c0_3⟩, ⟨f0_0, f0_1, f0_2, f0_3⟩⟩ := (H1.get 0 rfl).c4
    obtain ⟨⟨c1_0, c1_1, c1_2⟩, ⟨f1_0, f1_1, f1_2⟩⟩ := (H1.get 1 rfl).c3
    obtain ⟨⟨c2_0, c2_1, c2_2, c2_3⟩, ⟨f2_0, f2_1, f2_2, f2_3⟩⟩ := (H1.get 2 rfl).c4
    go_wp2_with fail
    with_reducible refine (HC.out _).mono ?_
    rintro e w2 ⟨rfl, hb⟩
    have H2 := H1.next hb
    clear hb H1
    clear c0_0 c0_1 c0_2 c0_3 f0_0 f0_1 f0_2 f0_3 c1_0 c1_1 c1_2 f1_0 f1_1 f1_2 c2_0 c2_1 c2_2 c2_3 f2_0 f2_1 f2_2 f2_3
    obtain ⟨⟨c0_0, c0_1, c0_2, c0_3⟩, ⟨f0_0, f0_1, f0_2, f0_3⟩⟩ := (H2.get 0 rfl).c4
    obtain ⟨⟨c1_0, c1_1, c1_2⟩, ⟨f1_0, f1_1, f1_2⟩⟩ := (H2.get 1 rfl).c3
    obtain ⟨⟨c2_0, c2_1, c2_2, c2_3⟩, ⟨f2_0, f2_1, f2_2, f2_3⟩⟩ := (H2.get 2 rfl).c4
    go_wp2_with fail
    with_reducible refine (HE.out _).mono ?_
    rintro e w3 ⟨rfl, hb⟩
    have H3 := H2.next hb
    clear hb H2
    clear c0_0 c0_1 c0_2 c0_3 f0_0 f0_1 f0_2 f0_3 c1_0 c1_1 c1_2 f1_0 f1_1 f1_2 c2_0 c2_1 c2_2 c2_3 f2_0 f2_1 f2_2 f2_3
    obtain ⟨⟨c0_0, c0_1, c0_2, c0_3⟩, ⟨f0_0, f0_1, f0_2, f0_3⟩⟩ := (H3.get 0 rfl).c4
    obtain ⟨⟨c1_0, c1_1, c1_2⟩, ⟨f1_0, f1_1, f1_2⟩⟩ := (H3.get 1 rfl).c3
    obtain ⟨⟨c2_0, c2_1, c2_2, c2_3⟩, ⟨f2_0, f2_1, f2_2, f2_3⟩⟩ := (H3.get 2 rfl).c4
    have l0 := (H3.get 0 rfl).lt
    have m0 := Nat.lt_succ_of_lt l0
    have n0 := Nat.ne_of_lt l0
    have l1 := (H3.get 1 rfl).lt
    have m1 := Nat.lt_succ_of_lt l1
    have n1 := Nat.ne_of_lt l1
    have l2 := (H3.get 2 rfl).lt
    have m2 := Nat.lt_succ_of_lt l2
    have n2 := Nat.ne_of_lt l2
    simp only [Nat.succ_eq_add_one] at m0 m1 m2
    go_wp2_with fail
    simp only [Z1.out, Z2.out, Z3.out, Z4.out]
    with_reducible refine (HR2.out _).mono ?_
    rintro e w4 ⟨rfl, hb⟩
    have H4 := ((H3.alloc #[.int .i64 b, .int .i64 (b + t), .int .i64 b, .int .i64 b] 54).alloc #[.int .i64 z.x, .int .i64 z.y, .int .i64 z.w, .int .i64 z.h] 23).next hb
    simp only [World.size_alloc, List.nil_append, List.cons_append] at H4
    clear hb H3 c0_0 c0_1 c0_2 c0_3 f0_0 f0_1 f0_2 f0_3 c1_0 c1_1 c1_2 f1_0 f1_1 f1_2 c2_0 c2_1 c2_2 c2_3 f2_0 f2_1 f2_2 f2_3
    obtain ⟨⟨c0, c1, c2, c3⟩, -⟩ := (H4.get 4 rfl).c4
    obtain ⟨⟨d0, d1, d2, d3⟩, e0, e1, e2, e3⟩ := (H4.get 2 rfl).c4
    go_wp2_with fail
    refine bodyPost_ret (by simp [results, Try.results16, go_sem, d0, d1, d2, d3]; try rfl) rfl ?_
    exact ⟨rfl, (H4.put4 2 rfl _ _ _ _).below⟩
  · have H0 := (((Bk.start w).alloc #[.int .i64 r.x, .int .i64 r.y, .int .i64 r.w, .int .i64 r.h] 23).alloc #[.int .i64 g, .int .i64 b, .int .i64 t] 34).alloc #[.int .i64 0, .int .i64 0, .int .i64 0, .int .i64 0] 23
    simp only [World.size_alloc, List.nil_append, List.cons_append] at H0
    have HR := Lib.hid (fun W => right_c r.x r.y r.w r.h W)
    rw [show rightB r.x r.y r.w r.h = true from hr] at HR
    have HC := Lib.hid (fun W => check_c g b t W)
    rw [show chkI g b t = 0 from if_pos hs] at HC
    have hs' := of_decide_eq_true hs
    obtain ⟨⟨g1, g2⟩, ⟨b1, b2⟩, t1, t2⟩ := hs'
    obtain ⟨⟨x1, x2, x3, x4⟩, y1, y2, y3, y4⟩ := (rightR_iff r).1 hr
    have HE := Lib.hid (fun W => edges_c g b t W ⟨b1, b2⟩ ⟨t1, t2⟩)
    obtain ⟨z, hz⟩ : ∃ z, z = aroundR r b t := ⟨_, rfl⟩
    have HR2 := Lib.hid (fun W => right_c z.x z.y z.w z.h W)
    rw [show rightB z.x z.y z.w z.h = true from by rw [hz]; exact hf] at HR2
    have z1 : r.x - b = z.x := by rw [hz]; rfl
    have z2 : r.y - (b + t) = z.y := by rw [hz]; show _ = r.y - b - t; omega
    have z3 : b + r.w + b = z.w := by rw [hz]; show _ = r.w + b + b; omega
    have z4 : b + t + r.h + b = z.h := by rw [hz]; show _ = r.h + b + b + t; omega
    have e1 : hasFrame r g b t = true := by unfold hasFrame; rw [hr, hs, hf]; rfl
    have e2 : frameR r g b t = aroundR r b t := if_pos e1
    rw [e1, e2]
    rw [← hz]
    clear e1 e2 hr hs hf hz
    have Z1 := Lib.hid z1
    have Z2 := Lib.hid z2
    have Z3 := Lib.hid z3
    have Z4 := Lib.hid z4
    clear z1 z2 z3 z4
    go_enter Try.func16, Try.ntmps16
    go_wp2_with fail
    with_reducible refine (HR.out _).mono ?_
    rintro e w1 ⟨rfl, hb⟩
    have H1 := H0.next hb
    clear hb H0
    obtain ⟨⟨c0_0, c0_1, c0_2, c0_3⟩, ⟨f0_0, f0_1, f0_2, f0_3⟩⟩ := (H1.get 0 rfl).c4
    obtain ⟨⟨c1_0, c1_1, c1_2⟩, ⟨f1_0, f1_1, f1_2⟩⟩ := (H1.get 1 rfl).c3
    obtain ⟨⟨c2_0, c2_1, c2_2, c2_3⟩, ⟨f2_0, f2_1, f2_2, f2_3⟩⟩ := (H1.get 2 rfl).c4
    go_wp2_with fail
    with_reducible refine (HC.out _).mono ?_
    rintro e w2 ⟨rfl, hb⟩
    have H2 := H1.next hb
    clear hb H1
    clear c0_0 c0_1 c0_2 c0_3 f0_0 f0_1 f0_2 f0_3 c1_0 c1_1 c1_2 f1_0 f1_1 f1_2 c2_0 c2_1 c2_2 c2_3 f2_0 f2_1 f2_2 f2_3
    obtain ⟨⟨c0_0, c0_1, c0_2, c0_3⟩, ⟨f0_0, f0_1, f0_2, f0_3⟩⟩ := (H2.get 0 rfl).c4
    obtain ⟨⟨c1_0, c1_1, c1_2⟩, ⟨f1_0, f1_1, f1_2⟩⟩ := (H2.get 1 rfl).c3
    obtain ⟨⟨c2_0, c2_1, c2_2, c2_3⟩, ⟨f2_0, f2_1, f2_2, f2_3⟩⟩ := (H2.get 2 rfl).c4
    go_wp2_with fail
    with_reducible refine (HE.out _).mono ?_
    rintro e w3 ⟨rfl, hb⟩
    have H3 := H2.next hb
    clear hb H2
    clear c0_0 c0_1 c0_2 c0_3 f0_0 f0_1 f0_2 f0_3 c1_0 c1_1 c1_2 f1_0 f1_1 f1_2 c2_0 c2_1 c2_2 c2_3 f2_0 f2_1 f2_2 f2_3
    obtain ⟨⟨c0_0, c0_1, c0_2, c0_3⟩, ⟨f0_0, f0_1, f0_2, f0_3⟩⟩ := (H3.get 0 rfl).c4
    obtain ⟨⟨c1_0, c1_1, c1_2⟩, ⟨f1_0, f1_1, f1_2⟩⟩ := (H3.get 1 rfl).c3
    obtain ⟨⟨c2_0, c2_1, c2_2, c2_3⟩, ⟨f2_0, f2_1, f2_2, f2_3⟩⟩ := (H3.get 2 rfl).c4
    have l0 := (H3.get 0 rfl).lt
    have m0 := Nat.lt_succ_of_lt l0
    have n0 := Nat.ne_of_lt l0
    have l1 := (H3.get 1 rfl).lt
    have m1 := Nat.lt_succ_of_lt l1
    have n1 := Nat.ne_of_lt l1
    have l2 := (H3.get 2 rfl).lt
    have m2 := Nat.lt_succ_of_lt l2
    have n2 := Nat.ne_of_lt l2
    simp only [Nat.succ_eq_add_one] at m0 m1 m2
    go_wp2_with fail
    simp only [Z1.out, Z2.out, Z3.out, Z4.out]
    with_reducible refine (HR2.out _).mono ?_
    rintro e w4 ⟨rfl, hb⟩
    have H4 := ((H3.alloc #[.int .i64 b, .int .i64 (b + t), .int .i64 b, .int .i64 b] 54).alloc #[.int .i64 z.x, .int .i64 z.y, .int .i64 z.w, .int .i64 z.h] 23).next hb
    simp only [World.size_alloc, List.nil_append, List.cons_append] at H4
    clear hb H3 c0_0 c0_1 c0_2 c0_3 f0_0 f0_1 f0_2 f0_3 c1_0 c1_1 c1_2 f1_0 f1_1 f1_2 c2_0 c2_1 c2_2 c2_3 f2_0 f2_1 f2_2 f2_3
    obtain ⟨⟨c0, c1, c2, c3⟩, -⟩ := (H4.get 4 rfl).c4
    obtain ⟨⟨d0, d1, d2, d3⟩, e0, e1, e2, e3⟩ := (H4.get 2 rfl).c4
    go_wp2_with fail
    refine bodyPost_ret (by simp [results, Try.results16, go_sem, d0, d1, d2, d3]; try rfl) rfl ?_
    exact ⟨rfl, (H4.put4 2 rfl _ _ _ _).below⟩
set_option maxRecDepth 100000 in
set_option maxHeartbeats 4000000 in
theorem move_c (r v : Rc) (dx dy : Int) (w : World) : Calls Try.prog 12 #[rcV r, rcV v, .int .i64 dx, .int .i64 dy] w fun e w' => e = .returned (rcV (moveR r v dx dy)) ∧ Below w.heap.size w w' := by
  cases he : emptyR (shiftRR r dx dy)
  rotate_left
  · have H0 := (((Bk.start w).alloc #[.int .i64 r.x, .int .i64 r.y, .int .i64 r.w, .int .i64 r.h] 23).alloc #[.int .i64 v.x, .int .i64 v.y, .int .i64 v.w, .int .i64 v.h] 23).alloc #[.int .i64 0, .int .i64 0, .int .i64 0, .int .i64 0] 23
    simp only [World.size_alloc, List.nil_append, List.cons_append] at H0
    obtain ⟨s, hs⟩ : ∃ s, s = shiftRR r dx dy := ⟨_, rfl⟩
    have HS := Lib.hid (fun W => shift_c r.x r.y r.w r.h dx dy W)
    rw [show shiftR r.x r.y r.w r.h dx dy = s from hs.symm] at HS
    have HE := Lib.hid (fun W => empty_c s.x s.y s.w s.h W)
    rw [show emptyB s.x s.y s.w s.h = true from by rw [hs]; exact he] at HE
    have em : moveR r v dx dy = s := by unfold moveR; rw [← hs] at he ⊢; exact if_pos (.inl he)
    rw [em]
    clear em he hs
    go_enter Try.func12, Try.ntmps12
    go_wp2_with fail
    with_reducible refine (HS.out _).mono ?_
    rintro e w1 ⟨rfl, hb⟩
    have H1 := H0.next hb
    clear hb H0
    obtain ⟨⟨c0_0, c0_1, c0_2, c0_3⟩, ⟨f0_0, f0_1, f0_2, f0_3⟩⟩ := (H1.get 0 rfl).c4
    obtain ⟨⟨c1_0, c1_1, c1_2, c1_3⟩, ⟨f1_0, f1_1, f1_2, f1_3⟩⟩ := (H1.get 1 rfl).c4
    obtain ⟨⟨c2_0, c2_1, c2_2, c2_3⟩, ⟨f2_0, f2_1, f2_2, f2_3⟩⟩ := (H1.get 2 rfl).c4
    go_wp2_with fail
    with_reducible refine (HE.out _).mono ?_
    rintro e w2 ⟨rfl, hb⟩
    have H2 : Bk w [(w.heap.size, 23, #[.int .i64 s.x, .int .i64 s.y, .int .i64 s.w, .int .i64 s.h]), (w.heap.size + 1, 23, #[.int .i64 v.x, .int .i64 v.y, .int .i64 v.w, .int .i64 v.h]), (w.heap.size + 1 + 1, 23, #[.int .i64 0, .int .i64 0, .int .i64 0, .int .i64 0])] w2 := ((H1.put4 0 rfl (.int .i64 s.x) (.int .i64 s.y) (.int .i64 s.w) (.int .i64 s.h)).same rfl).next hb
    clear hb H1
    clear c0_0 c0_1 c0_2 c0_3 f0_0 f0_1 f0_2 f0_3 c1_0 c1_1 c1_2 c1_3 f1_0 f1_1 f1_2 f1_3 c2_0 c2_1 c2_2 c2_3 f2_0 f2_1 f2_2 f2_3
    obtain ⟨⟨c0_0, c0_1, c0_2, c0_3⟩, ⟨f0_0, f0_1, f0_2, f0_3⟩⟩ := (H2.get 0 rfl).c4
    obtain ⟨⟨c1_0, c1_1, c1_2, c1_3⟩, ⟨f1_0, f1_1, f1_2, f1_3⟩⟩ := (H2.get 1 rfl).c4
    obtain ⟨⟨c2_0, c2_1, c2_2, c2_3⟩, ⟨f2_0, f2_1, f2_2, f2_3⟩⟩ := (H2.get 2 rfl).c4
    go_wp2_with fail
    refine bodyPost_ret (by simp [results, Try.results12, go_sem, c2_0, c2_1, c2_2, c2_3]; try rfl) rfl ?_
    exact ⟨rfl, (H2.put4 2 rfl _ _ _ _).below⟩
  cases hv : emptyR v
  rotate_left
  · have H0 := (((Bk.start w).alloc #[.int .i64 r.x, .int .i64 r.y, .int .i64 r.w, .int .i64 r.h] 23).alloc #[.int .i64 v.x, .int .i64 v.y, .int .i64 v.w, .int .i64 v.h] 23).alloc #[.int .i64 0, .int .i64 0, .int .i64 0, .int .i64 0] 23
    simp only [World.size_alloc, List.nil_append, List.cons_append] at H0
    obtain ⟨s, hs⟩ : ∃ s, s = shiftRR r dx dy := ⟨_, rfl⟩
    have HS := Lib.hid (fun W => shift_c r.x r.y r.w r.h dx dy W)
    rw [show shiftR r.x r.y r.w r.h dx dy = s from hs.symm] at HS
    have HE := Lib.hid (fun W => empty_c s.x s.y s.w s.h W)
    rw [show emptyB s.x s.y s.w s.h = false from by rw [hs]; exact he] at HE
    have HV := Lib.hid (fun W => empty_c v.x v.y v.w v.h W)
    rw [show emptyB v.x v.y v.w v.h = true from hv] at HV
    have em : moveR r v dx dy = s := by unfold moveR; rw [← hs] at he ⊢; exact if_pos (.inr hv)
    rw [em]
    clear em he hs hv
    go_enter Try.func12, Try.ntmps12
    go_wp2_with fail
    with_reducible refine (HS.out _).mono ?_
    rintro e w1 ⟨rfl, hb⟩
    have H1 := H0.next hb
    clear hb H0
    obtain ⟨⟨c0_0, c0_1, c0_2, c0_3⟩, ⟨f0_0, f0_1, f0_2, f0_3⟩⟩ := (H1.get 0 rfl).c4
    obtain ⟨⟨c1_0, c1_1, c1_2, c1_3⟩, ⟨f1_0, f1_1, f1_2, f1_3⟩⟩ := (H1.get 1 rfl).c4
    obtain ⟨⟨c2_0, c2_1, c2_2, c2_3⟩, ⟨f2_0, f2_1, f2_2, f2_3⟩⟩ := (H1.get 2 rfl).c4
    go_wp2_with fail
    with_reducible refine (HE.out _).mono ?_
    rintro e w2 ⟨rfl, hb⟩
    have H2 : Bk w [(w.heap.size, 23, #[.int .i64 s.x, .int .i64 s.y, .int .i64 s.w, .int .i64 s.h]), (w.heap.size + 1, 23, #[.int .i64 v.x, .int .i64 v.y, .int .i64 v.w, .int .i64 v.h]), (w.heap.size + 1 + 1, 23, #[.int .i64 0, .int .i64 0, .int .i64 0, .int .i64 0])] w2 := ((H1.put4 0 rfl (.int .i64 s.x) (.int .i64 s.y) (.int .i64 s.w) (.int .i64 s.h)).same rfl).next hb
    clear hb H1
    clear c0_0 c0_1 c0_2 c0_3 f0_0 f0_1 f0_2 f0_3 c1_0 c1_1 c1_2 c1_3 f1_0 f1_1 f1_2 f1_3 c2_0 c2_1 c2_2 c2_3 f2_0 f2_1 f2_2 f2_3
    obtain ⟨⟨c0_0, c0_1, c0_2, c0_3⟩, ⟨f0_0, f0_1, f0_2, f0_3⟩⟩ := (H2.get 0 rfl).c4
    obtain ⟨⟨c1_0, c1_1, c1_2, c1_3⟩, ⟨f1_0, f1_1, f1_2, f1_3⟩⟩ := (H2.get 1 rfl).c4
    obtain ⟨⟨c2_0, c2_1, c2_2, c2_3⟩, ⟨f2_0, f2_1, f2_2, f2_3⟩⟩ := (H2.get 2 rfl).c4
    go_wp2_with fail
    with_reducible refine (HV.out _).mono ?_
    rintro e w3 ⟨rfl, hb⟩
    have H3 := H2.next hb
    clear hb H2
    clear c0_0 c0_1 c0_2 c0_3 f0_0 f0_1 f0_2 f0_3 c1_0 c1_1 c1_2 c1_3 f1_0 f1_1 f1_2 f1_3 c2_0 c2_1 c2_2 c2_3 f2_0 f2_1 f2_2 f2_3
    obtain ⟨⟨c0_0, c0_1, c0_2, c0_3⟩, ⟨f0_0, f0_1, f0_2, f0_3⟩⟩ := (H3.get 0 rfl).c4
    obtain ⟨⟨c1_0, c1_1, c1_2, c1_3⟩, ⟨f1_0, f1_1, f1_2, f1_3⟩⟩ := (H3.get 1 rfl).c4
    obtain ⟨⟨c2_0, c2_1, c2_2, c2_3⟩, ⟨f2_0, f2_1, f2_2, f2_3⟩⟩ := (H3.get 2 rfl).c4
    go_wp2_with fail
    refine bodyPost_ret (by simp [results, Try.results12, go_sem, c2_0, c2_1, c2_2, c2_3]; try rfl) rfl ?_
    exact ⟨rfl, (H3.put4 2 rfl _ _ _ _).below⟩
  · have H0 := (((Bk.start w).alloc #[.int .i64 r.x, .int .i64 r.y, .int .i64 r.w, .int .i64 r.h] 23).alloc #[.int .i64 v.x, .int .i64 v.y, .int .i64 v.w, .int .i64 v.h] 23).alloc #[.int .i64 0, .int .i64 0, .int .i64 0, .int .i64 0] 23
    simp only [World.size_alloc, List.nil_append, List.cons_append] at H0
    obtain ⟨s, hs⟩ : ∃ s, s = shiftRR r dx dy := ⟨_, rfl⟩
    have HS := Lib.hid (fun W => shift_c r.x r.y r.w r.h dx dy W)
    rw [show shiftR r.x r.y r.w r.h dx dy = s from hs.symm] at HS
    have HE := Lib.hid (fun W => empty_c s.x s.y s.w s.h W)
    rw [show emptyB s.x s.y s.w s.h = false from by rw [hs]; exact he] at HE
    have HV := Lib.hid (fun W => empty_c v.x v.y v.w v.h W)
    rw [show emptyB v.x v.y v.w v.h = false from hv] at HV
    have em : moveR r v dx dy = movedR s v := by unfold moveR; rw [← hs] at he ⊢; exact if_neg (by rw [he, hv]; simp)
    rw [← hs] at he
    obtain ⟨⟨x1, x2, x3, x4⟩, y1, y2, y3, y4⟩ := (emptyR_iff s).1 he
    obtain ⟨⟨u1, u2, u3, u4⟩, v1, v2, v3, v4⟩ := (emptyR_iff v).1 hv
    have HX := Lib.hid (fun W => hold_c s.x s.w v.x v.w W (by omega) (by omega) (by omega) (by omega))
    have HY := Lib.hid (fun W => hold_c s.y s.h v.y v.h W (by omega) (by omega) (by omega) (by omega))
    have mx : -1000000 ≤ holdI s.x s.w v.x v.w ∧ holdI s.x s.w v.x v.w ≤ 1000000 := by unfold holdI spanI; omega
    have my : -1000000 ≤ holdI s.y s.h v.y v.h ∧ holdI s.y s.h v.y v.h ≤ 1000000 := by unfold holdI spanI; omega
    have HZ := Lib.hid (fun W => sized_c (holdI s.x s.w v.x v.w) (holdI s.y s.h v.y v.h) s.w s.h W mx my)
    change Hid (∀ W, Calls _ _ _ W fun e w' => e = .returned (rcV (movedR s v)) ∧ _) at HZ
    generalize movedR s v = z at *
    generalize holdI s.x s.w v.x v.w = p at *
    generalize holdI s.y s.h v.y v.h = q at *
    clear mx my
    rw [em]
    clear em he hs hv
    go_enter Try.func12, Try.ntmps12
    go_wp2_with fail
    with_reducible refine (HS.out _).mono ?_
    rintro e w1 ⟨rfl, hb⟩
    have H1 := H0.next hb
    clear hb H0
    obtain ⟨⟨c0_0, c0_1, c0_2, c0_3⟩, ⟨f0_0, f0_1, f0_2, f0_3⟩⟩ := (H1.get 0 rfl).c4
    obtain ⟨⟨c1_0, c1_1, c1_2, c1_3⟩, ⟨f1_0, f1_1, f1_2, f1_3⟩⟩ := (H1.get 1 rfl).c4
    obtain ⟨⟨c2_0, c2_1, c2_2, c2_3⟩, ⟨f2_0, f2_1, f2_2, f2_3⟩⟩ := (H1.get 2 rfl).c4
    go_wp2_with fail
    with_reducible refine (HE.out _).mono ?_
    rintro e w2 ⟨rfl, hb⟩
    have H2 : Bk w [(w.heap.size, 23, #[.int .i64 s.x, .int .i64 s.y, .int .i64 s.w, .int .i64 s.h]), (w.heap.size + 1, 23, #[.int .i64 v.x, .int .i64 v.y, .int .i64 v.w, .int .i64 v.h]), (w.heap.size + 1 + 1, 23, #[.int .i64 0, .int .i64 0, .int .i64 0, .int .i64 0])] w2 := ((H1.put4 0 rfl (.int .i64 s.x) (.int .i64 s.y) (.int .i64 s.w) (.int .i64 s.h)).same rfl).next hb
    clear hb H1
    clear c0_0 c0_1 c0_2 c0_3 f0_0 f0_1 f0_2 f0_3 c1_0 c1_1 c1_2 c1_3 f1_0 f1_1 f1_2 f1_3 c2_0 c2_1 c2_2 c2_3 f2_0 f2_1 f2_2 f2_3
    obtain ⟨⟨c0_0, c0_1, c0_2, c0_3⟩, ⟨f0_0, f0_1, f0_2, f0_3⟩⟩ := (H2.get 0 rfl).c4
    obtain ⟨⟨c1_0, c1_1, c1_2, c1_3⟩, ⟨f1_0, f1_1, f1_2, f1_3⟩⟩ := (H2.get 1 rfl).c4
    obtain ⟨⟨c2_0, c2_1, c2_2, c2_3⟩, ⟨f2_0, f2_1, f2_2, f2_3⟩⟩ := (H2.get 2 rfl).c4
    go_wp2_with fail
    with_reducible refine (HV.out _).mono ?_
    rintro e w3 ⟨rfl, hb⟩
    have H3 := H2.next hb
    clear hb H2
    clear c0_0 c0_1 c0_2 c0_3 f0_0 f0_1 f0_2 f0_3 c1_0 c1_1 c1_2 c1_3 f1_0 f1_1 f1_2 f1_3 c2_0 c2_1 c2_2 c2_3 f2_0 f2_1 f2_2 f2_3
    obtain ⟨⟨c0_0, c0_1, c0_2, c0_3⟩, ⟨f0_0, f0_1, f0_2, f0_3⟩⟩ := (H3.get 0 rfl).c4
    obtain ⟨⟨c1_0, c1_1, c1_2, c1_3⟩, ⟨f1_0, f1_1, f1_2, f1_3⟩⟩ := (H3.get 1 rfl).c4
    obtain ⟨⟨c2_0, c2_1, c2_2, c2_3⟩, ⟨f2_0, f2_1, f2_2, f2_3⟩⟩ := (H3.get 2 rfl).c4
    go_wp2_with fail
    with_reducible refine (HX.out _).mono ?_
    rintro e w' ⟨rfl, rfl⟩
    go_wp2_with fail
    with_reducible refine (HY.out _).mono ?_
    rintro e w' ⟨rfl, rfl⟩
    go_wp2_with fail
    with_reducible refine (HZ.out _).mono ?_
    rintro e w4 ⟨rfl, hb⟩
    have H4 := H3.next hb
    clear hb H3
    clear c0_0 c0_1 c0_2 c0_3 f0_0 f0_1 f0_2 f0_3 c1_0 c1_1 c1_2 c1_3 f1_0 f1_1 f1_2 f1_3 c2_0 c2_1 c2_2 c2_3 f2_0 f2_1 f2_2 f2_3
    obtain ⟨⟨c0_0, c0_1, c0_2, c0_3⟩, ⟨f0_0, f0_1, f0_2, f0_3⟩⟩ := (H4.get 0 rfl).c4
    obtain ⟨⟨c1_0, c1_1, c1_2, c1_3⟩, ⟨f1_0, f1_1, f1_2, f1_3⟩⟩ := (H4.get 1 rfl).c4
    obtain ⟨⟨c2_0, c2_1, c2_2, c2_3⟩, ⟨f2_0, f2_1, f2_2, f2_3⟩⟩ := (H4.get 2 rfl).c4
    go_wp2_with fail
    refine bodyPost_ret (by simp [results, Try.results12, go_sem, c2_0, c2_1, c2_2, c2_3]; try rfl) rfl ?_
    exact ⟨rfl, (H4.put4 2 rfl _ _ _ _).below⟩
end Go.Proofs.Ytdmoncpeoaoppaa.Fl
