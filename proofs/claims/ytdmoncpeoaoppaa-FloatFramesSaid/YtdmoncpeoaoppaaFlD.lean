/- The document's Start, walked. -/
import Derived.Test.YtdmoncpeoaoppaaFlC
import Derived.Test.YtdmoncpeoaoppaaSzY
namespace Go.Proofs.Ytdmoncpeoaoppaa.Fl
open Go.RowKit Sz
set_option maxRecDepth 100000 in
set_option maxHeartbeats 4000000 in
theorem rstart_00 (o v : Rc) (hh : Hn) (x t : Int) (w : World) (hv : emptyR v = false) (ho : emptyR o = false) : Calls Try.prog 10 #[rcV o, rcV v, hnV hh, .int .i64 x, .int .i64 t] w fun e w' => ∃ n a b, e = .returned (rcV (startR (ownR o (workR v)) (workR v) a b)) ∧ NormP hh n ∧ FitP n (min x (workR v).w) (min t (workR v).h) a b ∧ Below w.heap.size w w' := by
  have H0 := ((((Bk.start w).alloc #[.int .i64 o.x, .int .i64 o.y, .int .i64 o.w, .int .i64 o.h] 23).alloc #[.int .i64 v.x, .int .i64 v.y, .int .i64 v.w, .int .i64 v.h] 23).alloc #[.int .i64 hh.minW, .int .i64 hh.minH, .int .i64 hh.maxW, .int .i64 hh.maxH, .int .i64 hh.baseW, .int .i64 hh.baseH, .int .i64 hh.incW, .int .i64 hh.incH, .int .i64 hh.lowX, .int .i64 hh.lowY, .int .i64 hh.highX, .int .i64 hh.highY] 25).alloc #[.int .i64 0, .int .i64 0, .int .i64 0, .int .i64 0] 23
  simp only [World.size_alloc, List.nil_append, List.cons_append] at H0
  have HV := Lib.hid (fun W => rempty_c v.x v.y v.w v.h W)
  have HO := Lib.hid (fun W => rempty_c o.x o.y o.w o.h W)
  rw [show emptyB v.x v.y v.w v.h = false from hv] at HV
  rw [show emptyB o.x o.y o.w o.h = false from ho] at HO
  have ew : workR v = v := if_neg (by rw [show emptyB v.x v.y v.w v.h = false from hv]; exact Bool.false_ne_true)
  have eo : ownR o v = o := if_neg (by rw [show emptyB o.x o.y o.w o.h = false from ho]; exact Bool.false_ne_true)
  have bo := (emptyR_iff o).1 (by first | exact hv | exact ho)
  have bw := (emptyR_iff v).1 (by exact hv)
  rw [ew, eo]
  clear ew eo hv ho
  have HLx := Lib.hid (fun W => rleast_c x v.w W)
  have HLt := Lib.hid (fun W => rleast_c t v.h W)
  have HF := Lib.hid (fun W => rfit_c hh (min x v.w) (min t v.h) W)
  obtain ⟨mx, hmx⟩ : ∃ mx, mx = min x v.w := ⟨_, rfl⟩
  obtain ⟨mt, hmt⟩ : ∃ mt, mt = min t v.h := ⟨_, rfl⟩
  rw [← hmx] at HLx HF
  rw [← hmt] at HLt HF
  have HMX := Lib.hid hmx
  have HMT := Lib.hid hmt
  clear hmx hmt
  go_enter Try.func10, Try.ntmps10
  go_wp2_with fail
  with_reducible refine (HV.out _).mono ?_
  rintro e w1 ⟨rfl, hb⟩
  have H1 := H0.next hb
  clear hb H0
  obtain ⟨⟨c0_0, c0_1, c0_2, c0_3⟩, ⟨f0_0, f0_1, f0_2, f0_3⟩⟩ := (H1.get 0 rfl).c4
  obtain ⟨⟨c1_0, c1_1, c1_2, c1_3⟩, ⟨f1_0, f1_1, f1_2, f1_3⟩⟩ := (H1.get 1 rfl).c4
  obtain ⟨⟨c2_0, c2_1, c2_2, c2_3, c2_4, c2_5, c2_6, c2_7, c2_8, c2_9, c2_10, c2_11⟩, -⟩ := HB.out (H1.get 2 rfl)
  go_upto_region 3 with fail
  clear c0_0 c0_1 c0_2 c0_3 f0_0 f0_1 f0_2 f0_3 c1_0 c1_1 c1_2 c1_3 f1_0 f1_1 f1_2 f1_3 c2_0 c2_1 c2_2 c2_3 c2_4 c2_5 c2_6 c2_7 c2_8 c2_9 c2_10 c2_11
  obtain ⟨⟨k1_0, k1_1, k1_2, k1_3⟩, ⟨k1_f0, k1_f1, k1_f2, k1_f3⟩⟩ := (H1.get 1 rfl).c4; obtain ⟨⟨k2_0, k2_1, k2_2, k2_3, k2_4, k2_5, k2_6, k2_7, k2_8, k2_9, k2_10, k2_11⟩, -⟩ := HB.out (H1.get 2 rfl)
  refine wp_region_noPanic ?_
  refine wp_region_held_drew (S := fun wx => wx.cell? ⟨w.heap.size + 1, 0, none⟩ = some (.int .i64 v.x) ∧ wx.cell? ⟨w.heap.size + 1, 1, none⟩ = some (.int .i64 v.y) ∧ wx.cell? ⟨w.heap.size + 1, 2, none⟩ = some (.int .i64 v.w) ∧ wx.cell? ⟨w.heap.size + 1, 3, none⟩ = some (.int .i64 v.h) ∧ wx.cell? ⟨w.heap.size + 1 + 1, 0, none⟩ = some (.int .i64 hh.minW) ∧ wx.cell? ⟨w.heap.size + 1 + 1, 1, none⟩ = some (.int .i64 hh.minH) ∧ wx.cell? ⟨w.heap.size + 1 + 1, 2, none⟩ = some (.int .i64 hh.maxW) ∧ wx.cell? ⟨w.heap.size + 1 + 1, 3, none⟩ = some (.int .i64 hh.maxH) ∧ wx.cell? ⟨w.heap.size + 1 + 1, 4, none⟩ = some (.int .i64 hh.baseW) ∧ wx.cell? ⟨w.heap.size + 1 + 1, 5, none⟩ = some (.int .i64 hh.baseH) ∧ wx.cell? ⟨w.heap.size + 1 + 1, 6, none⟩ = some (.int .i64 hh.incW) ∧ wx.cell? ⟨w.heap.size + 1 + 1, 7, none⟩ = some (.int .i64 hh.incH) ∧ wx.cell? ⟨w.heap.size + 1 + 1, 8, none⟩ = some (.int .i64 hh.lowX) ∧ wx.cell? ⟨w.heap.size + 1 + 1, 9, none⟩ = some (.int .i64 hh.lowY) ∧ wx.cell? ⟨w.heap.size + 1 + 1, 10, none⟩ = some (.int .i64 hh.highX) ∧ wx.cell? ⟨w.heap.size + 1 + 1, 11, none⟩ = some (.int .i64 hh.highY)) (by kernel_rfl) (by exact ⟨k1_0, k1_1, k1_2, k1_3, k2_0, k2_1, k2_2, k2_3, k2_4, k2_5, k2_6, k2_7, k2_8, k2_9, k2_10, k2_11⟩) (fun hHeld => ?_)
  refine wpAnyH_take (i := 0) (v := ?vq1x0) rfl (by kernel_rfl) (by kernel_rfl) (by kernel_rfl) (fun _ _ _ h => h) (Or.inl ⟨by kernel_rfl, ?yq1x0⟩) (by assumption) ?rq1x0
  case yq1x0 => (intro wq hSw; (try dsimp only at hSw); go_simp; (try with_reducible rfl))
  (try simp only [Act.put, List.getElem_toArray, List.getElem_cons_zero, List.setIfInBounds_toArray, List.set_cons_zero, List.set_cons_succ])
  refine wpAnyH_take (i := 1) (v := ?vq1x1) rfl (by kernel_rfl) (by kernel_rfl) (by kernel_rfl) (fun _ _ _ h => h) (Or.inl ⟨by kernel_rfl, ?yq1x1⟩) (by assumption) ?rq1x1
  case yq1x1 => (intro wq hSw; (try dsimp only at hSw); go_simp; (try with_reducible rfl))
  (try simp only [Act.put, List.getElem_toArray, List.getElem_cons_succ, List.getElem_cons_zero, List.setIfInBounds_toArray, List.set_cons_zero, List.set_cons_succ])
  refine wpAnyH_take (i := 2) (v := ?vq1x2) rfl (by kernel_rfl) (by kernel_rfl) (by kernel_rfl) (fun _ _ _ h => h) (Or.inl ⟨by kernel_rfl, ?yq1x2⟩) (by assumption) ?rq1x2
  case yq1x2 => (intro wq hSw; (try dsimp only at hSw); go_simp; (try with_reducible rfl))
  (try simp only [Act.put, List.getElem_toArray, List.getElem_cons_succ, List.getElem_cons_zero, List.setIfInBounds_toArray, List.set_cons_zero, List.set_cons_succ])
  refine wpAnyH_take (i := 3) (v := ?vq1x3) rfl (by kernel_rfl) (by kernel_rfl) (by kernel_rfl) (fun _ _ _ h => h) (Or.inl ⟨by kernel_rfl, ?yq1x3⟩) (by assumption) ?rq1x3
  case yq1x3 => (intro wq hSw; (try dsimp only at hSw); go_simp; (try with_reducible rfl))
  (try simp only [Act.put, List.getElem_toArray, List.getElem_cons_succ, List.getElem_cons_zero, List.setIfInBounds_toArray, List.set_cons_zero, List.set_cons_succ])
  refine wpAnyH_take (i := 5) (v := ?vq1x5) rfl (by kernel_rfl) (by kernel_rfl) (by kernel_rfl) (fun _ _ _ h => h) (Or.inl ⟨by kernel_rfl, ?yq1x5⟩) (by assumption) ?rq1x5
  case yq1x5 => (intro wq hSw; (try dsimp only at hSw); go_simp; (try with_reducible rfl))
  (try simp only [Act.put, List.getElem_toArray, List.getElem_cons_succ, List.getElem_cons_zero, List.setIfInBounds_toArray, List.set_cons_zero, List.set_cons_succ])
  refine wpAnyH_take (i := 6) (v := ?vq1x6) rfl (by kernel_rfl) (by kernel_rfl) (by kernel_rfl) (fun _ _ _ h => h) (Or.inl ⟨by kernel_rfl, ?yq1x6⟩) (by assumption) ?rq1x6
  case yq1x6 => (intro wq hSw; (try dsimp only at hSw); go_simp; (try with_reducible rfl))
  (try simp only [Act.put, List.getElem_toArray, List.getElem_cons_succ, List.getElem_cons_zero, List.setIfInBounds_toArray, List.set_cons_zero, List.set_cons_succ])
  refine wpAnyH_take (i := 7) (v := ?vq1x7) rfl (by kernel_rfl) (by kernel_rfl) (by kernel_rfl) (fun _ _ _ h => h) (Or.inl ⟨by kernel_rfl, ?yq1x7⟩) (by assumption) ?rq1x7
  case yq1x7 => (intro wq hSw; (try dsimp only at hSw); go_simp; (try with_reducible rfl))
  (try simp only [Act.put, List.getElem_toArray, List.getElem_cons_succ, List.getElem_cons_zero, List.setIfInBounds_toArray, List.set_cons_zero, List.set_cons_succ])
  refine wpAnyH_ready (rs := [4]) (by kernel_rfl) (by simp) ?_
  refine AllReadyH.cons rfl (fun K hK => ?_) AllReadyH.nil
  go_simp
  refine (HLx.out _).mono ?_
  rintro e w2 ⟨rfl, rfl⟩; have H2 := H1.drew; clear H1 k1_0 k1_f0 k1_1 k1_f1 k1_2 k1_f2 k1_3 k1_f3 k2_0 k2_1 k2_2 k2_3 k2_4 k2_5 k2_6 k2_7 k2_8 k2_9 k2_10 k2_11; obtain ⟨⟨k1_0, k1_1, k1_2, k1_3⟩, ⟨k1_f0, k1_f1, k1_f2, k1_f3⟩⟩ := (H2.get 1 rfl).c4; obtain ⟨⟨k2_0, k2_1, k2_2, k2_3, k2_4, k2_5, k2_6, k2_7, k2_8, k2_9, k2_10, k2_11⟩, -⟩ := HB.out (H2.get 2 rfl)
  (try dsimp only)
  refine hK.out _ _ (by exact ⟨k1_0, k1_1, k1_2, k1_3, k2_0, k2_1, k2_2, k2_3, k2_4, k2_5, k2_6, k2_7, k2_8, k2_9, k2_10, k2_11⟩) (fun hHeld => ?_)
  clear hK K
  (try simp only [Act.put, List.getElem_toArray, List.getElem_cons_succ, List.getElem_cons_zero, List.setIfInBounds_toArray, List.set_cons_zero, List.set_cons_succ])
  refine wpAnyH_ready (rs := [8]) (by kernel_rfl) (by simp) ?_
  refine AllReadyH.cons rfl (fun K hK => ?_) AllReadyH.nil
  go_simp
  refine (HLt.out _).mono ?_
  rintro e w3 ⟨rfl, rfl⟩; have H3 := H2; clear H2 k1_0 k1_f0 k1_1 k1_f1 k1_2 k1_f2 k1_3 k1_f3 k2_0 k2_1 k2_2 k2_3 k2_4 k2_5 k2_6 k2_7 k2_8 k2_9 k2_10 k2_11; obtain ⟨⟨k1_0, k1_1, k1_2, k1_3⟩, ⟨k1_f0, k1_f1, k1_f2, k1_f3⟩⟩ := (H3.get 1 rfl).c4; obtain ⟨⟨k2_0, k2_1, k2_2, k2_3, k2_4, k2_5, k2_6, k2_7, k2_8, k2_9, k2_10, k2_11⟩, -⟩ := HB.out (H3.get 2 rfl)
  (try dsimp only)
  refine hK.out _ _ (by exact ⟨k1_0, k1_1, k1_2, k1_3, k2_0, k2_1, k2_2, k2_3, k2_4, k2_5, k2_6, k2_7, k2_8, k2_9, k2_10, k2_11⟩) (fun hHeld => ?_)
  clear hK K
  (try simp only [Act.put, List.getElem_toArray, List.getElem_cons_succ, List.getElem_cons_zero, List.setIfInBounds_toArray, List.set_cons_zero, List.set_cons_succ])
  refine wpAnyH_ready (rs := [9]) (by kernel_rfl) (by simp) ?_
  refine AllReadyH.cons rfl (fun K hK => ?_) AllReadyH.nil
  go_simp
  refine (HF.out _).mono ?_
  rintro e w4 ⟨n, a, b, rfl, hN, hF, hb⟩; have H4 := H3.next hb; clear hb H3 k1_0 k1_f0 k1_1 k1_f1 k1_2 k1_f2 k1_3 k1_f3 k2_0 k2_1 k2_2 k2_3 k2_4 k2_5 k2_6 k2_7 k2_8 k2_9 k2_10 k2_11; obtain ⟨⟨k1_0, k1_1, k1_2, k1_3⟩, ⟨k1_f0, k1_f1, k1_f2, k1_f3⟩⟩ := (H4.get 1 rfl).c4; obtain ⟨⟨k2_0, k2_1, k2_2, k2_3, k2_4, k2_5, k2_6, k2_7, k2_8, k2_9, k2_10, k2_11⟩, -⟩ := HB.out (H4.get 2 rfl)
  (try dsimp only)
  refine hK.out _ _ (by exact ⟨k1_0, k1_1, k1_2, k1_3, k2_0, k2_1, k2_2, k2_3, k2_4, k2_5, k2_6, k2_7, k2_8, k2_9, k2_10, k2_11⟩) (fun hHeld => ?_)
  clear hK K
  (try simp only [Act.put, List.getElem_toArray, List.getElem_cons_succ, List.getElem_cons_zero, List.setIfInBounds_toArray, List.set_cons_zero, List.set_cons_succ])
  refine wpAnyH_take (i := 10) (v := ?vq1x10) rfl (by kernel_rfl) (by kernel_rfl) (by kernel_rfl) (fun _ _ _ h => h) (Or.inl ⟨by kernel_rfl, ?yq1x10⟩) (by assumption) ?rq1x10
  case yq1x10 => (intro wq hSw; (try dsimp only at hSw); go_simp; (try with_reducible rfl))
  (try simp only [Act.put, List.getElem_toArray, List.getElem_cons_succ, List.getElem_cons_zero, List.setIfInBounds_toArray, List.set_cons_zero, List.set_cons_succ])
  refine wpAnyH_take (i := 11) (v := ?vq1x11) rfl (by kernel_rfl) (by kernel_rfl) (by kernel_rfl) (fun _ _ _ h => h) (Or.inl ⟨by kernel_rfl, ?yq1x11⟩) (by assumption) ?rq1x11
  case yq1x11 => (intro wq hSw; (try dsimp only at hSw); go_simp; (try with_reducible rfl))
  (try simp only [Act.put, List.getElem_toArray, List.getElem_cons_succ, List.getElem_cons_zero, List.setIfInBounds_toArray, List.set_cons_zero, List.set_cons_succ])
  refine wpAnyH_take (i := 12) (v := ?vq1x12) rfl (by kernel_rfl) (by kernel_rfl) (by kernel_rfl) (fun _ _ _ h => h) (Or.inl ⟨by kernel_rfl, ?yq1x12⟩) (by assumption) ?rq1x12
  case yq1x12 => (intro wq hSw; (try dsimp only at hSw); go_simp; (try with_reducible rfl))
  (try simp only [Act.put, List.getElem_toArray, List.getElem_cons_succ, List.getElem_cons_zero, List.setIfInBounds_toArray, List.set_cons_zero, List.set_cons_succ])
  refine wpAnyH_take (i := 13) (v := ?vq1x13) rfl (by kernel_rfl) (by kernel_rfl) (by kernel_rfl) (fun _ _ _ h => h) (Or.inl ⟨by kernel_rfl, ?yq1x13⟩) (by assumption) ?rq1x13
  case yq1x13 => (intro wq hSw; (try dsimp only at hSw); go_simp; (try with_reducible rfl))
  (try simp only [Act.put, List.getElem_toArray, List.getElem_cons_succ, List.getElem_cons_zero, List.setIfInBounds_toArray, List.set_cons_zero, List.set_cons_succ])
  refine wpAnyH_take (i := 14) (v := ?vq1x14) rfl (by kernel_rfl) (by kernel_rfl) (by kernel_rfl) (fun _ _ _ h => h) (Or.inl ⟨by kernel_rfl, ?yq1x14⟩) (by assumption) ?rq1x14
  case yq1x14 => (intro wq hSw; (try dsimp only at hSw); go_simp; (try with_reducible rfl))
  (try simp only [Act.put, List.getElem_toArray, List.getElem_cons_succ, List.getElem_cons_zero, List.setIfInBounds_toArray, List.set_cons_zero, List.set_cons_succ])
  refine wpAnyH_done (by kernel_rfl) ?_ _
  refine NoPanic.normal ?_
  obtain ⟨⟨a1, a2⟩, b1, b2⟩ := fit_b hN.right.1 hF
  have HX := Lib.hid (fun W => half_c (o.w - a) W (by (try simp only at *); omega))
  have HY := Lib.hid (fun W => half_c (o.h - b) W (by (try simp only at *); omega))
  have mx1 : -500000 ≤ (o.w - a) / 2 ∧ (o.w - a) / 2 ≤ 500000 := by (try simp only at *); omega
  have my1 : -500000 ≤ (o.h - b) / 2 ∧ (o.h - b) / 2 ≤ 500000 := by (try simp only at *); omega
  have mx2 : -1000000 ≤ midI o.x o.w a ∧ midI o.x o.w a ≤ 1000000 := by unfold midI; (try simp only at *); omega
  have my2 : -1000000 ≤ midI o.y o.h b ∧ midI o.y o.h b ≤ 1000000 := by unfold midI; (try simp only at *); omega
  have HS := Lib.hid (fun W => laid_c (midI o.x o.w a) (midI o.y o.h b) a b W mx2 my2)
  have eS : startR o v a b = keepRR (laidR (midI o.x o.w a) (midI o.y o.h b) a b) v := rfl
  generalize laidR (midI o.x o.w a) (midI o.y o.h b) a b = l at HS eS
  change Hid (∀ W, Calls _ _ #[.int .i64 (o.x + (o.w - a) / 2), .int .i64 (o.y + (o.h - b) / 2), _, _] W _) at HS
  have ws1 : IntKind.i64.wrap (o.w - a) = o.w - a := IntWalk.i64_in _ (by (try simp only at *); omega)
  have ws2 : IntKind.i64.wrap (o.h - b) = o.h - b := IntWalk.i64_in _ (by (try simp only at *); omega)
  generalize (o.w - a) / 2 = p at *
  generalize (o.h - b) / 2 = q at *
  have ws3 : IntKind.i64.wrap (o.x + p) = o.x + p := IntWalk.i64_in _ (by (try simp only at *); omega)
  have ws4 : IntKind.i64.wrap (o.y + q) = o.y + q := IntWalk.i64_in _ (by (try simp only at *); omega)
  have HK := Lib.hid (fun W => rkeep_c l.x l.y l.w l.h v.x v.y v.w v.h W)
  have eK : keepR l.x l.y l.w l.h v.x v.y v.w v.h = keepRR l v := rfl
  rw [eK, ← eS] at HK
  have HNF := Lib.hid (And.intro hN hF)
  obtain ⟨z, hz⟩ : ∃ z, z = startR o v a b := ⟨_, rfl⟩
  rw [← hz] at HK
  have HZ := Lib.hid hz
  clear hz eS eK hN hF bo bw mx1 my1 mx2 my2 a1 a2 b1 b2
  clear k1_0 k1_f0 k1_1 k1_f1 k1_2 k1_f2 k1_3 k1_f3 k2_0 k2_1 k2_2 k2_3 k2_4 k2_5 k2_6 k2_7 k2_8 k2_9 k2_10 k2_11
  obtain ⟨⟨c0_0, c0_1, c0_2, c0_3⟩, ⟨f0_0, f0_1, f0_2, f0_3⟩⟩ := (H4.get 0 rfl).c4
  obtain ⟨⟨c1_0, c1_1, c1_2, c1_3⟩, ⟨f1_0, f1_1, f1_2, f1_3⟩⟩ := (H4.get 1 rfl).c4
  go_upto_region 5 with fail
  have H5 := H4.alloc #[.int .i64 o.x, .int .i64 o.y, .int .i64 o.w, .int .i64 o.h] 23
  simp only [List.nil_append, List.cons_append] at H5
  obtain ⟨w5, hw5⟩ : ∃ wz, wz = w4.alloc (.cells #[.int .i64 o.x, .int .i64 o.y, .int .i64 o.w, .int .i64 o.h] 23) := ⟨_, rfl⟩
  rewrite [← hw5] at H5 ⊢
  obtain ⟨g5, hg5⟩ : ∃ gz, gz = w4.heap.size := ⟨_, rfl⟩
  rewrite [← hg5] at H5 ⊢
  have dg5_0 : w.heap.size ≠ g5 := by rw [hg5]; exact Nat.ne_of_lt (H4.get 0 rfl).lt
  have eg5_0 : g5 ≠ w.heap.size := dg5_0.symm
  have dg5_1 : w.heap.size + 1 ≠ g5 := by rw [hg5]; exact Nat.ne_of_lt (H4.get 1 rfl).lt
  have eg5_1 : g5 ≠ w.heap.size + 1 := dg5_1.symm
  have dg5_2 : w.heap.size + 1 + 1 ≠ g5 := by rw [hg5]; exact Nat.ne_of_lt (H4.get 2 rfl).lt
  have eg5_2 : g5 ≠ w.heap.size + 1 + 1 := dg5_2.symm
  have dg5_3 : w.heap.size + 1 + 1 + 1 ≠ g5 := by rw [hg5]; exact Nat.ne_of_lt (H4.get 3 rfl).lt
  have eg5_3 : g5 ≠ w.heap.size + 1 + 1 + 1 := dg5_3.symm
  clear hw5 hg5 H4 c0_0 c0_1 c0_2 c0_3 f0_0 f0_1 f0_2 f0_3 c1_0 c1_1 c1_2 c1_3 f1_0 f1_1 f1_2 f1_3
  obtain ⟨⟨c0_0, c0_1, c0_2, c0_3⟩, ⟨f0_0, f0_1, f0_2, f0_3⟩⟩ := (H5.get 0 rfl).c4
  obtain ⟨⟨c1_0, c1_1, c1_2, c1_3⟩, ⟨f1_0, f1_1, f1_2, f1_3⟩⟩ := (H5.get 1 rfl).c4
  obtain ⟨⟨c4_0, c4_1, c4_2, c4_3⟩, ⟨f4_0, f4_1, f4_2, f4_3⟩⟩ := (H5.get 4 rfl).c4
  go_wp2_with fail
  with_reducible refine (HO.out _).mono ?_
  rintro e w6 ⟨rfl, hb⟩
  have H6 := H5.next hb
  clear hb H5
  clear c0_0 c0_1 c0_2 c0_3 f0_0 f0_1 f0_2 f0_3 c1_0 c1_1 c1_2 c1_3 f1_0 f1_1 f1_2 f1_3 c4_0 c4_1 c4_2 c4_3 f4_0 f4_1 f4_2 f4_3
  obtain ⟨⟨c1_0, c1_1, c1_2, c1_3⟩, ⟨f1_0, f1_1, f1_2, f1_3⟩⟩ := (H6.get 1 rfl).c4
  obtain ⟨⟨c3_0, c3_1, c3_2, c3_3⟩, ⟨f3_0, f3_1, f3_2, f3_3⟩⟩ := (H6.get 3 rfl).c4
  obtain ⟨⟨c4_0, c4_1, c4_2, c4_3⟩, ⟨f4_0, f4_1, f4_2, f4_3⟩⟩ := (H6.get 4 rfl).c4
  go_upto_region 7 with fail
  clear c1_0 c1_1 c1_2 c1_3 f1_0 f1_1 f1_2 f1_3 c3_0 c3_1 c3_2 c3_3 f3_0 f3_1 f3_2 f3_3 c4_0 c4_1 c4_2 c4_3 f4_0 f4_1 f4_2 f4_3
  go_cut [14] (fun s14 wx => ∃ gl, s14 = .pointer (some ⟨gl, 0, none⟩) ∧ Bk w [(w.heap.size, 23, #[.int .i64 o.x, .int .i64 o.y, .int .i64 o.w, .int .i64 o.h]), (w.heap.size + 1, 23, #[.int .i64 v.x, .int .i64 v.y, .int .i64 v.w, .int .i64 v.h]), (w.heap.size + 1 + 1, 25, #[.int .i64 hh.minW, .int .i64 hh.minH, .int .i64 hh.maxW, .int .i64 hh.maxH, .int .i64 hh.baseW, .int .i64 hh.baseH, .int .i64 hh.incW, .int .i64 hh.incH, .int .i64 hh.lowX, .int .i64 hh.lowY, .int .i64 hh.highX, .int .i64 hh.highY]), (w.heap.size + 1 + 1 + 1, 23, #[.int .i64 0, .int .i64 0, .int .i64 0, .int .i64 0]), (g5, 23, #[.int .i64 o.x, .int .i64 o.y, .int .i64 o.w, .int .i64 o.h]), (gl, 23, #[.int .i64 l.x, .int .i64 l.y, .int .i64 l.w, .int .i64 l.h])] wx)
  case first =>
    obtain ⟨⟨k4_0, k4_1, k4_2, k4_3⟩, ⟨k4_f0, k4_f1, k4_f2, k4_f3⟩⟩ := (H6.get 4 rfl).c4
    refine wp_region_noPanic ?_
    refine wp_region_held_drew (S := fun wx => wx.cell? ⟨g5, 0, none⟩ = some (.int .i64 o.x) ∧ wx.cell? ⟨g5, 1, none⟩ = some (.int .i64 o.y) ∧ wx.cell? ⟨g5, 2, none⟩ = some (.int .i64 o.w) ∧ wx.cell? ⟨g5, 3, none⟩ = some (.int .i64 o.h)) (by kernel_rfl) (by exact ⟨k4_0, k4_1, k4_2, k4_3⟩) (fun hHeld => ?_)
    obtain ⟨wd, hwd⟩ : ∃ wd, wd = w6.drew := ⟨_, rfl⟩
    have HD := H6.drew
    rewrite [← hwd] at HD hHeld ⊢
    clear hwd k4_0 k4_f0 k4_1 k4_f1 k4_2 k4_f2 k4_3 k4_f3
    obtain ⟨⟨k4_0, k4_1, k4_2, k4_3⟩, ⟨k4_f0, k4_f1, k4_f2, k4_f3⟩⟩ := (HD.get 4 rfl).c4
    refine wpAnyH_take (i := 0) (v := ?vz1x0) rfl (by kernel_rfl) (by kernel_rfl) (by kernel_rfl) (fun _ _ _ h => h) (Or.inl ⟨by kernel_rfl, ?yz1x0⟩) (by assumption) ?rz1x0
    case yz1x0 => (intro wq hSw; (try dsimp only at hSw); go_simp; (try with_reducible rfl))
    (try simp only [Act.put, List.getElem_toArray, List.getElem_cons_zero, List.setIfInBounds_toArray, List.set_cons_zero, List.set_cons_succ])
    refine wpAnyH_take (i := 1) (v := ?vz1x1) rfl (by kernel_rfl) (by kernel_rfl) (by kernel_rfl) (fun _ _ _ h => h) (Or.inl ⟨by kernel_rfl, ?yz1x1⟩) (by assumption) ?rz1x1
    case yz1x1 => (intro wq hSw; (try dsimp only at hSw); go_simp; (try with_reducible rfl))
    (try simp only [Act.put, List.getElem_toArray, List.getElem_cons_succ, List.getElem_cons_zero, List.setIfInBounds_toArray, List.set_cons_zero, List.set_cons_succ])
    refine wpAnyH_take (i := 2) (v := ?vz1x2) rfl (by kernel_rfl) (by kernel_rfl) (by kernel_rfl) (fun _ _ _ h => h) (Or.inl ⟨by kernel_rfl, ?yz1x2⟩) (by assumption) ?rz1x2
    case yz1x2 => (intro wq hSw; (try dsimp only at hSw); go_simp; (try with_reducible rfl))
    (try simp only [Act.put, List.getElem_toArray, List.getElem_cons_succ, List.getElem_cons_zero, List.setIfInBounds_toArray, List.set_cons_zero, List.set_cons_succ])
    refine wpAnyH_take (i := 3) (v := ?vz1x3) rfl (by kernel_rfl) (by kernel_rfl) (by kernel_rfl) (fun _ _ _ h => h) (Or.inl ⟨by kernel_rfl, ?yz1x3⟩) (by assumption) ?rz1x3
    case yz1x3 => (intro wq hSw; (try dsimp only at hSw); go_simp; (try with_reducible rfl))
    (try simp only [Act.put, List.getElem_toArray, List.getElem_cons_succ, List.getElem_cons_zero, List.setIfInBounds_toArray, List.set_cons_zero, List.set_cons_succ])
    refine wpAnyH_take (i := 4) (v := ?vz1x4) rfl (by kernel_rfl) (by kernel_rfl) (by kernel_rfl) (fun _ _ _ h => h) (Or.inl ⟨by kernel_rfl, ?yz1x4⟩) (by assumption) ?rz1x4
    case yz1x4 => (intro wq hSw; (try dsimp only at hSw); go_simp; (try with_reducible rfl))
    (try simp only [Act.put, List.getElem_toArray, List.getElem_cons_succ, List.getElem_cons_zero, List.setIfInBounds_toArray, List.set_cons_zero, List.set_cons_succ])
    refine wpAnyH_take (i := 5) (v := ?vz1x5) rfl (by kernel_rfl) (by kernel_rfl) (by kernel_rfl) (fun _ _ _ h => h) (Or.inl ⟨by kernel_rfl, ?yz1x5⟩) (by assumption) ?rz1x5
    case yz1x5 => (intro wq hSw; (try dsimp only at hSw); go_simp; (try with_reducible rfl))
    (try simp only [Act.put, List.getElem_toArray, List.getElem_cons_succ, List.getElem_cons_zero, List.setIfInBounds_toArray, List.set_cons_zero, List.set_cons_succ])
    refine wpAnyH_take (i := 8) (v := ?vz1x8) rfl (by kernel_rfl) (by kernel_rfl) (by kernel_rfl) (fun _ _ _ h => h) (Or.inl ⟨by kernel_rfl, ?yz1x8⟩) (by assumption) ?rz1x8
    case yz1x8 => (intro wq hSw; (try dsimp only at hSw); go_simp; (try with_reducible rfl))
    (try simp only [Act.put, List.getElem_toArray, List.getElem_cons_succ, List.getElem_cons_zero, List.setIfInBounds_toArray, List.set_cons_zero, List.set_cons_succ])
    refine wpAnyH_take (i := 9) (v := ?vz1x9) rfl (by kernel_rfl) (by kernel_rfl) (by kernel_rfl) (fun _ _ _ h => h) (Or.inl ⟨by kernel_rfl, ?yz1x9⟩) (by assumption) ?rz1x9
    case yz1x9 => (intro wq hSw; (try dsimp only at hSw); go_simp; (try with_reducible rfl))
    (try simp only [Act.put, List.getElem_toArray, List.getElem_cons_succ, List.getElem_cons_zero, List.setIfInBounds_toArray, List.set_cons_zero, List.set_cons_succ])
    refine wpAnyH_take (i := 10) (v := ?vz1x10) rfl (by kernel_rfl) (by kernel_rfl) (by kernel_rfl) (fun _ _ _ h => h) (Or.inl ⟨by kernel_rfl, ?yz1x10⟩) (by assumption) ?rz1x10
    case yz1x10 => (intro wq hSw; (try dsimp only at hSw); go_simp; (try with_reducible rfl))
    (try simp only [Act.put, List.getElem_toArray, List.getElem_cons_succ, List.getElem_cons_zero, List.setIfInBounds_toArray, List.set_cons_zero, List.set_cons_succ])
    refine wpAnyH_take (i := 11) (v := ?vz1x11) rfl (by kernel_rfl) (by kernel_rfl) (by kernel_rfl) (fun _ _ _ h => h) (Or.inl ⟨by kernel_rfl, ?yz1x11⟩) (by assumption) ?rz1x11
    case yz1x11 => (intro wq hSw; (try dsimp only at hSw); go_simp; (try with_reducible rfl))
    (try simp only [Act.put, List.getElem_toArray, List.getElem_cons_succ, List.getElem_cons_zero, List.setIfInBounds_toArray, List.set_cons_zero, List.set_cons_succ])
    refine wpAnyH_take (i := 12) (v := ?vz1x12) rfl (by kernel_rfl) (by kernel_rfl) (by kernel_rfl) (fun _ _ _ h => h) (Or.inl ⟨by kernel_rfl, ?yz1x12⟩) (by assumption) ?rz1x12
    case yz1x12 => (intro wq hSw; (try dsimp only at hSw); go_simp; (try with_reducible rfl))
    (try simp only [Act.put, List.getElem_toArray, List.getElem_cons_succ, List.getElem_cons_zero, List.setIfInBounds_toArray, List.set_cons_zero, List.set_cons_succ])
    refine wpAnyH_take (i := 13) (v := ?vz1x13) rfl (by kernel_rfl) (by kernel_rfl) (by kernel_rfl) (fun _ _ _ h => h) (Or.inl ⟨by kernel_rfl, ?yz1x13⟩) (by assumption) ?rz1x13
    case yz1x13 => (intro wq hSw; (try dsimp only at hSw); go_simp; (try with_reducible rfl))
    (try simp only [Act.put, List.getElem_toArray, List.getElem_cons_succ, List.getElem_cons_zero, List.setIfInBounds_toArray, List.set_cons_zero, List.set_cons_succ])
    refine wpAnyH_take (i := 16) (v := ?vz1x16) rfl (by kernel_rfl) (by kernel_rfl) (by kernel_rfl) (fun _ _ _ h => h) (Or.inl ⟨by kernel_rfl, ?yz1x16⟩) (by assumption) ?rz1x16
    case yz1x16 => (intro wq hSw; (try dsimp only at hSw); go_simp; (try with_reducible rfl))
    (try simp only [Act.put, List.getElem_toArray, List.getElem_cons_succ, List.getElem_cons_zero, List.setIfInBounds_toArray, List.set_cons_zero, List.set_cons_succ])
    refine wpAnyH_take (i := 17) (v := ?vz1x17) rfl (by kernel_rfl) (by kernel_rfl) (by kernel_rfl) (fun _ _ _ h => h) (Or.inl ⟨by kernel_rfl, ?yz1x17⟩) (by assumption) ?rz1x17
    case yz1x17 => (intro wq hSw; (try dsimp only at hSw); go_simp; (try with_reducible rfl))
    (try simp only [Act.put, List.getElem_toArray, List.getElem_cons_succ, List.getElem_cons_zero, List.setIfInBounds_toArray, List.set_cons_zero, List.set_cons_succ])
    refine wpAnyH_ready (rs := [6, 19]) (by kernel_rfl) (by simp) ?_
    refine AllReadyH.cons rfl (fun K hK => ?_) (AllReadyH.cons rfl (fun K hK => ?_) AllReadyH.nil)
    · go_simp
      refine (HX.out _).mono ?_
      rintro e wn2 ⟨rfl, rfl⟩
      have HN2 := HD
      clear k4_0 k4_f0 k4_1 k4_f1 k4_2 k4_f2 k4_3 k4_f3
      obtain ⟨⟨k4_0, k4_1, k4_2, k4_3⟩, ⟨k4_f0, k4_f1, k4_f2, k4_f3⟩⟩ := (HN2.get 4 rfl).c4
      (try dsimp only)
      refine hK.out _ _ (by exact ⟨k4_0, k4_1, k4_2, k4_3⟩) (fun hHeld => ?_)
      clear hK K
      (try simp only [Act.put, List.getElem_toArray, List.getElem_cons_succ, List.getElem_cons_zero, List.setIfInBounds_toArray, List.set_cons_zero, List.set_cons_succ])
      refine wpAnyH_take (i := 7) (v := ?vz3x7) rfl (by kernel_rfl) (by kernel_rfl) (by kernel_rfl) (fun _ _ _ h => h) (Or.inl ⟨by kernel_rfl, ?yz3x7⟩) (by assumption) ?rz3x7
      case yz3x7 => (intro wq hSw; (try dsimp only at hSw); go_simp; (try with_reducible rfl))
      (try simp only [Act.put, List.getElem_toArray, List.getElem_cons_succ, List.getElem_cons_zero, List.setIfInBounds_toArray, List.set_cons_zero, List.set_cons_succ])
      refine wpAnyH_ready (rs := [14, 19]) (by kernel_rfl) (by simp) ?_
      refine AllReadyH.cons rfl (fun K hK => ?_) (AllReadyH.cons rfl (fun K hK => ?_) AllReadyH.nil)
      · go_simp
        refine (HY.out _).mono ?_
        rintro e wn4 ⟨rfl, rfl⟩
        have HN4 := HN2
        clear k4_0 k4_f0 k4_1 k4_f1 k4_2 k4_f2 k4_3 k4_f3
        obtain ⟨⟨k4_0, k4_1, k4_2, k4_3⟩, ⟨k4_f0, k4_f1, k4_f2, k4_f3⟩⟩ := (HN4.get 4 rfl).c4
        (try dsimp only)
        refine hK.out _ _ (by exact ⟨k4_0, k4_1, k4_2, k4_3⟩) (fun hHeld => ?_)
        clear hK K
        (try simp only [Act.put, List.getElem_toArray, List.getElem_cons_succ, List.getElem_cons_zero, List.setIfInBounds_toArray, List.set_cons_zero, List.set_cons_succ])
        refine wpAnyH_take (i := 15) (v := ?vz5x15) rfl (by kernel_rfl) (by kernel_rfl) (by kernel_rfl) (fun _ _ _ h => h) (Or.inl ⟨by kernel_rfl, ?yz5x15⟩) (by assumption) ?rz5x15
        case yz5x15 => (intro wq hSw; (try dsimp only at hSw); go_simp; (try with_reducible rfl))
        (try simp only [Act.put, List.getElem_toArray, List.getElem_cons_succ, List.getElem_cons_zero, List.setIfInBounds_toArray, List.set_cons_zero, List.set_cons_succ])
        refine wpAnyH_ready (rs := [18, 19]) (by kernel_rfl) (by simp) ?_
        refine AllReadyH.cons rfl (fun K hK => ?_) (AllReadyH.cons rfl (fun K hK => ?_) AllReadyH.nil)
        · go_simp
          refine (HS.out _).mono ?_
          rintro e wn6 ⟨rfl, hb⟩
          have HN6 := HN4.next hb
          clear hb
          clear k4_0 k4_f0 k4_1 k4_f1 k4_2 k4_f2 k4_3 k4_f3
          obtain ⟨⟨k4_0, k4_1, k4_2, k4_3⟩, ⟨k4_f0, k4_f1, k4_f2, k4_f3⟩⟩ := (HN6.get 4 rfl).c4
          (try dsimp only)
          refine hK.out _ _ (by exact ⟨k4_0, k4_1, k4_2, k4_3⟩) (fun hHeld => ?_)
          clear hK K
          (try simp only [Act.put, List.getElem_toArray, List.getElem_cons_succ, List.getElem_cons_zero, List.setIfInBounds_toArray, List.set_cons_zero, List.set_cons_succ])
          refine wpAnyH_ready (rs := [19]) (by kernel_rfl) (by simp) ?_
          refine AllReadyH.cons rfl (fun K hK => ?_) AllReadyH.nil
          go_simp
          have HN8 := HN6.alloc #[.int .i64 0, .int .i64 0, .int .i64 0, .int .i64 0] 23
          simp only [List.nil_append, List.cons_append] at HN8
          obtain ⟨wn8, hwn⟩ : ∃ wz, wz = wn6.alloc (.cells #[.int .i64 0, .int .i64 0, .int .i64 0, .int .i64 0] 23) := ⟨_, rfl⟩
          rewrite [← hwn] at HN8 ⊢
          obtain ⟨gn8, hgn⟩ : ∃ gz, gz = wn6.heap.size := ⟨_, rfl⟩
          rewrite [← hgn] at HN8 ⊢
          have dgn8_0 : w.heap.size ≠ gn8 := by rw [hgn]; exact Nat.ne_of_lt (HN6.get 0 rfl).lt
          have egn8_0 : gn8 ≠ w.heap.size := dgn8_0.symm
          have dgn8_1 : w.heap.size + 1 ≠ gn8 := by rw [hgn]; exact Nat.ne_of_lt (HN6.get 1 rfl).lt
          have egn8_1 : gn8 ≠ w.heap.size + 1 := dgn8_1.symm
          have dgn8_2 : w.heap.size + 1 + 1 ≠ gn8 := by rw [hgn]; exact Nat.ne_of_lt (HN6.get 2 rfl).lt
          have egn8_2 : gn8 ≠ w.heap.size + 1 + 1 := dgn8_2.symm
          have dgn8_3 : w.heap.size + 1 + 1 + 1 ≠ gn8 := by rw [hgn]; exact Nat.ne_of_lt (HN6.get 3 rfl).lt
          have egn8_3 : gn8 ≠ w.heap.size + 1 + 1 + 1 := dgn8_3.symm
          have dgn8_4 : g5 ≠ gn8 := by rw [hgn]; exact Nat.ne_of_lt (HN6.get 4 rfl).lt
          have egn8_4 : gn8 ≠ g5 := dgn8_4.symm
          clear hwn hgn k4_0 k4_f0 k4_1 k4_f1 k4_2 k4_f2 k4_3 k4_f3
          obtain ⟨⟨k4_0, k4_1, k4_2, k4_3⟩, ⟨k4_f0, k4_f1, k4_f2, k4_f3⟩⟩ := (HN8.get 4 rfl).c4
          refine hK.out _ _ (by exact ⟨k4_0, k4_1, k4_2, k4_3⟩) (fun hHeld => ?_)
          clear hK K
          (try simp only [Act.put, List.getElem_toArray, List.getElem_cons_succ, List.getElem_cons_zero, List.setIfInBounds_toArray, List.set_cons_zero, List.set_cons_succ])
          have HX := HN8.put4 5 rfl (.int .i64 l.x) (.int .i64 l.y) (.int .i64 l.w) (.int .i64 l.h)
          obtain ⟨⟨n0, n1, n2, n3⟩, m0, m1, m2, m3⟩ := (HN8.get 5 rfl).c4
          refine wpAnyH_ready (rs := [20]) (by kernel_rfl) (by simp) ?_
          refine AllReadyH.cons rfl (fun K hK => ?_) AllReadyH.nil
          go_simp
          clear k4_0 k4_f0 k4_1 k4_f1 k4_2 k4_f2 k4_3 k4_f3
          obtain ⟨⟨k4_0, k4_1, k4_2, k4_3⟩, ⟨k4_f0, k4_f1, k4_f2, k4_f3⟩⟩ := (HX.get 4 rfl).c4
          refine hK.out _ _ (by exact ⟨k4_0, k4_1, k4_2, k4_3⟩) (fun hHeld => ?_)
          clear hK K
          (try simp only [Act.put, List.getElem_toArray, List.getElem_cons_succ, List.getElem_cons_zero, List.setIfInBounds_toArray, List.set_cons_zero, List.set_cons_succ])
          refine wpAnyH_done (by kernel_rfl) ?_ _
          refine NoPanic.normal ?_
          clear hHeld n0 n1 n2 n3 m0 m1 m2 m3 k4_0 k4_f0 k4_1 k4_f1 k4_2 k4_f2 k4_3 k4_f3
          go_wp2_with fail
          go_meet
          exact ⟨_, rfl, HX.same rfl⟩
        · go_simp
          have HN10 := HN4.alloc #[.int .i64 0, .int .i64 0, .int .i64 0, .int .i64 0] 23
          simp only [List.nil_append, List.cons_append] at HN10
          obtain ⟨wn10, hwn⟩ : ∃ wz, wz = wd.alloc (.cells #[.int .i64 0, .int .i64 0, .int .i64 0, .int .i64 0] 23) := ⟨_, rfl⟩
          rewrite [← hwn] at HN10 ⊢
          obtain ⟨gn10, hgn⟩ : ∃ gz, gz = wd.heap.size := ⟨_, rfl⟩
          rewrite [← hgn] at HN10 ⊢
          have dgn10_0 : w.heap.size ≠ gn10 := by rw [hgn]; exact Nat.ne_of_lt (HN4.get 0 rfl).lt
          have egn10_0 : gn10 ≠ w.heap.size := dgn10_0.symm
          have dgn10_1 : w.heap.size + 1 ≠ gn10 := by rw [hgn]; exact Nat.ne_of_lt (HN4.get 1 rfl).lt
          have egn10_1 : gn10 ≠ w.heap.size + 1 := dgn10_1.symm
          have dgn10_2 : w.heap.size + 1 + 1 ≠ gn10 := by rw [hgn]; exact Nat.ne_of_lt (HN4.get 2 rfl).lt
          have egn10_2 : gn10 ≠ w.heap.size + 1 + 1 := dgn10_2.symm
          have dgn10_3 : w.heap.size + 1 + 1 + 1 ≠ gn10 := by rw [hgn]; exact Nat.ne_of_lt (HN4.get 3 rfl).lt
          have egn10_3 : gn10 ≠ w.heap.size + 1 + 1 + 1 := dgn10_3.symm
          have dgn10_4 : g5 ≠ gn10 := by rw [hgn]; exact Nat.ne_of_lt (HN4.get 4 rfl).lt
          have egn10_4 : gn10 ≠ g5 := dgn10_4.symm
          clear hwn hgn k4_0 k4_f0 k4_1 k4_f1 k4_2 k4_f2 k4_3 k4_f3
          obtain ⟨⟨k4_0, k4_1, k4_2, k4_3⟩, ⟨k4_f0, k4_f1, k4_f2, k4_f3⟩⟩ := (HN10.get 4 rfl).c4
          refine hK.out _ _ (by exact ⟨k4_0, k4_1, k4_2, k4_3⟩) (fun hHeld => ?_)
          clear hK K
          (try simp only [Act.put, List.getElem_toArray, List.getElem_cons_succ, List.getElem_cons_zero, List.setIfInBounds_toArray, List.set_cons_zero, List.set_cons_succ])
          refine wpAnyH_ready (rs := [18]) (by kernel_rfl) (by simp) ?_
          refine AllReadyH.cons rfl (fun K hK => ?_) AllReadyH.nil
          go_simp
          refine (HS.out _).mono ?_
          rintro e wn12 ⟨rfl, hb⟩
          have HN12 := HN10.next hb
          clear hb
          clear k4_0 k4_f0 k4_1 k4_f1 k4_2 k4_f2 k4_3 k4_f3
          obtain ⟨⟨k4_0, k4_1, k4_2, k4_3⟩, ⟨k4_f0, k4_f1, k4_f2, k4_f3⟩⟩ := (HN12.get 4 rfl).c4
          (try dsimp only)
          refine hK.out _ _ (by exact ⟨k4_0, k4_1, k4_2, k4_3⟩) (fun hHeld => ?_)
          clear hK K
          (try simp only [Act.put, List.getElem_toArray, List.getElem_cons_succ, List.getElem_cons_zero, List.setIfInBounds_toArray, List.set_cons_zero, List.set_cons_succ])
          have HX := HN12.put4 5 rfl (.int .i64 l.x) (.int .i64 l.y) (.int .i64 l.w) (.int .i64 l.h)
          obtain ⟨⟨n0, n1, n2, n3⟩, m0, m1, m2, m3⟩ := (HN12.get 5 rfl).c4
          refine wpAnyH_ready (rs := [20]) (by kernel_rfl) (by simp) ?_
          refine AllReadyH.cons rfl (fun K hK => ?_) AllReadyH.nil
          go_simp
          clear k4_0 k4_f0 k4_1 k4_f1 k4_2 k4_f2 k4_3 k4_f3
          obtain ⟨⟨k4_0, k4_1, k4_2, k4_3⟩, ⟨k4_f0, k4_f1, k4_f2, k4_f3⟩⟩ := (HX.get 4 rfl).c4
          refine hK.out _ _ (by exact ⟨k4_0, k4_1, k4_2, k4_3⟩) (fun hHeld => ?_)
          clear hK K
          (try simp only [Act.put, List.getElem_toArray, List.getElem_cons_succ, List.getElem_cons_zero, List.setIfInBounds_toArray, List.set_cons_zero, List.set_cons_succ])
          refine wpAnyH_done (by kernel_rfl) ?_ _
          refine NoPanic.normal ?_
          clear hHeld n0 n1 n2 n3 m0 m1 m2 m3 k4_0 k4_f0 k4_1 k4_f1 k4_2 k4_f2 k4_3 k4_f3
          go_wp2_with fail
          go_meet
          exact ⟨_, rfl, HX.same rfl⟩
      · go_simp
        have HN14 := HN2.alloc #[.int .i64 0, .int .i64 0, .int .i64 0, .int .i64 0] 23
        simp only [List.nil_append, List.cons_append] at HN14
        obtain ⟨wn14, hwn⟩ : ∃ wz, wz = wd.alloc (.cells #[.int .i64 0, .int .i64 0, .int .i64 0, .int .i64 0] 23) := ⟨_, rfl⟩
        rewrite [← hwn] at HN14 ⊢
        obtain ⟨gn14, hgn⟩ : ∃ gz, gz = wd.heap.size := ⟨_, rfl⟩
        rewrite [← hgn] at HN14 ⊢
        have dgn14_0 : w.heap.size ≠ gn14 := by rw [hgn]; exact Nat.ne_of_lt (HN2.get 0 rfl).lt
        have egn14_0 : gn14 ≠ w.heap.size := dgn14_0.symm
        have dgn14_1 : w.heap.size + 1 ≠ gn14 := by rw [hgn]; exact Nat.ne_of_lt (HN2.get 1 rfl).lt
        have egn14_1 : gn14 ≠ w.heap.size + 1 := dgn14_1.symm
        have dgn14_2 : w.heap.size + 1 + 1 ≠ gn14 := by rw [hgn]; exact Nat.ne_of_lt (HN2.get 2 rfl).lt
        have egn14_2 : gn14 ≠ w.heap.size + 1 + 1 := dgn14_2.symm
        have dgn14_3 : w.heap.size + 1 + 1 + 1 ≠ gn14 := by rw [hgn]; exact Nat.ne_of_lt (HN2.get 3 rfl).lt
        have egn14_3 : gn14 ≠ w.heap.size + 1 + 1 + 1 := dgn14_3.symm
        have dgn14_4 : g5 ≠ gn14 := by rw [hgn]; exact Nat.ne_of_lt (HN2.get 4 rfl).lt
        have egn14_4 : gn14 ≠ g5 := dgn14_4.symm
        clear hwn hgn k4_0 k4_f0 k4_1 k4_f1 k4_2 k4_f2 k4_3 k4_f3
        obtain ⟨⟨k4_0, k4_1, k4_2, k4_3⟩, ⟨k4_f0, k4_f1, k4_f2, k4_f3⟩⟩ := (HN14.get 4 rfl).c4
        refine hK.out _ _ (by exact ⟨k4_0, k4_1, k4_2, k4_3⟩) (fun hHeld => ?_)
        clear hK K
        (try simp only [Act.put, List.getElem_toArray, List.getElem_cons_succ, List.getElem_cons_zero, List.setIfInBounds_toArray, List.set_cons_zero, List.set_cons_succ])
        refine wpAnyH_ready (rs := [14]) (by kernel_rfl) (by simp) ?_
        refine AllReadyH.cons rfl (fun K hK => ?_) AllReadyH.nil
        go_simp
        refine (HY.out _).mono ?_
        rintro e wn16 ⟨rfl, rfl⟩
        have HN16 := HN14
        clear k4_0 k4_f0 k4_1 k4_f1 k4_2 k4_f2 k4_3 k4_f3
        obtain ⟨⟨k4_0, k4_1, k4_2, k4_3⟩, ⟨k4_f0, k4_f1, k4_f2, k4_f3⟩⟩ := (HN16.get 4 rfl).c4
        (try dsimp only)
        refine hK.out _ _ (by exact ⟨k4_0, k4_1, k4_2, k4_3⟩) (fun hHeld => ?_)
        clear hK K
        (try simp only [Act.put, List.getElem_toArray, List.getElem_cons_succ, List.getElem_cons_zero, List.setIfInBounds_toArray, List.set_cons_zero, List.set_cons_succ])
        refine wpAnyH_take (i := 15) (v := ?vz17x15) rfl (by kernel_rfl) (by kernel_rfl) (by kernel_rfl) (fun _ _ _ h => h) (Or.inl ⟨by kernel_rfl, ?yz17x15⟩) (by assumption) ?rz17x15
        case yz17x15 => (intro wq hSw; (try dsimp only at hSw); go_simp; (try with_reducible rfl))
        (try simp only [Act.put, List.getElem_toArray, List.getElem_cons_succ, List.getElem_cons_zero, List.setIfInBounds_toArray, List.set_cons_zero, List.set_cons_succ])
        refine wpAnyH_ready (rs := [18]) (by kernel_rfl) (by simp) ?_
        refine AllReadyH.cons rfl (fun K hK => ?_) AllReadyH.nil
        go_simp
        refine (HS.out _).mono ?_
        rintro e wn18 ⟨rfl, hb⟩
        have HN18 := HN16.next hb
        clear hb
        clear k4_0 k4_f0 k4_1 k4_f1 k4_2 k4_f2 k4_3 k4_f3
        obtain ⟨⟨k4_0, k4_1, k4_2, k4_3⟩, ⟨k4_f0, k4_f1, k4_f2, k4_f3⟩⟩ := (HN18.get 4 rfl).c4
        (try dsimp only)
        refine hK.out _ _ (by exact ⟨k4_0, k4_1, k4_2, k4_3⟩) (fun hHeld => ?_)
        clear hK K
        (try simp only [Act.put, List.getElem_toArray, List.getElem_cons_succ, List.getElem_cons_zero, List.setIfInBounds_toArray, List.set_cons_zero, List.set_cons_succ])
        have HX := HN18.put4 5 rfl (.int .i64 l.x) (.int .i64 l.y) (.int .i64 l.w) (.int .i64 l.h)
        obtain ⟨⟨n0, n1, n2, n3⟩, m0, m1, m2, m3⟩ := (HN18.get 5 rfl).c4
        refine wpAnyH_ready (rs := [20]) (by kernel_rfl) (by simp) ?_
        refine AllReadyH.cons rfl (fun K hK => ?_) AllReadyH.nil
        go_simp
        clear k4_0 k4_f0 k4_1 k4_f1 k4_2 k4_f2 k4_3 k4_f3
        obtain ⟨⟨k4_0, k4_1, k4_2, k4_3⟩, ⟨k4_f0, k4_f1, k4_f2, k4_f3⟩⟩ := (HX.get 4 rfl).c4
        refine hK.out _ _ (by exact ⟨k4_0, k4_1, k4_2, k4_3⟩) (fun hHeld => ?_)
        clear hK K
        (try simp only [Act.put, List.getElem_toArray, List.getElem_cons_succ, List.getElem_cons_zero, List.setIfInBounds_toArray, List.set_cons_zero, List.set_cons_succ])
        refine wpAnyH_done (by kernel_rfl) ?_ _
        refine NoPanic.normal ?_
        clear hHeld n0 n1 n2 n3 m0 m1 m2 m3 k4_0 k4_f0 k4_1 k4_f1 k4_2 k4_f2 k4_3 k4_f3
        go_wp2_with fail
        go_meet
        exact ⟨_, rfl, HX.same rfl⟩
    · go_simp
      have HN20 := HD.alloc #[.int .i64 0, .int .i64 0, .int .i64 0, .int .i64 0] 23
      simp only [List.nil_append, List.cons_append] at HN20
      obtain ⟨wn20, hwn⟩ : ∃ wz, wz = wd.alloc (.cells #[.int .i64 0, .int .i64 0, .int .i64 0, .int .i64 0] 23) := ⟨_, rfl⟩
      rewrite [← hwn] at HN20 ⊢
      obtain ⟨gn20, hgn⟩ : ∃ gz, gz = wd.heap.size := ⟨_, rfl⟩
      rewrite [← hgn] at HN20 ⊢
      have dgn20_0 : w.heap.size ≠ gn20 := by rw [hgn]; exact Nat.ne_of_lt (HD.get 0 rfl).lt
      have egn20_0 : gn20 ≠ w.heap.size := dgn20_0.symm
      have dgn20_1 : w.heap.size + 1 ≠ gn20 := by rw [hgn]; exact Nat.ne_of_lt (HD.get 1 rfl).lt
      have egn20_1 : gn20 ≠ w.heap.size + 1 := dgn20_1.symm
      have dgn20_2 : w.heap.size + 1 + 1 ≠ gn20 := by rw [hgn]; exact Nat.ne_of_lt (HD.get 2 rfl).lt
      have egn20_2 : gn20 ≠ w.heap.size + 1 + 1 := dgn20_2.symm
      have dgn20_3 : w.heap.size + 1 + 1 + 1 ≠ gn20 := by rw [hgn]; exact Nat.ne_of_lt (HD.get 3 rfl).lt
      have egn20_3 : gn20 ≠ w.heap.size + 1 + 1 + 1 := dgn20_3.symm
      have dgn20_4 : g5 ≠ gn20 := by rw [hgn]; exact Nat.ne_of_lt (HD.get 4 rfl).lt
      have egn20_4 : gn20 ≠ g5 := dgn20_4.symm
      clear hwn hgn k4_0 k4_f0 k4_1 k4_f1 k4_2 k4_f2 k4_3 k4_f3
      obtain ⟨⟨k4_0, k4_1, k4_2, k4_3⟩, ⟨k4_f0, k4_f1, k4_f2, k4_f3⟩⟩ := (HN20.get 4 rfl).c4
      refine hK.out _ _ (by exact ⟨k4_0, k4_1, k4_2, k4_3⟩) (fun hHeld => ?_)
      clear hK K
      (try simp only [Act.put, List.getElem_toArray, List.getElem_cons_succ, List.getElem_cons_zero, List.setIfInBounds_toArray, List.set_cons_zero, List.set_cons_succ])
      refine wpAnyH_ready (rs := [6]) (by kernel_rfl) (by simp) ?_
      refine AllReadyH.cons rfl (fun K hK => ?_) AllReadyH.nil
      go_simp
      refine (HX.out _).mono ?_
      rintro e wn22 ⟨rfl, rfl⟩
      have HN22 := HN20
      clear k4_0 k4_f0 k4_1 k4_f1 k4_2 k4_f2 k4_3 k4_f3
      obtain ⟨⟨k4_0, k4_1, k4_2, k4_3⟩, ⟨k4_f0, k4_f1, k4_f2, k4_f3⟩⟩ := (HN22.get 4 rfl).c4
      (try dsimp only)
      refine hK.out _ _ (by exact ⟨k4_0, k4_1, k4_2, k4_3⟩) (fun hHeld => ?_)
      clear hK K
      (try simp only [Act.put, List.getElem_toArray, List.getElem_cons_succ, List.getElem_cons_zero, List.setIfInBounds_toArray, List.set_cons_zero, List.set_cons_succ])
      refine wpAnyH_take (i := 7) (v := ?vz23x7) rfl (by kernel_rfl) (by kernel_rfl) (by kernel_rfl) (fun _ _ _ h => h) (Or.inl ⟨by kernel_rfl, ?yz23x7⟩) (by assumption) ?rz23x7
      case yz23x7 => (intro wq hSw; (try dsimp only at hSw); go_simp; (try with_reducible rfl))
      (try simp only [Act.put, List.getElem_toArray, List.getElem_cons_succ, List.getElem_cons_zero, List.setIfInBounds_toArray, List.set_cons_zero, List.set_cons_succ])
      refine wpAnyH_ready (rs := [14]) (by kernel_rfl) (by simp) ?_
      refine AllReadyH.cons rfl (fun K hK => ?_) AllReadyH.nil
      go_simp
      refine (HY.out _).mono ?_
      rintro e wn24 ⟨rfl, rfl⟩
      have HN24 := HN22
      clear k4_0 k4_f0 k4_1 k4_f1 k4_2 k4_f2 k4_3 k4_f3
      obtain ⟨⟨k4_0, k4_1, k4_2, k4_3⟩, ⟨k4_f0, k4_f1, k4_f2, k4_f3⟩⟩ := (HN24.get 4 rfl).c4
      (try dsimp only)
      refine hK.out _ _ (by exact ⟨k4_0, k4_1, k4_2, k4_3⟩) (fun hHeld => ?_)
      clear hK K
      (try simp only [Act.put, List.getElem_toArray, List.getElem_cons_succ, List.getElem_cons_zero, List.setIfInBounds_toArray, List.set_cons_zero, List.set_cons_succ])
      refine wpAnyH_take (i := 15) (v := ?vz25x15) rfl (by kernel_rfl) (by kernel_rfl) (by kernel_rfl) (fun _ _ _ h => h) (Or.inl ⟨by kernel_rfl, ?yz25x15⟩) (by assumption) ?rz25x15
      case yz25x15 => (intro wq hSw; (try dsimp only at hSw); go_simp; (try with_reducible rfl))
      (try simp only [Act.put, List.getElem_toArray, List.getElem_cons_succ, List.getElem_cons_zero, List.setIfInBounds_toArray, List.set_cons_zero, List.set_cons_succ])
      refine wpAnyH_ready (rs := [18]) (by kernel_rfl) (by simp) ?_
      refine AllReadyH.cons rfl (fun K hK => ?_) AllReadyH.nil
      go_simp
      refine (HS.out _).mono ?_
      rintro e wn26 ⟨rfl, hb⟩
      have HN26 := HN24.next hb
      clear hb
      clear k4_0 k4_f0 k4_1 k4_f1 k4_2 k4_f2 k4_3 k4_f3
      obtain ⟨⟨k4_0, k4_1, k4_2, k4_3⟩, ⟨k4_f0, k4_f1, k4_f2, k4_f3⟩⟩ := (HN26.get 4 rfl).c4
      (try dsimp only)
      refine hK.out _ _ (by exact ⟨k4_0, k4_1, k4_2, k4_3⟩) (fun hHeld => ?_)
      clear hK K
      (try simp only [Act.put, List.getElem_toArray, List.getElem_cons_succ, List.getElem_cons_zero, List.setIfInBounds_toArray, List.set_cons_zero, List.set_cons_succ])
      have HX := HN26.put4 5 rfl (.int .i64 l.x) (.int .i64 l.y) (.int .i64 l.w) (.int .i64 l.h)
      obtain ⟨⟨n0, n1, n2, n3⟩, m0, m1, m2, m3⟩ := (HN26.get 5 rfl).c4
      refine wpAnyH_ready (rs := [20]) (by kernel_rfl) (by simp) ?_
      refine AllReadyH.cons rfl (fun K hK => ?_) AllReadyH.nil
      go_simp
      clear k4_0 k4_f0 k4_1 k4_f1 k4_2 k4_f2 k4_3 k4_f3
      obtain ⟨⟨k4_0, k4_1, k4_2, k4_3⟩, ⟨k4_f0, k4_f1, k4_f2, k4_f3⟩⟩ := (HX.get 4 rfl).c4
      refine hK.out _ _ (by exact ⟨k4_0, k4_1, k4_2, k4_3⟩) (fun hHeld => ?_)
      clear hK K
      (try simp only [Act.put, List.getElem_toArray, List.getElem_cons_succ, List.getElem_cons_zero, List.setIfInBounds_toArray, List.set_cons_zero, List.set_cons_succ])
      refine wpAnyH_done (by kernel_rfl) ?_ _
      refine NoPanic.normal ?_
      clear hHeld n0 n1 n2 n3 m0 m1 m2 m3 k4_0 k4_f0 k4_1 k4_f1 k4_2 k4_f2 k4_3 k4_f3
      go_wp2_with fail
      go_meet
      exact ⟨_, rfl, HX.same rfl⟩
  case rest =>
  obtain ⟨gl, rfl, H7⟩ := hcut
  obtain ⟨⟨c1_0, c1_1, c1_2, c1_3⟩, ⟨f1_0, f1_1, f1_2, f1_3⟩⟩ := (H7.get 1 rfl).c4
  obtain ⟨⟨c3_0, c3_1, c3_2, c3_3⟩, ⟨f3_0, f3_1, f3_2, f3_3⟩⟩ := (H7.get 3 rfl).c4
  obtain ⟨⟨c5_0, c5_1, c5_2, c5_3⟩, ⟨f5_0, f5_1, f5_2, f5_3⟩⟩ := (H7.get 5 rfl).c4
  go_wp2_with fail
  with_reducible refine (HK.out _).mono ?_
  rintro e w8 ⟨rfl, hb⟩
  have H8 := H7.next hb
  clear hb H7
  clear c1_0 c1_1 c1_2 c1_3 f1_0 f1_1 f1_2 f1_3 c3_0 c3_1 c3_2 c3_3 f3_0 f3_1 f3_2 f3_3 c5_0 c5_1 c5_2 c5_3 f5_0 f5_1 f5_2 f5_3
  obtain ⟨⟨c3_0, c3_1, c3_2, c3_3⟩, ⟨f3_0, f3_1, f3_2, f3_3⟩⟩ := (H8.get 3 rfl).c4
  go_wp2_with fail
  refine bodyPost_ret (by simp [results, Try.results10, go_sem, c3_0, c3_1, c3_2, c3_3]; try rfl) rfl ?_
  exact ⟨n, a, b, by rw [HZ.out], HNF.out.1, by rw [← HMX.out, ← HMT.out]; exact HNF.out.2, (H8.put4 3 rfl _ _ _ _).below⟩
set_option maxRecDepth 100000 in
set_option maxHeartbeats 4000000 in
theorem rstart_01 (o v : Rc) (hh : Hn) (x t : Int) (w : World) (hv : emptyR v = false) (ho : emptyR o = true) : Calls Try.prog 10 #[rcV o, rcV v, hnV hh, .int .i64 x, .int .i64 t] w fun e w' => ∃ n a b, e = .returned (rcV (startR (ownR o (workR v)) (workR v) a b)) ∧ NormP hh n ∧ FitP n (min x (workR v).w) (min t (workR v).h) a b ∧ Below w.heap.size w w' := by
  have H0 := ((((Bk.start w).alloc #[.int .i64 o.x, .int .i64 o.y, .int .i64 o.w, .int .i64 o.h] 23).alloc #[.int .i64 v.x, .int .i64 v.y, .int .i64 v.w, .int .i64 v.h] 23).alloc #[.int .i64 hh.minW, .int .i64 hh.minH, .int .i64 hh.maxW, .int .i64 hh.maxH, .int .i64 hh.baseW, .int .i64 hh.baseH, .int .i64 hh.incW, .int .i64 hh.incH, .int .i64 hh.lowX, .int .i64 hh.lowY, .int .i64 hh.highX, .int .i64 hh.highY] 25).alloc #[.int .i64 0, .int .i64 0, .int .i64 0, .int .i64 0] 23
  simp only [World.size_alloc, List.nil_append, List.cons_append] at H0
  have HV := Lib.hid (fun W => rempty_c v.x v.y v.w v.h W)
  have HO := Lib.hid (fun W => rempty_c o.x o.y o.w o.h W)
  rw [show emptyB v.x v.y v.w v.h = false from hv] at HV
  rw [show emptyB o.x o.y o.w o.h = true from ho] at HO
  have ew : workR v = v := if_neg (by rw [show emptyB v.x v.y v.w v.h = false from hv]; exact Bool.false_ne_true)
  have eo : ownR o v = v := if_pos ho
  have bo := (emptyR_iff v).1 (by first | exact hv | exact ho)
  have bw := (emptyR_iff v).1 (by exact hv)
  rw [ew, eo]
  clear ew eo hv ho
  have HLx := Lib.hid (fun W => rleast_c x v.w W)
  have HLt := Lib.hid (fun W => rleast_c t v.h W)
  have HF := Lib.hid (fun W => rfit_c hh (min x v.w) (min t v.h) W)
  obtain ⟨mx, hmx⟩ : ∃ mx, mx = min x v.w := ⟨_, rfl⟩
  obtain ⟨mt, hmt⟩ : ∃ mt, mt = min t v.h := ⟨_, rfl⟩
  rw [← hmx] at HLx HF
  rw [← hmt] at HLt HF
  have HMX := Lib.hid hmx
  have HMT := Lib.hid hmt
  clear hmx hmt
  go_enter Try.func10, Try.ntmps10
  go_wp2_with fail
  with_reducible refine (HV.out _).mono ?_
  rintro e w1 ⟨rfl, hb⟩
  have H1 := H0.next hb
  clear hb H0
  obtain ⟨⟨c0_0, c0_1, c0_2, c0_3⟩, ⟨f0_0, f0_1, f0_2, f0_3⟩⟩ := (H1.get 0 rfl).c4
  obtain ⟨⟨c1_0, c1_1, c1_2, c1_3⟩, ⟨f1_0, f1_1, f1_2, f1_3⟩⟩ := (H1.get 1 rfl).c4
  obtain ⟨⟨c2_0, c2_1, c2_2, c2_3, c2_4, c2_5, c2_6, c2_7, c2_8, c2_9, c2_10, c2_11⟩, -⟩ := HB.out (H1.get 2 rfl)
  go_upto_region 3 with fail
  clear c0_0 c0_1 c0_2 c0_3 f0_0 f0_1 f0_2 f0_3 c1_0 c1_1 c1_2 c1_3 f1_0 f1_1 f1_2 f1_3 c2_0 c2_1 c2_2 c2_3 c2_4 c2_5 c2_6 c2_7 c2_8 c2_9 c2_10 c2_11
  obtain ⟨⟨k1_0, k1_1, k1_2, k1_3⟩, ⟨k1_f0, k1_f1, k1_f2, k1_f3⟩⟩ := (H1.get 1 rfl).c4; obtain ⟨⟨k2_0, k2_1, k2_2, k2_3, k2_4, k2_5, k2_6, k2_7, k2_8, k2_9, k2_10, k2_11⟩, -⟩ := HB.out (H1.get 2 rfl)
  refine wp_region_noPanic ?_
  refine wp_region_held_drew (S := fun wx => wx.cell? ⟨w.heap.size + 1, 0, none⟩ = some (.int .i64 v.x) ∧ wx.cell? ⟨w.heap.size + 1, 1, none⟩ = some (.int .i64 v.y) ∧ wx.cell? ⟨w.heap.size + 1, 2, none⟩ = some (.int .i64 v.w) ∧ wx.cell? ⟨w.heap.size + 1, 3, none⟩ = some (.int .i64 v.h) ∧ wx.cell? ⟨w.heap.size + 1 + 1, 0, none⟩ = some (.int .i64 hh.minW) ∧ wx.cell? ⟨w.heap.size + 1 + 1, 1, none⟩ = some (.int .i64 hh.minH) ∧ wx.cell? ⟨w.heap.size + 1 + 1, 2, none⟩ = some (.int .i64 hh.maxW) ∧ wx.cell? ⟨w.heap.size + 1 + 1, 3, none⟩ = some (.int .i64 hh.maxH) ∧ wx.cell? ⟨w.heap.size + 1 + 1, 4, none⟩ = some (.int .i64 hh.baseW) ∧ wx.cell? ⟨w.heap.size + 1 + 1, 5, none⟩ = some (.int .i64 hh.baseH) ∧ wx.cell? ⟨w.heap.size + 1 + 1, 6, none⟩ = some (.int .i64 hh.incW) ∧ wx.cell? ⟨w.heap.size + 1 + 1, 7, none⟩ = some (.int .i64 hh.incH) ∧ wx.cell? ⟨w.heap.size + 1 + 1, 8, none⟩ = some (.int .i64 hh.lowX) ∧ wx.cell? ⟨w.heap.size + 1 + 1, 9, none⟩ = some (.int .i64 hh.lowY) ∧ wx.cell? ⟨w.heap.size + 1 + 1, 10, none⟩ = some (.int .i64 hh.highX) ∧ wx.cell? ⟨w.heap.size + 1 + 1, 11, none⟩ = some (.int .i64 hh.highY)) (by kernel_rfl) (by exact ⟨k1_0, k1_1, k1_2, k1_3, k2_0, k2_1, k2_2, k2_3, k2_4, k2_5, k2_6, k2_7, k2_8, k2_9, k2_10, k2_11⟩) (fun hHeld => ?_)
  refine wpAnyH_take (i := 0) (v := ?vq2x0) rfl (by kernel_rfl) (by kernel_rfl) (by kernel_rfl) (fun _ _ _ h => h) (Or.inl ⟨by kernel_rfl, ?yq2x0⟩) (by assumption) ?rq2x0
  case yq2x0 => (intro wq hSw; (try dsimp only at hSw); go_simp; (try with_reducible rfl))
  (try simp only [Act.put, List.getElem_toArray, List.getElem_cons_zero, List.setIfInBounds_toArray, List.set_cons_zero, List.set_cons_succ])
  refine wpAnyH_take (i := 1) (v := ?vq2x1) rfl (by kernel_rfl) (by kernel_rfl) (by kernel_rfl) (fun _ _ _ h => h) (Or.inl ⟨by kernel_rfl, ?yq2x1⟩) (by assumption) ?rq2x1
  case yq2x1 => (intro wq hSw; (try dsimp only at hSw); go_simp; (try with_reducible rfl))
  (try simp only [Act.put, List.getElem_toArray, List.getElem_cons_succ, List.getElem_cons_zero, List.setIfInBounds_toArray, List.set_cons_zero, List.set_cons_succ])
  refine wpAnyH_take (i := 2) (v := ?vq2x2) rfl (by kernel_rfl) (by kernel_rfl) (by kernel_rfl) (fun _ _ _ h => h) (Or.inl ⟨by kernel_rfl, ?yq2x2⟩) (by assumption) ?rq2x2
  case yq2x2 => (intro wq hSw; (try dsimp only at hSw); go_simp; (try with_reducible rfl))
  (try simp only [Act.put, List.getElem_toArray, List.getElem_cons_succ, List.getElem_cons_zero, List.setIfInBounds_toArray, List.set_cons_zero, List.set_cons_succ])
  refine wpAnyH_take (i := 3) (v := ?vq2x3) rfl (by kernel_rfl) (by kernel_rfl) (by kernel_rfl) (fun _ _ _ h => h) (Or.inl ⟨by kernel_rfl, ?yq2x3⟩) (by assumption) ?rq2x3
  case yq2x3 => (intro wq hSw; (try dsimp only at hSw); go_simp; (try with_reducible rfl))
  (try simp only [Act.put, List.getElem_toArray, List.getElem_cons_succ, List.getElem_cons_zero, List.setIfInBounds_toArray, List.set_cons_zero, List.set_cons_succ])
  refine wpAnyH_take (i := 5) (v := ?vq2x5) rfl (by kernel_rfl) (by kernel_rfl) (by kernel_rfl) (fun _ _ _ h => h) (Or.inl ⟨by kernel_rfl, ?yq2x5⟩) (by assumption) ?rq2x5
  case yq2x5 => (intro wq hSw; (try dsimp only at hSw); go_simp; (try with_reducible rfl))
  (try simp only [Act.put, List.getElem_toArray, List.getElem_cons_succ, List.getElem_cons_zero, List.setIfInBounds_toArray, List.set_cons_zero, List.set_cons_succ])
  refine wpAnyH_take (i := 6) (v := ?vq2x6) rfl (by kernel_rfl) (by kernel_rfl) (by kernel_rfl) (fun _ _ _ h => h) (Or.inl ⟨by kernel_rfl, ?yq2x6⟩) (by assumption) ?rq2x6
  case yq2x6 => (intro wq hSw; (try dsimp only at hSw); go_simp; (try with_reducible rfl))
  (try simp only [Act.put, List.getElem_toArray, List.getElem_cons_succ, List.getElem_cons_zero, List.setIfInBounds_toArray, List.set_cons_zero, List.set_cons_succ])
  refine wpAnyH_take (i := 7) (v := ?vq2x7) rfl (by kernel_rfl) (by kernel_rfl) (by kernel_rfl) (fun _ _ _ h => h) (Or.inl ⟨by kernel_rfl, ?yq2x7⟩) (by assumption) ?rq2x7
  case yq2x7 => (intro wq hSw; (try dsimp only at hSw); go_simp; (try with_reducible rfl))
  (try simp only [Act.put, List.getElem_toArray, List.getElem_cons_succ, List.getElem_cons_zero, List.setIfInBounds_toArray, List.set_cons_zero, List.set_cons_succ])
  refine wpAnyH_ready (rs := [4]) (by kernel_rfl) (by simp) ?_
  refine AllReadyH.cons rfl (fun K hK => ?_) AllReadyH.nil
  go_simp
  refine (HLx.out _).mono ?_
  rintro e w2 ⟨rfl, rfl⟩; have H2 := H1.drew; clear H1 k1_0 k1_f0 k1_1 k1_f1 k1_2 k1_f2 k1_3 k1_f3 k2_0 k2_1 k2_2 k2_3 k2_4 k2_5 k2_6 k2_7 k2_8 k2_9 k2_10 k2_11; obtain ⟨⟨k1_0, k1_1, k1_2, k1_3⟩, ⟨k1_f0, k1_f1, k1_f2, k1_f3⟩⟩ := (H2.get 1 rfl).c4; obtain ⟨⟨k2_0, k2_1, k2_2, k2_3, k2_4, k2_5, k2_6, k2_7, k2_8, k2_9, k2_10, k2_11⟩, -⟩ := HB.out (H2.get 2 rfl)
  (try dsimp only)
  refine hK.out _ _ (by exact ⟨k1_0, k1_1, k1_2, k1_3, k2_0, k2_1, k2_2, k2_3, k2_4, k2_5, k2_6, k2_7, k2_8, k2_9, k2_10, k2_11⟩) (fun hHeld => ?_)
  clear hK K
  (try simp only [Act.put, List.getElem_toArray, List.getElem_cons_succ, List.getElem_cons_zero, List.setIfInBounds_toArray, List.set_cons_zero, List.set_cons_succ])
  refine wpAnyH_ready (rs := [8]) (by kernel_rfl) (by simp) ?_
  refine AllReadyH.cons rfl (fun K hK => ?_) AllReadyH.nil
  go_simp
  refine (HLt.out _).mono ?_
  rintro e w3 ⟨rfl, rfl⟩; have H3 := H2; clear H2 k1_0 k1_f0 k1_1 k1_f1 k1_2 k1_f2 k1_3 k1_f3 k2_0 k2_1 k2_2 k2_3 k2_4 k2_5 k2_6 k2_7 k2_8 k2_9 k2_10 k2_11; obtain ⟨⟨k1_0, k1_1, k1_2, k1_3⟩, ⟨k1_f0, k1_f1, k1_f2, k1_f3⟩⟩ := (H3.get 1 rfl).c4; obtain ⟨⟨k2_0, k2_1, k2_2, k2_3, k2_4, k2_5, k2_6, k2_7, k2_8, k2_9, k2_10, k2_11⟩, -⟩ := HB.out (H3.get 2 rfl)
  (try dsimp only)
  refine hK.out _ _ (by exact ⟨k1_0, k1_1, k1_2, k1_3, k2_0, k2_1, k2_2, k2_3, k2_4, k2_5, k2_6, k2_7, k2_8, k2_9, k2_10, k2_11⟩) (fun hHeld => ?_)
  clear hK K
  (try simp only [Act.put, List.getElem_toArray, List.getElem_cons_succ, List.getElem_cons_zero, List.setIfInBounds_toArray, List.set_cons_zero, List.set_cons_succ])
  refine wpAnyH_ready (rs := [9]) (by kernel_rfl) (by simp) ?_
  refine AllReadyH.cons rfl (fun K hK => ?_) AllReadyH.nil
  go_simp
  refine (HF.out _).mono ?_
  rintro e w4 ⟨n, a, b, rfl, hN, hF, hb⟩; have H4 := H3.next hb; clear hb H3 k1_0 k1_f0 k1_1 k1_f1 k1_2 k1_f2 k1_3 k1_f3 k2_0 k2_1 k2_2 k2_3 k2_4 k2_5 k2_6 k2_7 k2_8 k2_9 k2_10 k2_11; obtain ⟨⟨k1_0, k1_1, k1_2, k1_3⟩, ⟨k1_f0, k1_f1, k1_f2, k1_f3⟩⟩ := (H4.get 1 rfl).c4; obtain ⟨⟨k2_0, k2_1, k2_2, k2_3, k2_4, k2_5, k2_6, k2_7, k2_8, k2_9, k2_10, k2_11⟩, -⟩ := HB.out (H4.get 2 rfl)
  (try dsimp only)
  refine hK.out _ _ (by exact ⟨k1_0, k1_1, k1_2, k1_3, k2_0, k2_1, k2_2, k2_3, k2_4, k2_5, k2_6, k2_7, k2_8, k2_9, k2_10, k2_11⟩) (fun hHeld => ?_)
  clear hK K
  (try simp only [Act.put, List.getElem_toArray, List.getElem_cons_succ, List.getElem_cons_zero, List.setIfInBounds_toArray, List.set_cons_zero, List.set_cons_succ])
  refine wpAnyH_take (i := 10) (v := ?vq2x10) rfl (by kernel_rfl) (by kernel_rfl) (by kernel_rfl) (fun _ _ _ h => h) (Or.inl ⟨by kernel_rfl, ?yq2x10⟩) (by assumption) ?rq2x10
  case yq2x10 => (intro wq hSw; (try dsimp only at hSw); go_simp; (try with_reducible rfl))
  (try simp only [Act.put, List.getElem_toArray, List.getElem_cons_succ, List.getElem_cons_zero, List.setIfInBounds_toArray, List.set_cons_zero, List.set_cons_succ])
  refine wpAnyH_take (i := 11) (v := ?vq2x11) rfl (by kernel_rfl) (by kernel_rfl) (by kernel_rfl) (fun _ _ _ h => h) (Or.inl ⟨by kernel_rfl, ?yq2x11⟩) (by assumption) ?rq2x11
  case yq2x11 => (intro wq hSw; (try dsimp only at hSw); go_simp; (try with_reducible rfl))
  (try simp only [Act.put, List.getElem_toArray, List.getElem_cons_succ, List.getElem_cons_zero, List.setIfInBounds_toArray, List.set_cons_zero, List.set_cons_succ])
  refine wpAnyH_take (i := 12) (v := ?vq2x12) rfl (by kernel_rfl) (by kernel_rfl) (by kernel_rfl) (fun _ _ _ h => h) (Or.inl ⟨by kernel_rfl, ?yq2x12⟩) (by assumption) ?rq2x12
  case yq2x12 => (intro wq hSw; (try dsimp only at hSw); go_simp; (try with_reducible rfl))
  (try simp only [Act.put, List.getElem_toArray, List.getElem_cons_succ, List.getElem_cons_zero, List.setIfInBounds_toArray, List.set_cons_zero, List.set_cons_succ])
  refine wpAnyH_take (i := 13) (v := ?vq2x13) rfl (by kernel_rfl) (by kernel_rfl) (by kernel_rfl) (fun _ _ _ h => h) (Or.inl ⟨by kernel_rfl, ?yq2x13⟩) (by assumption) ?rq2x13
  case yq2x13 => (intro wq hSw; (try dsimp only at hSw); go_simp; (try with_reducible rfl))
  (try simp only [Act.put, List.getElem_toArray, List.getElem_cons_succ, List.getElem_cons_zero, List.setIfInBounds_toArray, List.set_cons_zero, List.set_cons_succ])
  refine wpAnyH_take (i := 14) (v := ?vq2x14) rfl (by kernel_rfl) (by kernel_rfl) (by kernel_rfl) (fun _ _ _ h => h) (Or.inl ⟨by kernel_rfl, ?yq2x14⟩) (by assumption) ?rq2x14
  case yq2x14 => (intro wq hSw; (try dsimp only at hSw); go_simp; (try with_reducible rfl))
  (try simp only [Act.put, List.getElem_toArray, List.getElem_cons_succ, List.getElem_cons_zero, List.setIfInBounds_toArray, List.set_cons_zero, List.set_cons_succ])
  refine wpAnyH_done (by kernel_rfl) ?_ _
  refine NoPanic.normal ?_
  obtain ⟨⟨a1, a2⟩, b1, b2⟩ := fit_b hN.right.1 hF
  have HX := Lib.hid (fun W => half_c (v.w - a) W (by (try simp only at *); omega))
  have HY := Lib.hid (fun W => half_c (v.h - b) W (by (try simp only at *); omega))
  have mx1 : -500000 ≤ (v.w - a) / 2 ∧ (v.w - a) / 2 ≤ 500000 := by (try simp only at *); omega
  have my1 : -500000 ≤ (v.h - b) / 2 ∧ (v.h - b) / 2 ≤ 500000 := by (try simp only at *); omega
  have mx2 : -1000000 ≤ midI v.x v.w a ∧ midI v.x v.w a ≤ 1000000 := by unfold midI; (try simp only at *); omega
  have my2 : -1000000 ≤ midI v.y v.h b ∧ midI v.y v.h b ≤ 1000000 := by unfold midI; (try simp only at *); omega
  have HS := Lib.hid (fun W => laid_c (midI v.x v.w a) (midI v.y v.h b) a b W mx2 my2)
  have eS : startR v v a b = keepRR (laidR (midI v.x v.w a) (midI v.y v.h b) a b) v := rfl
  generalize laidR (midI v.x v.w a) (midI v.y v.h b) a b = l at HS eS
  change Hid (∀ W, Calls _ _ #[.int .i64 (v.x + (v.w - a) / 2), .int .i64 (v.y + (v.h - b) / 2), _, _] W _) at HS
  have ws1 : IntKind.i64.wrap (v.w - a) = v.w - a := IntWalk.i64_in _ (by (try simp only at *); omega)
  have ws2 : IntKind.i64.wrap (v.h - b) = v.h - b := IntWalk.i64_in _ (by (try simp only at *); omega)
  generalize (v.w - a) / 2 = p at *
  generalize (v.h - b) / 2 = q at *
  have ws3 : IntKind.i64.wrap (v.x + p) = v.x + p := IntWalk.i64_in _ (by (try simp only at *); omega)
  have ws4 : IntKind.i64.wrap (v.y + q) = v.y + q := IntWalk.i64_in _ (by (try simp only at *); omega)
  have HK := Lib.hid (fun W => rkeep_c l.x l.y l.w l.h v.x v.y v.w v.h W)
  have eK : keepR l.x l.y l.w l.h v.x v.y v.w v.h = keepRR l v := rfl
  rw [eK, ← eS] at HK
  have HNF := Lib.hid (And.intro hN hF)
  obtain ⟨z, hz⟩ : ∃ z, z = startR v v a b := ⟨_, rfl⟩
  rw [← hz] at HK
  have HZ := Lib.hid hz
  clear hz eS eK hN hF bo bw mx1 my1 mx2 my2 a1 a2 b1 b2
  clear k1_0 k1_f0 k1_1 k1_f1 k1_2 k1_f2 k1_3 k1_f3 k2_0 k2_1 k2_2 k2_3 k2_4 k2_5 k2_6 k2_7 k2_8 k2_9 k2_10 k2_11
  obtain ⟨⟨c0_0, c0_1, c0_2, c0_3⟩, ⟨f0_0, f0_1, f0_2, f0_3⟩⟩ := (H4.get 0 rfl).c4
  obtain ⟨⟨c1_0, c1_1, c1_2, c1_3⟩, ⟨f1_0, f1_1, f1_2, f1_3⟩⟩ := (H4.get 1 rfl).c4
  go_upto_region 5 with fail
  have H5 := H4.alloc #[.int .i64 o.x, .int .i64 o.y, .int .i64 o.w, .int .i64 o.h] 23
  simp only [List.nil_append, List.cons_append] at H5
  obtain ⟨w5, hw5⟩ : ∃ wz, wz = w4.alloc (.cells #[.int .i64 o.x, .int .i64 o.y, .int .i64 o.w, .int .i64 o.h] 23) := ⟨_, rfl⟩
  rewrite [← hw5] at H5 ⊢
  obtain ⟨g5, hg5⟩ : ∃ gz, gz = w4.heap.size := ⟨_, rfl⟩
  rewrite [← hg5] at H5 ⊢
  have dg5_0 : w.heap.size ≠ g5 := by rw [hg5]; exact Nat.ne_of_lt (H4.get 0 rfl).lt
  have eg5_0 : g5 ≠ w.heap.size := dg5_0.symm
  have dg5_1 : w.heap.size + 1 ≠ g5 := by rw [hg5]; exact Nat.ne_of_lt (H4.get 1 rfl).lt
  have eg5_1 : g5 ≠ w.heap.size + 1 := dg5_1.symm
  have dg5_2 : w.heap.size + 1 + 1 ≠ g5 := by rw [hg5]; exact Nat.ne_of_lt (H4.get 2 rfl).lt
  have eg5_2 : g5 ≠ w.heap.size + 1 + 1 := dg5_2.symm
  have dg5_3 : w.heap.size + 1 + 1 + 1 ≠ g5 := by rw [hg5]; exact Nat.ne_of_lt (H4.get 3 rfl).lt
  have eg5_3 : g5 ≠ w.heap.size + 1 + 1 + 1 := dg5_3.symm
  clear hw5 hg5 H4 c0_0 c0_1 c0_2 c0_3 f0_0 f0_1 f0_2 f0_3 c1_0 c1_1 c1_2 c1_3 f1_0 f1_1 f1_2 f1_3
  obtain ⟨⟨c0_0, c0_1, c0_2, c0_3⟩, ⟨f0_0, f0_1, f0_2, f0_3⟩⟩ := (H5.get 0 rfl).c4
  obtain ⟨⟨c1_0, c1_1, c1_2, c1_3⟩, ⟨f1_0, f1_1, f1_2, f1_3⟩⟩ := (H5.get 1 rfl).c4
  obtain ⟨⟨c4_0, c4_1, c4_2, c4_3⟩, ⟨f4_0, f4_1, f4_2, f4_3⟩⟩ := (H5.get 4 rfl).c4
  go_wp2_with fail
  with_reducible refine (HO.out _).mono ?_
  rintro e w6 ⟨rfl, hb⟩
  have H6 := H5.next hb
  clear hb H5
  clear c0_0 c0_1 c0_2 c0_3 f0_0 f0_1 f0_2 f0_3 c1_0 c1_1 c1_2 c1_3 f1_0 f1_1 f1_2 f1_3 c4_0 c4_1 c4_2 c4_3 f4_0 f4_1 f4_2 f4_3
  obtain ⟨⟨c1_0, c1_1, c1_2, c1_3⟩, ⟨f1_0, f1_1, f1_2, f1_3⟩⟩ := (H6.get 1 rfl).c4
  obtain ⟨⟨c3_0, c3_1, c3_2, c3_3⟩, ⟨f3_0, f3_1, f3_2, f3_3⟩⟩ := (H6.get 3 rfl).c4
  obtain ⟨⟨c4_0, c4_1, c4_2, c4_3⟩, ⟨f4_0, f4_1, f4_2, f4_3⟩⟩ := (H6.get 4 rfl).c4
  go_upto_region 7 with fail
  have H7 : Bk w [(w.heap.size, 23, #[.int .i64 o.x, .int .i64 o.y, .int .i64 o.w, .int .i64 o.h]), (w.heap.size + 1, 23, #[.int .i64 v.x, .int .i64 v.y, .int .i64 v.w, .int .i64 v.h]), (w.heap.size + 1 + 1, 25, #[.int .i64 hh.minW, .int .i64 hh.minH, .int .i64 hh.maxW, .int .i64 hh.maxH, .int .i64 hh.baseW, .int .i64 hh.baseH, .int .i64 hh.incW, .int .i64 hh.incH, .int .i64 hh.lowX, .int .i64 hh.lowY, .int .i64 hh.highX, .int .i64 hh.highY]), (w.heap.size + 1 + 1 + 1, 23, #[.int .i64 0, .int .i64 0, .int .i64 0, .int .i64 0]), (g5, 23, #[.int .i64 v.x, .int .i64 v.y, .int .i64 v.w, .int .i64 v.h])] _ := (H6.put4 4 rfl (.int .i64 v.x) (.int .i64 v.y) (.int .i64 v.w) (.int .i64 v.h)).same rfl
  obtain ⟨w7, hw7⟩ : ∃ wz, wz = ((((w6).setCell ⟨g5, 0, none⟩ (.int .i64 v.x)).setCell ⟨g5, 1, none⟩ (.int .i64 v.y)).setCell ⟨g5, 2, none⟩ (.int .i64 v.w)).setCell ⟨g5, 3, none⟩ (.int .i64 v.h) := ⟨_, rfl⟩
  rewrite [← hw7] at H7 ⊢
  clear hw7 H6
  clear c1_0 c1_1 c1_2 c1_3 f1_0 f1_1 f1_2 f1_3 c3_0 c3_1 c3_2 c3_3 f3_0 f3_1 f3_2 f3_3 c4_0 c4_1 c4_2 c4_3 f4_0 f4_1 f4_2 f4_3
  go_cut [14] (fun s14 wx => ∃ gl, s14 = .pointer (some ⟨gl, 0, none⟩) ∧ Bk w [(w.heap.size, 23, #[.int .i64 o.x, .int .i64 o.y, .int .i64 o.w, .int .i64 o.h]), (w.heap.size + 1, 23, #[.int .i64 v.x, .int .i64 v.y, .int .i64 v.w, .int .i64 v.h]), (w.heap.size + 1 + 1, 25, #[.int .i64 hh.minW, .int .i64 hh.minH, .int .i64 hh.maxW, .int .i64 hh.maxH, .int .i64 hh.baseW, .int .i64 hh.baseH, .int .i64 hh.incW, .int .i64 hh.incH, .int .i64 hh.lowX, .int .i64 hh.lowY, .int .i64 hh.highX, .int .i64 hh.highY]), (w.heap.size + 1 + 1 + 1, 23, #[.int .i64 0, .int .i64 0, .int .i64 0, .int .i64 0]), (g5, 23, #[.int .i64 v.x, .int .i64 v.y, .int .i64 v.w, .int .i64 v.h]), (gl, 23, #[.int .i64 l.x, .int .i64 l.y, .int .i64 l.w, .int .i64 l.h])] wx)
  case first =>
    obtain ⟨⟨k4_0, k4_1, k4_2, k4_3⟩, ⟨k4_f0, k4_f1, k4_f2, k4_f3⟩⟩ := (H7.get 4 rfl).c4
    refine wp_region_noPanic ?_
    refine wp_region_held_drew (S := fun wx => wx.cell? ⟨g5, 0, none⟩ = some (.int .i64 v.x) ∧ wx.cell? ⟨g5, 1, none⟩ = some (.int .i64 v.y) ∧ wx.cell? ⟨g5, 2, none⟩ = some (.int .i64 v.w) ∧ wx.cell? ⟨g5, 3, none⟩ = some (.int .i64 v.h)) (by kernel_rfl) (by exact ⟨k4_0, k4_1, k4_2, k4_3⟩) (fun hHeld => ?_)
    obtain ⟨wd, hwd⟩ : ∃ wd, wd = w7.drew := ⟨_, rfl⟩
    have HD := H7.drew
    rewrite [← hwd] at HD hHeld ⊢
    clear hwd k4_0 k4_f0 k4_1 k4_f1 k4_2 k4_f2 k4_3 k4_f3
    obtain ⟨⟨k4_0, k4_1, k4_2, k4_3⟩, ⟨k4_f0, k4_f1, k4_f2, k4_f3⟩⟩ := (HD.get 4 rfl).c4
    refine wpAnyH_take (i := 0) (v := ?vz1x0) rfl (by kernel_rfl) (by kernel_rfl) (by kernel_rfl) (fun _ _ _ h => h) (Or.inl ⟨by kernel_rfl, ?yz1x0⟩) (by assumption) ?rz1x0
    case yz1x0 => (intro wq hSw; (try dsimp only at hSw); go_simp; (try with_reducible rfl))
    (try simp only [Act.put, List.getElem_toArray, List.getElem_cons_zero, List.setIfInBounds_toArray, List.set_cons_zero, List.set_cons_succ])
    refine wpAnyH_take (i := 1) (v := ?vz1x1) rfl (by kernel_rfl) (by kernel_rfl) (by kernel_rfl) (fun _ _ _ h => h) (Or.inl ⟨by kernel_rfl, ?yz1x1⟩) (by assumption) ?rz1x1
    case yz1x1 => (intro wq hSw; (try dsimp only at hSw); go_simp; (try with_reducible rfl))
    (try simp only [Act.put, List.getElem_toArray, List.getElem_cons_succ, List.getElem_cons_zero, List.setIfInBounds_toArray, List.set_cons_zero, List.set_cons_succ])
    refine wpAnyH_take (i := 2) (v := ?vz1x2) rfl (by kernel_rfl) (by kernel_rfl) (by kernel_rfl) (fun _ _ _ h => h) (Or.inl ⟨by kernel_rfl, ?yz1x2⟩) (by assumption) ?rz1x2
    case yz1x2 => (intro wq hSw; (try dsimp only at hSw); go_simp; (try with_reducible rfl))
    (try simp only [Act.put, List.getElem_toArray, List.getElem_cons_succ, List.getElem_cons_zero, List.setIfInBounds_toArray, List.set_cons_zero, List.set_cons_succ])
    refine wpAnyH_take (i := 3) (v := ?vz1x3) rfl (by kernel_rfl) (by kernel_rfl) (by kernel_rfl) (fun _ _ _ h => h) (Or.inl ⟨by kernel_rfl, ?yz1x3⟩) (by assumption) ?rz1x3
    case yz1x3 => (intro wq hSw; (try dsimp only at hSw); go_simp; (try with_reducible rfl))
    (try simp only [Act.put, List.getElem_toArray, List.getElem_cons_succ, List.getElem_cons_zero, List.setIfInBounds_toArray, List.set_cons_zero, List.set_cons_succ])
    refine wpAnyH_take (i := 4) (v := ?vz1x4) rfl (by kernel_rfl) (by kernel_rfl) (by kernel_rfl) (fun _ _ _ h => h) (Or.inl ⟨by kernel_rfl, ?yz1x4⟩) (by assumption) ?rz1x4
    case yz1x4 => (intro wq hSw; (try dsimp only at hSw); go_simp; (try with_reducible rfl))
    (try simp only [Act.put, List.getElem_toArray, List.getElem_cons_succ, List.getElem_cons_zero, List.setIfInBounds_toArray, List.set_cons_zero, List.set_cons_succ])
    refine wpAnyH_take (i := 5) (v := ?vz1x5) rfl (by kernel_rfl) (by kernel_rfl) (by kernel_rfl) (fun _ _ _ h => h) (Or.inl ⟨by kernel_rfl, ?yz1x5⟩) (by assumption) ?rz1x5
    case yz1x5 => (intro wq hSw; (try dsimp only at hSw); go_simp; (try with_reducible rfl))
    (try simp only [Act.put, List.getElem_toArray, List.getElem_cons_succ, List.getElem_cons_zero, List.setIfInBounds_toArray, List.set_cons_zero, List.set_cons_succ])
    refine wpAnyH_take (i := 8) (v := ?vz1x8) rfl (by kernel_rfl) (by kernel_rfl) (by kernel_rfl) (fun _ _ _ h => h) (Or.inl ⟨by kernel_rfl, ?yz1x8⟩) (by assumption) ?rz1x8
    case yz1x8 => (intro wq hSw; (try dsimp only at hSw); go_simp; (try with_reducible rfl))
    (try simp only [Act.put, List.getElem_toArray, List.getElem_cons_succ, List.getElem_cons_zero, List.setIfInBounds_toArray, List.set_cons_zero, List.set_cons_succ])
    refine wpAnyH_take (i := 9) (v := ?vz1x9) rfl (by kernel_rfl) (by kernel_rfl) (by kernel_rfl) (fun _ _ _ h => h) (Or.inl ⟨by kernel_rfl, ?yz1x9⟩) (by assumption) ?rz1x9
    case yz1x9 => (intro wq hSw; (try dsimp only at hSw); go_simp; (try with_reducible rfl))
    (try simp only [Act.put, List.getElem_toArray, List.getElem_cons_succ, List.getElem_cons_zero, List.setIfInBounds_toArray, List.set_cons_zero, List.set_cons_succ])
    refine wpAnyH_take (i := 10) (v := ?vz1x10) rfl (by kernel_rfl) (by kernel_rfl) (by kernel_rfl) (fun _ _ _ h => h) (Or.inl ⟨by kernel_rfl, ?yz1x10⟩) (by assumption) ?rz1x10
    case yz1x10 => (intro wq hSw; (try dsimp only at hSw); go_simp; (try with_reducible rfl))
    (try simp only [Act.put, List.getElem_toArray, List.getElem_cons_succ, List.getElem_cons_zero, List.setIfInBounds_toArray, List.set_cons_zero, List.set_cons_succ])
    refine wpAnyH_take (i := 11) (v := ?vz1x11) rfl (by kernel_rfl) (by kernel_rfl) (by kernel_rfl) (fun _ _ _ h => h) (Or.inl ⟨by kernel_rfl, ?yz1x11⟩) (by assumption) ?rz1x11
    case yz1x11 => (intro wq hSw; (try dsimp only at hSw); go_simp; (try with_reducible rfl))
    (try simp only [Act.put, List.getElem_toArray, List.getElem_cons_succ, List.getElem_cons_zero, List.setIfInBounds_toArray, List.set_cons_zero, List.set_cons_succ])
    refine wpAnyH_take (i := 12) (v := ?vz1x12) rfl (by kernel_rfl) (by kernel_rfl) (by kernel_rfl) (fun _ _ _ h => h) (Or.inl ⟨by kernel_rfl, ?yz1x12⟩) (by assumption) ?rz1x12
    case yz1x12 => (intro wq hSw; (try dsimp only at hSw); go_simp; (try with_reducible rfl))
    (try simp only [Act.put, List.getElem_toArray, List.getElem_cons_succ, List.getElem_cons_zero, List.setIfInBounds_toArray, List.set_cons_zero, List.set_cons_succ])
    refine wpAnyH_take (i := 13) (v := ?vz1x13) rfl (by kernel_rfl) (by kernel_rfl) (by kernel_rfl) (fun _ _ _ h => h) (Or.inl ⟨by kernel_rfl, ?yz1x13⟩) (by assumption) ?rz1x13
    case yz1x13 => (intro wq hSw; (try dsimp only at hSw); go_simp; (try with_reducible rfl))
    (try simp only [Act.put, List.getElem_toArray, List.getElem_cons_succ, List.getElem_cons_zero, List.setIfInBounds_toArray, List.set_cons_zero, List.set_cons_succ])
    refine wpAnyH_take (i := 16) (v := ?vz1x16) rfl (by kernel_rfl) (by kernel_rfl) (by kernel_rfl) (fun _ _ _ h => h) (Or.inl ⟨by kernel_rfl, ?yz1x16⟩) (by assumption) ?rz1x16
    case yz1x16 => (intro wq hSw; (try dsimp only at hSw); go_simp; (try with_reducible rfl))
    (try simp only [Act.put, List.getElem_toArray, List.getElem_cons_succ, List.getElem_cons_zero, List.setIfInBounds_toArray, List.set_cons_zero, List.set_cons_succ])
    refine wpAnyH_take (i := 17) (v := ?vz1x17) rfl (by kernel_rfl) (by kernel_rfl) (by kernel_rfl) (fun _ _ _ h => h) (Or.inl ⟨by kernel_rfl, ?yz1x17⟩) (by assumption) ?rz1x17
    case yz1x17 => (intro wq hSw; (try dsimp only at hSw); go_simp; (try with_reducible rfl))
    (try simp only [Act.put, List.getElem_toArray, List.getElem_cons_succ, List.getElem_cons_zero, List.setIfInBounds_toArray, List.set_cons_zero, List.set_cons_succ])
    refine wpAnyH_ready (rs := [6, 19]) (by kernel_rfl) (by simp) ?_
    refine AllReadyH.cons rfl (fun K hK => ?_) (AllReadyH.cons rfl (fun K hK => ?_) AllReadyH.nil)
    · go_simp
      refine (HX.out _).mono ?_
      rintro e wn2 ⟨rfl, rfl⟩
      have HN2 := HD
      clear k4_0 k4_f0 k4_1 k4_f1 k4_2 k4_f2 k4_3 k4_f3
      obtain ⟨⟨k4_0, k4_1, k4_2, k4_3⟩, ⟨k4_f0, k4_f1, k4_f2, k4_f3⟩⟩ := (HN2.get 4 rfl).c4
      (try dsimp only)
      refine hK.out _ _ (by exact ⟨k4_0, k4_1, k4_2, k4_3⟩) (fun hHeld => ?_)
      clear hK K
      (try simp only [Act.put, List.getElem_toArray, List.getElem_cons_succ, List.getElem_cons_zero, List.setIfInBounds_toArray, List.set_cons_zero, List.set_cons_succ])
      refine wpAnyH_take (i := 7) (v := ?vz3x7) rfl (by kernel_rfl) (by kernel_rfl) (by kernel_rfl) (fun _ _ _ h => h) (Or.inl ⟨by kernel_rfl, ?yz3x7⟩) (by assumption) ?rz3x7
      case yz3x7 => (intro wq hSw; (try dsimp only at hSw); go_simp; (try with_reducible rfl))
      (try simp only [Act.put, List.getElem_toArray, List.getElem_cons_succ, List.getElem_cons_zero, List.setIfInBounds_toArray, List.set_cons_zero, List.set_cons_succ])
      refine wpAnyH_ready (rs := [14, 19]) (by kernel_rfl) (by simp) ?_
      refine AllReadyH.cons rfl (fun K hK => ?_) (AllReadyH.cons rfl (fun K hK => ?_) AllReadyH.nil)
      · go_simp
        refine (HY.out _).mono ?_
        rintro e wn4 ⟨rfl, rfl⟩
        have HN4 := HN2
        clear k4_0 k4_f0 k4_1 k4_f1 k4_2 k4_f2 k4_3 k4_f3
        obtain ⟨⟨k4_0, k4_1, k4_2, k4_3⟩, ⟨k4_f0, k4_f1, k4_f2, k4_f3⟩⟩ := (HN4.get 4 rfl).c4
        (try dsimp only)
        refine hK.out _ _ (by exact ⟨k4_0, k4_1, k4_2, k4_3⟩) (fun hHeld => ?_)
        clear hK K
        (try simp only [Act.put, List.getElem_toArray, List.getElem_cons_succ, List.getElem_cons_zero, List.setIfInBounds_toArray, List.set_cons_zero, List.set_cons_succ])
        refine wpAnyH_take (i := 15) (v := ?vz5x15) rfl (by kernel_rfl) (by kernel_rfl) (by kernel_rfl) (fun _ _ _ h => h) (Or.inl ⟨by kernel_rfl, ?yz5x15⟩) (by assumption) ?rz5x15
        case yz5x15 => (intro wq hSw; (try dsimp only at hSw); go_simp; (try with_reducible rfl))
        (try simp only [Act.put, List.getElem_toArray, List.getElem_cons_succ, List.getElem_cons_zero, List.setIfInBounds_toArray, List.set_cons_zero, List.set_cons_succ])
        refine wpAnyH_ready (rs := [18, 19]) (by kernel_rfl) (by simp) ?_
        refine AllReadyH.cons rfl (fun K hK => ?_) (AllReadyH.cons rfl (fun K hK => ?_) AllReadyH.nil)
        · go_simp
          refine (HS.out _).mono ?_
          rintro e wn6 ⟨rfl, hb⟩
          have HN6 := HN4.next hb
          clear hb
          clear k4_0 k4_f0 k4_1 k4_f1 k4_2 k4_f2 k4_3 k4_f3
          obtain ⟨⟨k4_0, k4_1, k4_2, k4_3⟩, ⟨k4_f0, k4_f1, k4_f2, k4_f3⟩⟩ := (HN6.get 4 rfl).c4
          (try dsimp only)
          refine hK.out _ _ (by exact ⟨k4_0, k4_1, k4_2, k4_3⟩) (fun hHeld => ?_)
          clear hK K
          (try simp only [Act.put, List.getElem_toArray, List.getElem_cons_succ, List.getElem_cons_zero, List.setIfInBounds_toArray, List.set_cons_zero, List.set_cons_succ])
          refine wpAnyH_ready (rs := [19]) (by kernel_rfl) (by simp) ?_
          refine AllReadyH.cons rfl (fun K hK => ?_) AllReadyH.nil
          go_simp
          have HN8 := HN6.alloc #[.int .i64 0, .int .i64 0, .int .i64 0, .int .i64 0] 23
          simp only [List.nil_append, List.cons_append] at HN8
          obtain ⟨wn8, hwn⟩ : ∃ wz, wz = wn6.alloc (.cells #[.int .i64 0, .int .i64 0, .int .i64 0, .int .i64 0] 23) := ⟨_, rfl⟩
          rewrite [← hwn] at HN8 ⊢
          obtain ⟨gn8, hgn⟩ : ∃ gz, gz = wn6.heap.size := ⟨_, rfl⟩
          rewrite [← hgn] at HN8 ⊢
          have dgn8_0 : w.heap.size ≠ gn8 := by rw [hgn]; exact Nat.ne_of_lt (HN6.get 0 rfl).lt
          have egn8_0 : gn8 ≠ w.heap.size := dgn8_0.symm
          have dgn8_1 : w.heap.size + 1 ≠ gn8 := by rw [hgn]; exact Nat.ne_of_lt (HN6.get 1 rfl).lt
          have egn8_1 : gn8 ≠ w.heap.size + 1 := dgn8_1.symm
          have dgn8_2 : w.heap.size + 1 + 1 ≠ gn8 := by rw [hgn]; exact Nat.ne_of_lt (HN6.get 2 rfl).lt
          have egn8_2 : gn8 ≠ w.heap.size + 1 + 1 := dgn8_2.symm
          have dgn8_3 : w.heap.size + 1 + 1 + 1 ≠ gn8 := by rw [hgn]; exact Nat.ne_of_lt (HN6.get 3 rfl).lt
          have egn8_3 : gn8 ≠ w.heap.size + 1 + 1 + 1 := dgn8_3.symm
          have dgn8_4 : g5 ≠ gn8 := by rw [hgn]; exact Nat.ne_of_lt (HN6.get 4 rfl).lt
          have egn8_4 : gn8 ≠ g5 := dgn8_4.symm
          clear hwn hgn k4_0 k4_f0 k4_1 k4_f1 k4_2 k4_f2 k4_3 k4_f3
          obtain ⟨⟨k4_0, k4_1, k4_2, k4_3⟩, ⟨k4_f0, k4_f1, k4_f2, k4_f3⟩⟩ := (HN8.get 4 rfl).c4
          refine hK.out _ _ (by exact ⟨k4_0, k4_1, k4_2, k4_3⟩) (fun hHeld => ?_)
          clear hK K
          (try simp only [Act.put, List.getElem_toArray, List.getElem_cons_succ, List.getElem_cons_zero, List.setIfInBounds_toArray, List.set_cons_zero, List.set_cons_succ])
          have HX := HN8.put4 5 rfl (.int .i64 l.x) (.int .i64 l.y) (.int .i64 l.w) (.int .i64 l.h)
          obtain ⟨⟨n0, n1, n2, n3⟩, m0, m1, m2, m3⟩ := (HN8.get 5 rfl).c4
          refine wpAnyH_ready (rs := [20]) (by kernel_rfl) (by simp) ?_
          refine AllReadyH.cons rfl (fun K hK => ?_) AllReadyH.nil
          go_simp
          clear k4_0 k4_f0 k4_1 k4_f1 k4_2 k4_f2 k4_3 k4_f3
          obtain ⟨⟨k4_0, k4_1, k4_2, k4_3⟩, ⟨k4_f0, k4_f1, k4_f2, k4_f3⟩⟩ := (HX.get 4 rfl).c4
          refine hK.out _ _ (by exact ⟨k4_0, k4_1, k4_2, k4_3⟩) (fun hHeld => ?_)
          clear hK K
          (try simp only [Act.put, List.getElem_toArray, List.getElem_cons_succ, List.getElem_cons_zero, List.setIfInBounds_toArray, List.set_cons_zero, List.set_cons_succ])
          refine wpAnyH_done (by kernel_rfl) ?_ _
          refine NoPanic.normal ?_
          clear hHeld n0 n1 n2 n3 m0 m1 m2 m3 k4_0 k4_f0 k4_1 k4_f1 k4_2 k4_f2 k4_3 k4_f3
          go_wp2_with fail
          go_meet
          exact ⟨_, rfl, HX.same rfl⟩
        · go_simp
          have HN10 := HN4.alloc #[.int .i64 0, .int .i64 0, .int .i64 0, .int .i64 0] 23
          simp only [List.nil_append, List.cons_append] at HN10
          obtain ⟨wn10, hwn⟩ : ∃ wz, wz = wd.alloc (.cells #[.int .i64 0, .int .i64 0, .int .i64 0, .int .i64 0] 23) := ⟨_, rfl⟩
          rewrite [← hwn] at HN10 ⊢
          obtain ⟨gn10, hgn⟩ : ∃ gz, gz = wd.heap.size := ⟨_, rfl⟩
          rewrite [← hgn] at HN10 ⊢
          have dgn10_0 : w.heap.size ≠ gn10 := by rw [hgn]; exact Nat.ne_of_lt (HN4.get 0 rfl).lt
          have egn10_0 : gn10 ≠ w.heap.size := dgn10_0.symm
          have dgn10_1 : w.heap.size + 1 ≠ gn10 := by rw [hgn]; exact Nat.ne_of_lt (HN4.get 1 rfl).lt
          have egn10_1 : gn10 ≠ w.heap.size + 1 := dgn10_1.symm
          have dgn10_2 : w.heap.size + 1 + 1 ≠ gn10 := by rw [hgn]; exact Nat.ne_of_lt (HN4.get 2 rfl).lt
          have egn10_2 : gn10 ≠ w.heap.size + 1 + 1 := dgn10_2.symm
          have dgn10_3 : w.heap.size + 1 + 1 + 1 ≠ gn10 := by rw [hgn]; exact Nat.ne_of_lt (HN4.get 3 rfl).lt
          have egn10_3 : gn10 ≠ w.heap.size + 1 + 1 + 1 := dgn10_3.symm
          have dgn10_4 : g5 ≠ gn10 := by rw [hgn]; exact Nat.ne_of_lt (HN4.get 4 rfl).lt
          have egn10_4 : gn10 ≠ g5 := dgn10_4.symm
          clear hwn hgn k4_0 k4_f0 k4_1 k4_f1 k4_2 k4_f2 k4_3 k4_f3
          obtain ⟨⟨k4_0, k4_1, k4_2, k4_3⟩, ⟨k4_f0, k4_f1, k4_f2, k4_f3⟩⟩ := (HN10.get 4 rfl).c4
          refine hK.out _ _ (by exact ⟨k4_0, k4_1, k4_2, k4_3⟩) (fun hHeld => ?_)
          clear hK K
          (try simp only [Act.put, List.getElem_toArray, List.getElem_cons_succ, List.getElem_cons_zero, List.setIfInBounds_toArray, List.set_cons_zero, List.set_cons_succ])
          refine wpAnyH_ready (rs := [18]) (by kernel_rfl) (by simp) ?_
          refine AllReadyH.cons rfl (fun K hK => ?_) AllReadyH.nil
          go_simp
          refine (HS.out _).mono ?_
          rintro e wn12 ⟨rfl, hb⟩
          have HN12 := HN10.next hb
          clear hb
          clear k4_0 k4_f0 k4_1 k4_f1 k4_2 k4_f2 k4_3 k4_f3
          obtain ⟨⟨k4_0, k4_1, k4_2, k4_3⟩, ⟨k4_f0, k4_f1, k4_f2, k4_f3⟩⟩ := (HN12.get 4 rfl).c4
          (try dsimp only)
          refine hK.out _ _ (by exact ⟨k4_0, k4_1, k4_2, k4_3⟩) (fun hHeld => ?_)
          clear hK K
          (try simp only [Act.put, List.getElem_toArray, List.getElem_cons_succ, List.getElem_cons_zero, List.setIfInBounds_toArray, List.set_cons_zero, List.set_cons_succ])
          have HX := HN12.put4 5 rfl (.int .i64 l.x) (.int .i64 l.y) (.int .i64 l.w) (.int .i64 l.h)
          obtain ⟨⟨n0, n1, n2, n3⟩, m0, m1, m2, m3⟩ := (HN12.get 5 rfl).c4
          refine wpAnyH_ready (rs := [20]) (by kernel_rfl) (by simp) ?_
          refine AllReadyH.cons rfl (fun K hK => ?_) AllReadyH.nil
          go_simp
          clear k4_0 k4_f0 k4_1 k4_f1 k4_2 k4_f2 k4_3 k4_f3
          obtain ⟨⟨k4_0, k4_1, k4_2, k4_3⟩, ⟨k4_f0, k4_f1, k4_f2, k4_f3⟩⟩ := (HX.get 4 rfl).c4
          refine hK.out _ _ (by exact ⟨k4_0, k4_1, k4_2, k4_3⟩) (fun hHeld => ?_)
          clear hK K
          (try simp only [Act.put, List.getElem_toArray, List.getElem_cons_succ, List.getElem_cons_zero, List.setIfInBounds_toArray, List.set_cons_zero, List.set_cons_succ])
          refine wpAnyH_done (by kernel_rfl) ?_ _
          refine NoPanic.normal ?_
          clear hHeld n0 n1 n2 n3 m0 m1 m2 m3 k4_0 k4_f0 k4_1 k4_f1 k4_2 k4_f2 k4_3 k4_f3
          go_wp2_with fail
          go_meet
          exact ⟨_, rfl, HX.same rfl⟩
      · go_simp
        have HN14 := HN2.alloc #[.int .i64 0, .int .i64 0, .int .i64 0, .int .i64 0] 23
        simp only [List.nil_append, List.cons_append] at HN14
        obtain ⟨wn14, hwn⟩ : ∃ wz, wz = wd.alloc (.cells #[.int .i64 0, .int .i64 0, .int .i64 0, .int .i64 0] 23) := ⟨_, rfl⟩
        rewrite [← hwn] at HN14 ⊢
        obtain ⟨gn14, hgn⟩ : ∃ gz, gz = wd.heap.size := ⟨_, rfl⟩
        rewrite [← hgn] at HN14 ⊢
        have dgn14_0 : w.heap.size ≠ gn14 := by rw [hgn]; exact Nat.ne_of_lt (HN2.get 0 rfl).lt
        have egn14_0 : gn14 ≠ w.heap.size := dgn14_0.symm
        have dgn14_1 : w.heap.size + 1 ≠ gn14 := by rw [hgn]; exact Nat.ne_of_lt (HN2.get 1 rfl).lt
        have egn14_1 : gn14 ≠ w.heap.size + 1 := dgn14_1.symm
        have dgn14_2 : w.heap.size + 1 + 1 ≠ gn14 := by rw [hgn]; exact Nat.ne_of_lt (HN2.get 2 rfl).lt
        have egn14_2 : gn14 ≠ w.heap.size + 1 + 1 := dgn14_2.symm
        have dgn14_3 : w.heap.size + 1 + 1 + 1 ≠ gn14 := by rw [hgn]; exact Nat.ne_of_lt (HN2.get 3 rfl).lt
        have egn14_3 : gn14 ≠ w.heap.size + 1 + 1 + 1 := dgn14_3.symm
        have dgn14_4 : g5 ≠ gn14 := by rw [hgn]; exact Nat.ne_of_lt (HN2.get 4 rfl).lt
        have egn14_4 : gn14 ≠ g5 := dgn14_4.symm
        clear hwn hgn k4_0 k4_f0 k4_1 k4_f1 k4_2 k4_f2 k4_3 k4_f3
        obtain ⟨⟨k4_0, k4_1, k4_2, k4_3⟩, ⟨k4_f0, k4_f1, k4_f2, k4_f3⟩⟩ := (HN14.get 4 rfl).c4
        refine hK.out _ _ (by exact ⟨k4_0, k4_1, k4_2, k4_3⟩) (fun hHeld => ?_)
        clear hK K
        (try simp only [Act.put, List.getElem_toArray, List.getElem_cons_succ, List.getElem_cons_zero, List.setIfInBounds_toArray, List.set_cons_zero, List.set_cons_succ])
        refine wpAnyH_ready (rs := [14]) (by kernel_rfl) (by simp) ?_
        refine AllReadyH.cons rfl (fun K hK => ?_) AllReadyH.nil
        go_simp
        refine (HY.out _).mono ?_
        rintro e wn16 ⟨rfl, rfl⟩
        have HN16 := HN14
        clear k4_0 k4_f0 k4_1 k4_f1 k4_2 k4_f2 k4_3 k4_f3
        obtain ⟨⟨k4_0, k4_1, k4_2, k4_3⟩, ⟨k4_f0, k4_f1, k4_f2, k4_f3⟩⟩ := (HN16.get 4 rfl).c4
        (try dsimp only)
        refine hK.out _ _ (by exact ⟨k4_0, k4_1, k4_2, k4_3⟩) (fun hHeld => ?_)
        clear hK K
        (try simp only [Act.put, List.getElem_toArray, List.getElem_cons_succ, List.getElem_cons_zero, List.setIfInBounds_toArray, List.set_cons_zero, List.set_cons_succ])
        refine wpAnyH_take (i := 15) (v := ?vz17x15) rfl (by kernel_rfl) (by kernel_rfl) (by kernel_rfl) (fun _ _ _ h => h) (Or.inl ⟨by kernel_rfl, ?yz17x15⟩) (by assumption) ?rz17x15
        case yz17x15 => (intro wq hSw; (try dsimp only at hSw); go_simp; (try with_reducible rfl))
        (try simp only [Act.put, List.getElem_toArray, List.getElem_cons_succ, List.getElem_cons_zero, List.setIfInBounds_toArray, List.set_cons_zero, List.set_cons_succ])
        refine wpAnyH_ready (rs := [18]) (by kernel_rfl) (by simp) ?_
        refine AllReadyH.cons rfl (fun K hK => ?_) AllReadyH.nil
        go_simp
        refine (HS.out _).mono ?_
        rintro e wn18 ⟨rfl, hb⟩
        have HN18 := HN16.next hb
        clear hb
        clear k4_0 k4_f0 k4_1 k4_f1 k4_2 k4_f2 k4_3 k4_f3
        obtain ⟨⟨k4_0, k4_1, k4_2, k4_3⟩, ⟨k4_f0, k4_f1, k4_f2, k4_f3⟩⟩ := (HN18.get 4 rfl).c4
        (try dsimp only)
        refine hK.out _ _ (by exact ⟨k4_0, k4_1, k4_2, k4_3⟩) (fun hHeld => ?_)
        clear hK K
        (try simp only [Act.put, List.getElem_toArray, List.getElem_cons_succ, List.getElem_cons_zero, List.setIfInBounds_toArray, List.set_cons_zero, List.set_cons_succ])
        have HX := HN18.put4 5 rfl (.int .i64 l.x) (.int .i64 l.y) (.int .i64 l.w) (.int .i64 l.h)
        obtain ⟨⟨n0, n1, n2, n3⟩, m0, m1, m2, m3⟩ := (HN18.get 5 rfl).c4
        refine wpAnyH_ready (rs := [20]) (by kernel_rfl) (by simp) ?_
        refine AllReadyH.cons rfl (fun K hK => ?_) AllReadyH.nil
        go_simp
        clear k4_0 k4_f0 k4_1 k4_f1 k4_2 k4_f2 k4_3 k4_f3
        obtain ⟨⟨k4_0, k4_1, k4_2, k4_3⟩, ⟨k4_f0, k4_f1, k4_f2, k4_f3⟩⟩ := (HX.get 4 rfl).c4
        refine hK.out _ _ (by exact ⟨k4_0, k4_1, k4_2, k4_3⟩) (fun hHeld => ?_)
        clear hK K
        (try simp only [Act.put, List.getElem_toArray, List.getElem_cons_succ, List.getElem_cons_zero, List.setIfInBounds_toArray, List.set_cons_zero, List.set_cons_succ])
        refine wpAnyH_done (by kernel_rfl) ?_ _
        refine NoPanic.normal ?_
        clear hHeld n0 n1 n2 n3 m0 m1 m2 m3 k4_0 k4_f0 k4_1 k4_f1 k4_2 k4_f2 k4_3 k4_f3
        go_wp2_with fail
        go_meet
        exact ⟨_, rfl, HX.same rfl⟩
    · go_simp
      have HN20 := HD.alloc #[.int .i64 0, .int .i64 0, .int .i64 0, .int .i64 0] 23
      simp only [List.nil_append, List.cons_append] at HN20
      obtain ⟨wn20, hwn⟩ : ∃ wz, wz = wd.alloc (.cells #[.int .i64 0, .int .i64 0, .int .i64 0, .int .i64 0] 23) := ⟨_, rfl⟩
      rewrite [← hwn] at HN20 ⊢
      obtain ⟨gn20, hgn⟩ : ∃ gz, gz = wd.heap.size := ⟨_, rfl⟩
      rewrite [← hgn] at HN20 ⊢
      have dgn20_0 : w.heap.size ≠ gn20 := by rw [hgn]; exact Nat.ne_of_lt (HD.get 0 rfl).lt
      have egn20_0 : gn20 ≠ w.heap.size := dgn20_0.symm
      have dgn20_1 : w.heap.size + 1 ≠ gn20 := by rw [hgn]; exact Nat.ne_of_lt (HD.get 1 rfl).lt
      have egn20_1 : gn20 ≠ w.heap.size + 1 := dgn20_1.symm
      have dgn20_2 : w.heap.size + 1 + 1 ≠ gn20 := by rw [hgn]; exact Nat.ne_of_lt (HD.get 2 rfl).lt
      have egn20_2 : gn20 ≠ w.heap.size + 1 + 1 := dgn20_2.symm
      have dgn20_3 : w.heap.size + 1 + 1 + 1 ≠ gn20 := by rw [hgn]; exact Nat.ne_of_lt (HD.get 3 rfl).lt
      have egn20_3 : gn20 ≠ w.heap.size + 1 + 1 + 1 := dgn20_3.symm
      have dgn20_4 : g5 ≠ gn20 := by rw [hgn]; exact Nat.ne_of_lt (HD.get 4 rfl).lt
      have egn20_4 : gn20 ≠ g5 := dgn20_4.symm
      clear hwn hgn k4_0 k4_f0 k4_1 k4_f1 k4_2 k4_f2 k4_3 k4_f3
      obtain ⟨⟨k4_0, k4_1, k4_2, k4_3⟩, ⟨k4_f0, k4_f1, k4_f2, k4_f3⟩⟩ := (HN20.get 4 rfl).c4
      refine hK.out _ _ (by exact ⟨k4_0, k4_1, k4_2, k4_3⟩) (fun hHeld => ?_)
      clear hK K
      (try simp only [Act.put, List.getElem_toArray, List.getElem_cons_succ, List.getElem_cons_zero, List.setIfInBounds_toArray, List.set_cons_zero, List.set_cons_succ])
      refine wpAnyH_ready (rs := [6]) (by kernel_rfl) (by simp) ?_
      refine AllReadyH.cons rfl (fun K hK => ?_) AllReadyH.nil
      go_simp
      refine (HX.out _).mono ?_
      rintro e wn22 ⟨rfl, rfl⟩
      have HN22 := HN20
      clear k4_0 k4_f0 k4_1 k4_f1 k4_2 k4_f2 k4_3 k4_f3
      obtain ⟨⟨k4_0, k4_1, k4_2, k4_3⟩, ⟨k4_f0, k4_f1, k4_f2, k4_f3⟩⟩ := (HN22.get 4 rfl).c4
      (try dsimp only)
      refine hK.out _ _ (by exact ⟨k4_0, k4_1, k4_2, k4_3⟩) (fun hHeld => ?_)
      clear hK K
      (try simp only [Act.put, List.getElem_toArray, List.getElem_cons_succ, List.getElem_cons_zero, List.setIfInBounds_toArray, List.set_cons_zero, List.set_cons_succ])
      refine wpAnyH_take (i := 7) (v := ?vz23x7) rfl (by kernel_rfl) (by kernel_rfl) (by kernel_rfl) (fun _ _ _ h => h) (Or.inl ⟨by kernel_rfl, ?yz23x7⟩) (by assumption) ?rz23x7
      case yz23x7 => (intro wq hSw; (try dsimp only at hSw); go_simp; (try with_reducible rfl))
      (try simp only [Act.put, List.getElem_toArray, List.getElem_cons_succ, List.getElem_cons_zero, List.setIfInBounds_toArray, List.set_cons_zero, List.set_cons_succ])
      refine wpAnyH_ready (rs := [14]) (by kernel_rfl) (by simp) ?_
      refine AllReadyH.cons rfl (fun K hK => ?_) AllReadyH.nil
      go_simp
      refine (HY.out _).mono ?_
      rintro e wn24 ⟨rfl, rfl⟩
      have HN24 := HN22
      clear k4_0 k4_f0 k4_1 k4_f1 k4_2 k4_f2 k4_3 k4_f3
      obtain ⟨⟨k4_0, k4_1, k4_2, k4_3⟩, ⟨k4_f0, k4_f1, k4_f2, k4_f3⟩⟩ := (HN24.get 4 rfl).c4
      (try dsimp only)
      refine hK.out _ _ (by exact ⟨k4_0, k4_1, k4_2, k4_3⟩) (fun hHeld => ?_)
      clear hK K
      (try simp only [Act.put, List.getElem_toArray, List.getElem_cons_succ, List.getElem_cons_zero, List.setIfInBounds_toArray, List.set_cons_zero, List.set_cons_succ])
      refine wpAnyH_take (i := 15) (v := ?vz25x15) rfl (by kernel_rfl) (by kernel_rfl) (by kernel_rfl) (fun _ _ _ h => h) (Or.inl ⟨by kernel_rfl, ?yz25x15⟩) (by assumption) ?rz25x15
      case yz25x15 => (intro wq hSw; (try dsimp only at hSw); go_simp; (try with_reducible rfl))
      (try simp only [Act.put, List.getElem_toArray, List.getElem_cons_succ, List.getElem_cons_zero, List.setIfInBounds_toArray, List.set_cons_zero, List.set_cons_succ])
      refine wpAnyH_ready (rs := [18]) (by kernel_rfl) (by simp) ?_
      refine AllReadyH.cons rfl (fun K hK => ?_) AllReadyH.nil
      go_simp
      refine (HS.out _).mono ?_
      rintro e wn26 ⟨rfl, hb⟩
      have HN26 := HN24.next hb
      clear hb
      clear k4_0 k4_f0 k4_1 k4_f1 k4_2 k4_f2 k4_3 k4_f3
      obtain ⟨⟨k4_0, k4_1, k4_2, k4_3⟩, ⟨k4_f0, k4_f1, k4_f2, k4_f3⟩⟩ := (HN26.get 4 rfl).c4
      (try dsimp only)
      refine hK.out _ _ (by exact ⟨k4_0, k4_1, k4_2, k4_3⟩) (fun hHeld => ?_)
      clear hK K
      (try simp only [Act.put, List.getElem_toArray, List.getElem_cons_succ, List.getElem_cons_zero, List.setIfInBounds_toArray, List.set_cons_zero, List.set_cons_succ])
      have HX := HN26.put4 5 rfl (.int .i64 l.x) (.int .i64 l.y) (.int .i64 l.w) (.int .i64 l.h)
      obtain ⟨⟨n0, n1, n2, n3⟩, m0, m1, m2, m3⟩ := (HN26.get 5 rfl).c4
      refine wpAnyH_ready (rs := [20]) (by kernel_rfl) (by simp) ?_
      refine AllReadyH.cons rfl (fun K hK => ?_) AllReadyH.nil
      go_simp
      clear k4_0 k4_f0 k4_1 k4_f1 k4_2 k4_f2 k4_3 k4_f3
      obtain ⟨⟨k4_0, k4_1, k4_2, k4_3⟩, ⟨k4_f0, k4_f1, k4_f2, k4_f3⟩⟩ := (HX.get 4 rfl).c4
      refine hK.out _ _ (by exact ⟨k4_0, k4_1, k4_2, k4_3⟩) (fun hHeld => ?_)
      clear hK K
      (try simp only [Act.put, List.getElem_toArray, List.getElem_cons_succ, List.getElem_cons_zero, List.setIfInBounds_toArray, List.set_cons_zero, List.set_cons_succ])
      refine wpAnyH_done (by kernel_rfl) ?_ _
      refine NoPanic.normal ?_
      clear hHeld n0 n1 n2 n3 m0 m1 m2 m3 k4_0 k4_f0 k4_1 k4_f1 k4_2 k4_f2 k4_3 k4_f3
      go_wp2_with fail
      go_meet
      exact ⟨_, rfl, HX.same rfl⟩
  case rest =>
  obtain ⟨gl, rfl, H8⟩ := hcut
  obtain ⟨⟨c1_0, c1_1, c1_2, c1_3⟩, ⟨f1_0, f1_1, f1_2, f1_3⟩⟩ := (H8.get 1 rfl).c4
  obtain ⟨⟨c3_0, c3_1, c3_2, c3_3⟩, ⟨f3_0, f3_1, f3_2, f3_3⟩⟩ := (H8.get 3 rfl).c4
  obtain ⟨⟨c5_0, c5_1, c5_2, c5_3⟩, ⟨f5_0, f5_1, f5_2, f5_3⟩⟩ := (H8.get 5 rfl).c4
  go_wp2_with fail
  with_reducible refine (HK.out _).mono ?_
  rintro e w9 ⟨rfl, hb⟩
  have H9 := H8.next hb
  clear hb H8
  clear c1_0 c1_1 c1_2 c1_3 f1_0 f1_1 f1_2 f1_3 c3_0 c3_1 c3_2 c3_3 f3_0 f3_1 f3_2 f3_3 c5_0 c5_1 c5_2 c5_3 f5_0 f5_1 f5_2 f5_3
  obtain ⟨⟨c3_0, c3_1, c3_2, c3_3⟩, ⟨f3_0, f3_1, f3_2, f3_3⟩⟩ := (H9.get 3 rfl).c4
  go_wp2_with fail
  refine bodyPost_ret (by simp [results, Try.results10, go_sem, c3_0, c3_1, c3_2, c3_3]; try rfl) rfl ?_
  exact ⟨n, a, b, by rw [HZ.out], HNF.out.1, by rw [← HMX.out, ← HMT.out]; exact HNF.out.2, (H9.put4 3 rfl _ _ _ _).below⟩
end Go.Proofs.Ytdmoncpeoaoppaa.Fl
