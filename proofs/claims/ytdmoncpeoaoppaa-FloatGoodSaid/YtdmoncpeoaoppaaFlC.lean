/- float's calls, walked: Start. -/
import Derived.Test.YtdmoncpeoaoppaaFlB
import Derived.Test.YtdmoncpeoaoppaaGeoG
import Derived.Test.YtdmoncpeoaoppaaSzL
import Derived.Lib.MinMax
namespace Go.Proofs.Ytdmoncpeoaoppaa.Fl
open Go.RowKit Sz
abbrev hnV (hh : Hn) : Value := .agg #[.int .i64 hh.minW, .int .i64 hh.minH, .int .i64 hh.maxW, .int .i64 hh.maxH, .int .i64 hh.baseW, .int .i64 hh.baseH, .int .i64 hh.incW, .int .i64 hh.incH, .int .i64 hh.lowX, .int .i64 hh.lowY, .int .i64 hh.highX, .int .i64 hh.highY]
set_option maxRecDepth 100000 in
set_option maxHeartbeats 4000000 in
theorem start_c (o v : Rc) (hh : Hn) (x t : Int) (w : World) : Calls Try.prog 9 #[rcV o, rcV v, hnV hh, .int .i64 x, .int .i64 t] w fun e w' => ∃ n a b, e = .returned (rcV (startR (ownR o (workR v)) (workR v) a b)) ∧ NormP hh n ∧ FitP n (min x (workR v).w) (min t (workR v).h) a b ∧ Below w.heap.size w w' := by
  cases hv : emptyR v
  · cases ho : emptyR o
    · have H0 := ((((Bk.start w).alloc #[.int .i64 o.x, .int .i64 o.y, .int .i64 o.w, .int .i64 o.h] 23).alloc #[.int .i64 v.x, .int .i64 v.y, .int .i64 v.w, .int .i64 v.h] 23).alloc #[.int .i64 hh.minW, .int .i64 hh.minH, .int .i64 hh.maxW, .int .i64 hh.maxH, .int .i64 hh.baseW, .int .i64 hh.baseH, .int .i64 hh.incW, .int .i64 hh.incH, .int .i64 hh.lowX, .int .i64 hh.lowY, .int .i64 hh.highX, .int .i64 hh.highY] 25).alloc #[.int .i64 0, .int .i64 0, .int .i64 0, .int .i64 0] 23
      simp only [World.size_alloc, List.nil_append, List.cons_append] at H0
      have HV := Lib.hid (fun W => empty_c v.x v.y v.w v.h W)
      have HO := Lib.hid (fun W => empty_c o.x o.y o.w o.h W)
      rw [show emptyB v.x v.y v.w v.h = false from hv] at HV
      rw [show emptyB o.x o.y o.w o.h = false from ho] at HO
      have ew : workR v = v := if_neg (by rw [show emptyB v.x v.y v.w v.h = false from hv]; exact Bool.false_ne_true)
      have eo : ownR o v = o := if_neg (by rw [show emptyB o.x o.y o.w o.h = false from ho]; exact Bool.false_ne_true)
      have bo := (emptyR_iff o).1 (by first | exact hv | exact ho)
      have bw := (emptyR_iff v).1 (by exact hv)
      rw [ew, eo]
      clear ew eo hv ho
      have HF := Lib.hid (fun W => fit_c hh (min x v.w) (min t v.h) W)
      go_enter Try.func9, Try.ntmps9
      go_wp2_with fail
      with_reducible refine (HV.out _).mono ?_
      rintro e w1 ⟨rfl, hb⟩
      have H1 := H0.next hb
      clear hb H0
      obtain ⟨⟨c0_0, c0_1, c0_2, c0_3⟩, ⟨f0_0, f0_1, f0_2, f0_3⟩⟩ := (H1.get 0 rfl).c4
      obtain ⟨⟨c1_0, c1_1, c1_2, c1_3⟩, ⟨f1_0, f1_1, f1_2, f1_3⟩⟩ := (H1.get 1 rfl).c4
      obtain ⟨⟨c2_0, c2_1, c2_2, c2_3, c2_4, c2_5, c2_6, c2_7, c2_8, c2_9, c2_10, c2_11⟩, -⟩ := HB.out (H1.get 2 rfl)
      go_wp2_with fail
      with_reducible refine (HO.out _).mono ?_
      rintro e w2 ⟨rfl, hb⟩
      have H2 := H1.next hb
      clear hb H1
      clear c0_0 c0_1 c0_2 c0_3 f0_0 f0_1 f0_2 f0_3 c1_0 c1_1 c1_2 c1_3 f1_0 f1_1 f1_2 f1_3 c2_0 c2_1 c2_2 c2_3 c2_4 c2_5 c2_6 c2_7 c2_8 c2_9 c2_10 c2_11
      obtain ⟨⟨c0_0, c0_1, c0_2, c0_3⟩, ⟨f0_0, f0_1, f0_2, f0_3⟩⟩ := (H2.get 0 rfl).c4
      obtain ⟨⟨c1_0, c1_1, c1_2, c1_3⟩, ⟨f1_0, f1_1, f1_2, f1_3⟩⟩ := (H2.get 1 rfl).c4
      obtain ⟨⟨c2_0, c2_1, c2_2, c2_3, c2_4, c2_5, c2_6, c2_7, c2_8, c2_9, c2_10, c2_11⟩, -⟩ := HB.out (H2.get 2 rfl)
      go_wp2_with fail
      with_reducible refine (HF.out _).mono ?_
      rintro e w3 ⟨n, a, b, rfl, hN, hF, hb⟩
      have H3 := H2.next hb
      clear hb H2
      clear c0_0 c0_1 c0_2 c0_3 f0_0 f0_1 f0_2 f0_3 c1_0 c1_1 c1_2 c1_3 f1_0 f1_1 f1_2 f1_3 c2_0 c2_1 c2_2 c2_3 c2_4 c2_5 c2_6 c2_7 c2_8 c2_9 c2_10 c2_11
      obtain ⟨⟨c0_0, c0_1, c0_2, c0_3⟩, ⟨f0_0, f0_1, f0_2, f0_3⟩⟩ := (H3.get 0 rfl).c4
      obtain ⟨⟨c1_0, c1_1, c1_2, c1_3⟩, ⟨f1_0, f1_1, f1_2, f1_3⟩⟩ := (H3.get 1 rfl).c4
      obtain ⟨⟨c2_0, c2_1, c2_2, c2_3, c2_4, c2_5, c2_6, c2_7, c2_8, c2_9, c2_10, c2_11⟩, -⟩ := HB.out (H3.get 2 rfl)
      obtain ⟨⟨a1, a2⟩, b1, b2⟩ := fit_b hN.right.1 hF
      have HX := Lib.hid (fun W => middle_c o.x o.w a W (by (try simp only at *); omega) (by (try simp only at *); omega) (by omega))
      have HY := Lib.hid (fun W => middle_c o.y o.h b W (by (try simp only at *); omega) (by (try simp only at *); omega) (by omega))
      have mx : -1000000 ≤ midI o.x o.w a ∧ midI o.x o.w a ≤ 1000000 := by unfold midI; (try simp only at *); omega
      have my : -1000000 ≤ midI o.y o.h b ∧ midI o.y o.h b ≤ 1000000 := by unfold midI; (try simp only at *); omega
      have HS := Lib.hid (fun W => sized_c (midI o.x o.w a) (midI o.y o.h b) a b W mx my)
      have eS : startR o v a b = keepRR (laidR (midI o.x o.w a) (midI o.y o.h b) a b) v := rfl
      generalize laidR (midI o.x o.w a) (midI o.y o.h b) a b = l at HS eS
      generalize midI o.x o.w a = p at HX HS
      generalize midI o.y o.h b = q at HY HS
      have HK := Lib.hid (fun W => keep_c l.x l.y l.w l.h v.x v.y v.w v.h W)
      have eK : keepR l.x l.y l.w l.h v.x v.y v.w v.h = keepRR l v := rfl
      rw [eK, ← eS] at HK
      have HNF := Lib.hid (And.intro hN hF)
      obtain ⟨z, hz⟩ : ∃ z, z = startR o v a b := ⟨_, rfl⟩
      rw [← hz] at HK
      have HZ := Lib.hid hz
      clear hz eS eK hN hF bo bw mx my a1 a2 b1 b2
      go_wp2_with fail
      with_reducible refine (HX.out _).mono ?_
      rintro e w' ⟨rfl, rfl⟩
      go_wp2_with fail
      with_reducible refine (HY.out _).mono ?_
      rintro e w' ⟨rfl, rfl⟩
      go_upto_region 8 with fail
      clear c0_0 c0_1 c0_2 c0_3 f0_0 f0_1 f0_2 f0_3 c1_0 c1_1 c1_2 c1_3 f1_0 f1_1 f1_2 f1_3 c2_0 c2_1 c2_2 c2_3 c2_4 c2_5 c2_6 c2_7 c2_8 c2_9 c2_10 c2_11
      obtain ⟨⟨k1_0, k1_1, k1_2, k1_3⟩, ⟨k1_f0, k1_f1, k1_f2, k1_f3⟩⟩ := (H3.get 1 rfl).c4; obtain ⟨⟨k3_0, k3_1, k3_2, k3_3⟩, ⟨k3_f0, k3_f1, k3_f2, k3_f3⟩⟩ := (H3.get 3 rfl).c4
      refine wp_region_noPanic ?_
      refine wp_region_held_drew (S := fun wx => wx.cell? ⟨w.heap.size + 1, 0, none⟩ = some (.int .i64 v.x) ∧ wx.cell? ⟨w.heap.size + 1, 1, none⟩ = some (.int .i64 v.y) ∧ wx.cell? ⟨w.heap.size + 1, 2, none⟩ = some (.int .i64 v.w) ∧ wx.cell? ⟨w.heap.size + 1, 3, none⟩ = some (.int .i64 v.h)) (by kernel_rfl) (by exact ⟨k1_0, k1_1, k1_2, k1_3⟩) (fun hHeld => ?_)
      refine wpAnyH_take (i := 0) (v := ?vq1x0) rfl (by kernel_rfl) (by kernel_rfl) (by kernel_rfl) (fun _ _ _ h => h) (Or.inl ⟨by kernel_rfl, ?yq1x0⟩) (by assumption) ?rq1x0
      case yq1x0 => (intro wq hSw; (try dsimp only at hSw); go_simp; (try with_reducible rfl))
      (try simp only [Act.put, List.getElem_toArray, List.getElem_cons_zero, List.setIfInBounds_toArray, List.set_cons_zero, List.set_cons_succ])
      refine wpAnyH_take (i := 1) (v := ?vq1x1) rfl (by kernel_rfl) (by kernel_rfl) (by kernel_rfl) (fun _ _ _ h => h) (Or.inl ⟨by kernel_rfl, ?yq1x1⟩) (by assumption) ?rq1x1
      case yq1x1 => (intro wq hSw; (try dsimp only at hSw); go_simp; (try with_reducible rfl))
      (try simp only [Act.put, List.getElem_toArray, List.getElem_cons_succ, List.getElem_cons_zero, List.setIfInBounds_toArray, List.set_cons_zero, List.set_cons_succ])
      refine wpAnyH_take (i := 2) (v := ?vq1x2) rfl (by kernel_rfl) (by kernel_rfl) (by kernel_rfl) (fun _ _ _ h => h) (Or.inl ⟨by kernel_rfl, ?yq1x2⟩) (by assumption) ?rq1x2
      case yq1x2 => (intro wq hSw; (try dsimp only at hSw); go_simp; (try with_reducible rfl))
      (try simp only [Act.put, List.getElem_toArray, List.getElem_cons_succ, List.getElem_cons_zero, List.setIfInBounds_toArray, List.set_cons_zero, List.set_cons_succ])
      refine wpAnyH_take (i := 3) (v := ?vq1x3) rfl (by kernel_rfl) (by kernel_rfl) (by kernel_rfl) (fun _ _ _ h => h) (Or.inl ⟨by kernel_rfl, ?yq1x3⟩) (by assumption) ?rq1x3
      case yq1x3 => (intro wq hSw; (try dsimp only at hSw); go_simp; (try with_reducible rfl))
      (try simp only [Act.put, List.getElem_toArray, List.getElem_cons_succ, List.getElem_cons_zero, List.setIfInBounds_toArray, List.set_cons_zero, List.set_cons_succ])
      refine wpAnyH_take (i := 5) (v := ?vq1x5) rfl (by kernel_rfl) (by kernel_rfl) (by kernel_rfl) (fun _ _ _ h => h) (Or.inl ⟨by kernel_rfl, ?yq1x5⟩) (by assumption) ?rq1x5
      case yq1x5 => (intro wq hSw; (try dsimp only at hSw); go_simp; (try with_reducible rfl))
      (try simp only [Act.put, List.getElem_toArray, List.getElem_cons_succ, List.getElem_cons_zero, List.setIfInBounds_toArray, List.set_cons_zero, List.set_cons_succ])
      refine wpAnyH_ready (rs := [4]) (by kernel_rfl) (by simp) ?_
      refine AllReadyH.cons rfl (fun K hK => ?_) AllReadyH.nil
      go_simp
      refine (HS.out _).mono ?_
      rintro e w4 ⟨rfl, hb⟩; have H4 := H3.drew.next hb; clear hb H3 k1_0 k1_f0 k1_1 k1_f1 k1_2 k1_f2 k1_3 k1_f3 k3_0 k3_f0 k3_1 k3_f1 k3_2 k3_f2 k3_3 k3_f3; obtain ⟨⟨k1_0, k1_1, k1_2, k1_3⟩, ⟨k1_f0, k1_f1, k1_f2, k1_f3⟩⟩ := (H4.get 1 rfl).c4; obtain ⟨⟨k3_0, k3_1, k3_2, k3_3⟩, ⟨k3_f0, k3_f1, k3_f2, k3_f3⟩⟩ := (H4.get 3 rfl).c4
      (try dsimp only)
      refine hK.out _ _ (by exact ⟨k1_0, k1_1, k1_2, k1_3⟩) (fun hHeld => ?_)
      clear hK K
      (try simp only [Act.put, List.getElem_toArray, List.getElem_cons_succ, List.getElem_cons_zero, List.setIfInBounds_toArray, List.set_cons_zero, List.set_cons_succ])
      refine wpAnyH_ready (rs := [6]) (by kernel_rfl) (by simp) ?_
      refine AllReadyH.cons rfl (fun K hK => ?_) AllReadyH.nil
      go_simp
      refine (HK.out _).mono ?_
      rintro e w5 ⟨rfl, hb⟩; have H5 := H4.next hb; clear hb H4 k1_0 k1_f0 k1_1 k1_f1 k1_2 k1_f2 k1_3 k1_f3 k3_0 k3_f0 k3_1 k3_f1 k3_2 k3_f2 k3_3 k3_f3; obtain ⟨⟨k1_0, k1_1, k1_2, k1_3⟩, ⟨k1_f0, k1_f1, k1_f2, k1_f3⟩⟩ := (H5.get 1 rfl).c4; obtain ⟨⟨k3_0, k3_1, k3_2, k3_3⟩, ⟨k3_f0, k3_f1, k3_f2, k3_f3⟩⟩ := (H5.get 3 rfl).c4
      (try dsimp only)
      refine hK.out _ _ (by exact ⟨k1_0, k1_1, k1_2, k1_3⟩) (fun hHeld => ?_)
      clear hK K
      (try simp only [Act.put, List.getElem_toArray, List.getElem_cons_succ, List.getElem_cons_zero, List.setIfInBounds_toArray, List.set_cons_zero, List.set_cons_succ])
      refine wpAnyH_ready (rs := [7]) (by kernel_rfl) (by simp) ?_
      refine AllReadyH.cons rfl (fun K hK => ?_) AllReadyH.nil
      go_simp
      refine hK.out _ _ (by (have HX := H5.put4 3 rfl (.int .i64 z.x) (.int .i64 z.y) (.int .i64 z.w) (.int .i64 z.h); obtain ⟨⟨k1_0, k1_1, k1_2, k1_3⟩, ⟨k1_f0, k1_f1, k1_f2, k1_f3⟩⟩ := (HX.get 1 rfl).c4; exact ⟨k1_0, k1_1, k1_2, k1_3⟩)) (fun hHeld => ?_)
      clear hK K
      (try simp only [Act.put, List.getElem_toArray, List.getElem_cons_succ, List.getElem_cons_zero, List.setIfInBounds_toArray, List.set_cons_zero, List.set_cons_succ])
      refine wpAnyH_done (by kernel_rfl) ?_ _
      refine NoPanic.normal ?_
      go_wp2_with fail
      refine bodyPost_ret (by simp [results, Try.results9, go_sem, k3_0, k3_1, k3_2, k3_3]; try rfl) rfl ?_
      exact ⟨n, a, b, by rw [HZ.out], HNF.out.1, HNF.out.2, (H5.put4 3 rfl _ _ _ _).below⟩
    · have H0 := ((((Bk.start w).alloc #[.int .i64 o.x, .int .i64 o.y, .int .i64 o.w, .int .i64 o.h] 23).alloc #[.int .i64 v.x, .int .i64 v.y, .int .i64 v.w, .int .i64 v.h] 23).alloc #[.int .i64 hh.minW, .int .i64 hh.minH, .int .i64 hh.maxW, .int .i64 hh.maxH, .int .i64 hh.baseW, .int .i64 hh.baseH, .int .i64 hh.incW, .int .i64 hh.incH, .int .i64 hh.lowX, .int .i64 hh.lowY, .int .i64 hh.highX, .int .i64 hh.highY] 25).alloc #[.int .i64 0, .int .i64 0, .int .i64 0, .int .i64 0] 23
      simp only [World.size_alloc, List.nil_append, List.cons_append] at H0
      have HV := Lib.hid (fun W => empty_c v.x v.y v.w v.h W)
      have HO := Lib.hid (fun W => empty_c o.x o.y o.w o.h W)
      rw [show emptyB v.x v.y v.w v.h = false from hv] at HV
      rw [show emptyB o.x o.y o.w o.h = true from ho] at HO
      have ew : workR v = v := if_neg (by rw [show emptyB v.x v.y v.w v.h = false from hv]; exact Bool.false_ne_true)
      have eo : ownR o v = v := if_pos ho
      have bo := (emptyR_iff v).1 (by first | exact hv | exact ho)
      have bw := (emptyR_iff v).1 (by exact hv)
      rw [ew, eo]
      clear ew eo hv ho
      have HF := Lib.hid (fun W => fit_c hh (min x v.w) (min t v.h) W)
      go_enter Try.func9, Try.ntmps9
      go_wp2_with fail
      with_reducible refine (HV.out _).mono ?_
      rintro e w1 ⟨rfl, hb⟩
      have H1 := H0.next hb
      clear hb H0
      obtain ⟨⟨c0_0, c0_1, c0_2, c0_3⟩, ⟨f0_0, f0_1, f0_2, f0_3⟩⟩ := (H1.get 0 rfl).c4
      obtain ⟨⟨c1_0, c1_1, c1_2, c1_3⟩, ⟨f1_0, f1_1, f1_2, f1_3⟩⟩ := (H1.get 1 rfl).c4
      obtain ⟨⟨c2_0, c2_1, c2_2, c2_3, c2_4, c2_5, c2_6, c2_7, c2_8, c2_9, c2_10, c2_11⟩, -⟩ := HB.out (H1.get 2 rfl)
      go_wp2_with fail
      with_reducible refine (HO.out _).mono ?_
      rintro e w2 ⟨rfl, hb⟩
      have H2 := H1.next hb
      clear hb H1
      clear c0_0 c0_1 c0_2 c0_3 f0_0 f0_1 f0_2 f0_3 c1_0 c1_1 c1_2 c1_3 f1_0 f1_1 f1_2 f1_3 c2_0 c2_1 c2_2 c2_3 c2_4 c2_5 c2_6 c2_7 c2_8 c2_9 c2_10 c2_11
      obtain ⟨⟨c0_0, c0_1, c0_2, c0_3⟩, ⟨f0_0, f0_1, f0_2, f0_3⟩⟩ := (H2.get 0 rfl).c4
      obtain ⟨⟨c1_0, c1_1, c1_2, c1_3⟩, ⟨f1_0, f1_1, f1_2, f1_3⟩⟩ := (H2.get 1 rfl).c4
      obtain ⟨⟨c2_0, c2_1, c2_2, c2_3, c2_4, c2_5, c2_6, c2_7, c2_8, c2_9, c2_10, c2_11⟩, -⟩ := HB.out (H2.get 2 rfl)
      go_wp2_with fail
      with_reducible refine (HF.out _).mono ?_
      rintro e w3 ⟨n, a, b, rfl, hN, hF, hb⟩
      have H3 : Bk w [(w.heap.size, 23, #[.int .i64 v.x, .int .i64 v.y, .int .i64 v.w, .int .i64 v.h]), (w.heap.size + 1, 23, #[.int .i64 v.x, .int .i64 v.y, .int .i64 v.w, .int .i64 v.h]), (w.heap.size + 1 + 1, 25, #[.int .i64 hh.minW, .int .i64 hh.minH, .int .i64 hh.maxW, .int .i64 hh.maxH, .int .i64 hh.baseW, .int .i64 hh.baseH, .int .i64 hh.incW, .int .i64 hh.incH, .int .i64 hh.lowX, .int .i64 hh.lowY, .int .i64 hh.highX, .int .i64 hh.highY]), (w.heap.size + 1 + 1 + 1, 23, #[.int .i64 0, .int .i64 0, .int .i64 0, .int .i64 0])] w3 := ((H2.put4 0 rfl (.int .i64 v.x) (.int .i64 v.y) (.int .i64 v.w) (.int .i64 v.h)).same rfl).next hb
      clear hb H2
      clear c0_0 c0_1 c0_2 c0_3 f0_0 f0_1 f0_2 f0_3 c1_0 c1_1 c1_2 c1_3 f1_0 f1_1 f1_2 f1_3 c2_0 c2_1 c2_2 c2_3 c2_4 c2_5 c2_6 c2_7 c2_8 c2_9 c2_10 c2_11
      obtain ⟨⟨c0_0, c0_1, c0_2, c0_3⟩, ⟨f0_0, f0_1, f0_2, f0_3⟩⟩ := (H3.get 0 rfl).c4
      obtain ⟨⟨c1_0, c1_1, c1_2, c1_3⟩, ⟨f1_0, f1_1, f1_2, f1_3⟩⟩ := (H3.get 1 rfl).c4
      obtain ⟨⟨c2_0, c2_1, c2_2, c2_3, c2_4, c2_5, c2_6, c2_7, c2_8, c2_9, c2_10, c2_11⟩, -⟩ := HB.out (H3.get 2 rfl)
      obtain ⟨⟨a1, a2⟩, b1, b2⟩ := fit_b hN.right.1 hF
      have HX := Lib.hid (fun W => middle_c v.x v.w a W (by (try simp only at *); omega) (by (try simp only at *); omega) (by omega))
      have HY := Lib.hid (fun W => middle_c v.y v.h b W (by (try simp only at *); omega) (by (try simp only at *); omega) (by omega))
      have mx : -1000000 ≤ midI v.x v.w a ∧ midI v.x v.w a ≤ 1000000 := by unfold midI; (try simp only at *); omega
      have my : -1000000 ≤ midI v.y v.h b ∧ midI v.y v.h b ≤ 1000000 := by unfold midI; (try simp only at *); omega
      have HS := Lib.hid (fun W => sized_c (midI v.x v.w a) (midI v.y v.h b) a b W mx my)
      have eS : startR v v a b = keepRR (laidR (midI v.x v.w a) (midI v.y v.h b) a b) v := rfl
      generalize laidR (midI v.x v.w a) (midI v.y v.h b) a b = l at HS eS
      generalize midI v.x v.w a = p at HX HS
      generalize midI v.y v.h b = q at HY HS
      have HK := Lib.hid (fun W => keep_c l.x l.y l.w l.h v.x v.y v.w v.h W)
      have eK : keepR l.x l.y l.w l.h v.x v.y v.w v.h = keepRR l v := rfl
      rw [eK, ← eS] at HK
      have HNF := Lib.hid (And.intro hN hF)
      obtain ⟨z, hz⟩ : ∃ z, z = startR v v a b := ⟨_, rfl⟩
      rw [← hz] at HK
      have HZ := Lib.hid hz
      clear hz eS eK hN hF bo bw mx my a1 a2 b1 b2
      go_wp2_with fail
      with_reducible refine (HX.out _).mono ?_
      rintro e w' ⟨rfl, rfl⟩
      go_wp2_with fail
      with_reducible refine (HY.out _).mono ?_
      rintro e w' ⟨rfl, rfl⟩
      go_upto_region 8 with fail
      clear c0_0 c0_1 c0_2 c0_3 f0_0 f0_1 f0_2 f0_3 c1_0 c1_1 c1_2 c1_3 f1_0 f1_1 f1_2 f1_3 c2_0 c2_1 c2_2 c2_3 c2_4 c2_5 c2_6 c2_7 c2_8 c2_9 c2_10 c2_11
      obtain ⟨⟨k1_0, k1_1, k1_2, k1_3⟩, ⟨k1_f0, k1_f1, k1_f2, k1_f3⟩⟩ := (H3.get 1 rfl).c4; obtain ⟨⟨k3_0, k3_1, k3_2, k3_3⟩, ⟨k3_f0, k3_f1, k3_f2, k3_f3⟩⟩ := (H3.get 3 rfl).c4
      refine wp_region_noPanic ?_
      refine wp_region_held_drew (S := fun wx => wx.cell? ⟨w.heap.size + 1, 0, none⟩ = some (.int .i64 v.x) ∧ wx.cell? ⟨w.heap.size + 1, 1, none⟩ = some (.int .i64 v.y) ∧ wx.cell? ⟨w.heap.size + 1, 2, none⟩ = some (.int .i64 v.w) ∧ wx.cell? ⟨w.heap.size + 1, 3, none⟩ = some (.int .i64 v.h)) (by kernel_rfl) (by exact ⟨k1_0, k1_1, k1_2, k1_3⟩) (fun hHeld => ?_)
      refine wpAnyH_take (i := 0) (v := ?vq2x0) rfl (by kernel_rfl) (by kernel_rfl) (by kernel_rfl) (fun _ _ _ h => h) (Or.inl ⟨by kernel_rfl, ?yq2x0⟩) (by assumption) ?rq2x0
      case yq2x0 => (intro wq hSw; (try dsimp only at hSw); go_simp; (try with_reducible rfl))
      (try simp only [Act.put, List.getElem_toArray, List.getElem_cons_zero, List.setIfInBounds_toArray, List.set_cons_zero, List.set_cons_succ])
      refine wpAnyH_take (i := 1) (v := ?vq2x1) rfl (by kernel_rfl) (by kernel_rfl) (by kernel_rfl) (fun _ _ _ h => h) (Or.inl ⟨by kernel_rfl, ?yq2x1⟩) (by assumption) ?rq2x1
      case yq2x1 => (intro wq hSw; (try dsimp only at hSw); go_simp; (try with_reducible rfl))
      (try simp only [Act.put, List.getElem_toArray, List.getElem_cons_succ, List.getElem_cons_zero, List.setIfInBounds_toArray, List.set_cons_zero, List.set_cons_succ])
      refine wpAnyH_take (i := 2) (v := ?vq2x2) rfl (by kernel_rfl) (by kernel_rfl) (by kernel_rfl) (fun _ _ _ h => h) (Or.inl ⟨by kernel_rfl, ?yq2x2⟩) (by assumption) ?rq2x2
      case yq2x2 => (intro wq hSw; (try dsimp only at hSw); go_simp; (try with_reducible rfl))
      (try simp only [Act.put, List.getElem_toArray, List.getElem_cons_succ, List.getElem_cons_zero, List.setIfInBounds_toArray, List.set_cons_zero, List.set_cons_succ])
      refine wpAnyH_take (i := 3) (v := ?vq2x3) rfl (by kernel_rfl) (by kernel_rfl) (by kernel_rfl) (fun _ _ _ h => h) (Or.inl ⟨by kernel_rfl, ?yq2x3⟩) (by assumption) ?rq2x3
      case yq2x3 => (intro wq hSw; (try dsimp only at hSw); go_simp; (try with_reducible rfl))
      (try simp only [Act.put, List.getElem_toArray, List.getElem_cons_succ, List.getElem_cons_zero, List.setIfInBounds_toArray, List.set_cons_zero, List.set_cons_succ])
      refine wpAnyH_take (i := 5) (v := ?vq2x5) rfl (by kernel_rfl) (by kernel_rfl) (by kernel_rfl) (fun _ _ _ h => h) (Or.inl ⟨by kernel_rfl, ?yq2x5⟩) (by assumption) ?rq2x5
      case yq2x5 => (intro wq hSw; (try dsimp only at hSw); go_simp; (try with_reducible rfl))
      (try simp only [Act.put, List.getElem_toArray, List.getElem_cons_succ, List.getElem_cons_zero, List.setIfInBounds_toArray, List.set_cons_zero, List.set_cons_succ])
      refine wpAnyH_ready (rs := [4]) (by kernel_rfl) (by simp) ?_
      refine AllReadyH.cons rfl (fun K hK => ?_) AllReadyH.nil
      go_simp
      refine (HS.out _).mono ?_
      rintro e w4 ⟨rfl, hb⟩; have H4 := H3.drew.next hb; clear hb H3 k1_0 k1_f0 k1_1 k1_f1 k1_2 k1_f2 k1_3 k1_f3 k3_0 k3_f0 k3_1 k3_f1 k3_2 k3_f2 k3_3 k3_f3; obtain ⟨⟨k1_0, k1_1, k1_2, k1_3⟩, ⟨k1_f0, k1_f1, k1_f2, k1_f3⟩⟩ := (H4.get 1 rfl).c4; obtain ⟨⟨k3_0, k3_1, k3_2, k3_3⟩, ⟨k3_f0, k3_f1, k3_f2, k3_f3⟩⟩ := (H4.get 3 rfl).c4
      (try dsimp only)
      refine hK.out _ _ (by exact ⟨k1_0, k1_1, k1_2, k1_3⟩) (fun hHeld => ?_)
      clear hK K
      (try simp only [Act.put, List.getElem_toArray, List.getElem_cons_succ, List.getElem_cons_zero, List.setIfInBounds_toArray, List.set_cons_zero, List.set_cons_succ])
      refine wpAnyH_ready (rs := [6]) (by kernel_rfl) (by simp) ?_
      refine AllReadyH.cons rfl (fun K hK => ?_) AllReadyH.nil
      go_simp
      refine (HK.out _).mono ?_
      rintro e w5 ⟨rfl, hb⟩; have H5 := H4.next hb; clear hb H4 k1_0 k1_f0 k1_1 k1_f1 k1_2 k1_f2 k1_3 k1_f3 k3_0 k3_f0 k3_1 k3_f1 k3_2 k3_f2 k3_3 k3_f3; obtain ⟨⟨k1_0, k1_1, k1_2, k1_3⟩, ⟨k1_f0, k1_f1, k1_f2, k1_f3⟩⟩ := (H5.get 1 rfl).c4; obtain ⟨⟨k3_0, k3_1, k3_2, k3_3⟩, ⟨k3_f0, k3_f1, k3_f2, k3_f3⟩⟩ := (H5.get 3 rfl).c4
      (try dsimp only)
      refine hK.out _ _ (by exact ⟨k1_0, k1_1, k1_2, k1_3⟩) (fun hHeld => ?_)
      clear hK K
      (try simp only [Act.put, List.getElem_toArray, List.getElem_cons_succ, List.getElem_cons_zero, List.setIfInBounds_toArray, List.set_cons_zero, List.set_cons_succ])
      refine wpAnyH_ready (rs := [7]) (by kernel_rfl) (by simp) ?_
      refine AllReadyH.cons rfl (fun K hK => ?_) AllReadyH.nil
      go_simp
      refine hK.out _ _ (by (have HX := H5.put4 3 rfl (.int .i64 z.x) (.int .i64 z.y) (.int .i64 z.w) (.int .i64 z.h); obtain ⟨⟨k1_0, k1_1, k1_2, k1_3⟩, ⟨k1_f0, k1_f1, k1_f2, k1_f3⟩⟩ := (HX.get 1 rfl).c4; exact ⟨k1_0, k1_1, k1_2, k1_3⟩)) (fun hHeld => ?_)
      clear hK K
      (try simp only [Act.put, List.getElem_toArray, List.getElem_cons_succ, List.getElem_cons_zero, List.setIfInBounds_toArray, List.set_cons_zero, List.set_cons_succ])
      refine wpAnyH_done (by kernel_rfl) ?_ _
      refine NoPanic.normal ?_
      go_wp2_with fail
      refine bodyPost_ret (by simp [results, Try.results9, go_sem, k3_0, k3_1, k3_2, k3_3]; try rfl) rfl ?_
      exact ⟨n, a, b, by rw [HZ.out], HNF.out.1, HNF.out.2, (H5.put4 3 rfl _ _ _ _).below⟩
  · cases ho : emptyR o
    · have H0 := ((((Bk.start w).alloc #[.int .i64 o.x, .int .i64 o.y, .int .i64 o.w, .int .i64 o.h] 23).alloc #[.int .i64 v.x, .int .i64 v.y, .int .i64 v.w, .int .i64 v.h] 23).alloc #[.int .i64 hh.minW, .int .i64 hh.minH, .int .i64 hh.maxW, .int .i64 hh.maxH, .int .i64 hh.baseW, .int .i64 hh.baseH, .int .i64 hh.incW, .int .i64 hh.incH, .int .i64 hh.lowX, .int .i64 hh.lowY, .int .i64 hh.highX, .int .i64 hh.highY] 25).alloc #[.int .i64 0, .int .i64 0, .int .i64 0, .int .i64 0] 23
      simp only [World.size_alloc, List.nil_append, List.cons_append] at H0
      have HV := Lib.hid (fun W => empty_c v.x v.y v.w v.h W)
      have HO := Lib.hid (fun W => empty_c o.x o.y o.w o.h W)
      rw [show emptyB v.x v.y v.w v.h = true from hv] at HV
      rw [show emptyB o.x o.y o.w o.h = false from ho] at HO
      have ew : workR v = (⟨0, 0, 1, 1⟩ : Rc) := if_pos hv
      have eo : ownR o (⟨0, 0, 1, 1⟩ : Rc) = o := if_neg (by rw [show emptyB o.x o.y o.w o.h = false from ho]; exact Bool.false_ne_true)
      have bo := (emptyR_iff o).1 (by first | exact hv | exact ho)
      have bw := (emptyR_iff (⟨0, 0, 1, 1⟩ : Rc)).1 (by decide)
      rw [ew, eo]
      clear ew eo hv ho
      have HF := Lib.hid (fun W => fit_c hh (min x 1) (min t 1) W)
      go_enter Try.func9, Try.ntmps9
      go_wp2_with fail
      with_reducible refine (HV.out _).mono ?_
      rintro e w1 ⟨rfl, hb⟩
      have H1 := H0.next hb
      clear hb H0
      obtain ⟨⟨c0_0, c0_1, c0_2, c0_3⟩, ⟨f0_0, f0_1, f0_2, f0_3⟩⟩ := (H1.get 0 rfl).c4
      obtain ⟨⟨c1_0, c1_1, c1_2, c1_3⟩, ⟨f1_0, f1_1, f1_2, f1_3⟩⟩ := (H1.get 1 rfl).c4
      obtain ⟨⟨c2_0, c2_1, c2_2, c2_3, c2_4, c2_5, c2_6, c2_7, c2_8, c2_9, c2_10, c2_11⟩, -⟩ := HB.out (H1.get 2 rfl)
      go_wp2_with fail
      with_reducible refine (HO.out _).mono ?_
      rintro e w2 ⟨rfl, hb⟩
      have H2 : Bk w [(w.heap.size, 23, #[.int .i64 o.x, .int .i64 o.y, .int .i64 o.w, .int .i64 o.h]), (w.heap.size + 1, 23, #[.int .i64 0, .int .i64 0, .int .i64 1, .int .i64 1]), (w.heap.size + 1 + 1, 25, #[.int .i64 hh.minW, .int .i64 hh.minH, .int .i64 hh.maxW, .int .i64 hh.maxH, .int .i64 hh.baseW, .int .i64 hh.baseH, .int .i64 hh.incW, .int .i64 hh.incH, .int .i64 hh.lowX, .int .i64 hh.lowY, .int .i64 hh.highX, .int .i64 hh.highY]), (w.heap.size + 1 + 1 + 1, 23, #[.int .i64 0, .int .i64 0, .int .i64 0, .int .i64 0])] w2 := ((H1.put4 1 rfl (.int .i64 0) (.int .i64 0) (.int .i64 1) (.int .i64 1)).same rfl).next hb
      clear hb H1
      clear c0_0 c0_1 c0_2 c0_3 f0_0 f0_1 f0_2 f0_3 c1_0 c1_1 c1_2 c1_3 f1_0 f1_1 f1_2 f1_3 c2_0 c2_1 c2_2 c2_3 c2_4 c2_5 c2_6 c2_7 c2_8 c2_9 c2_10 c2_11
      obtain ⟨⟨c0_0, c0_1, c0_2, c0_3⟩, ⟨f0_0, f0_1, f0_2, f0_3⟩⟩ := (H2.get 0 rfl).c4
      obtain ⟨⟨c1_0, c1_1, c1_2, c1_3⟩, ⟨f1_0, f1_1, f1_2, f1_3⟩⟩ := (H2.get 1 rfl).c4
      obtain ⟨⟨c2_0, c2_1, c2_2, c2_3, c2_4, c2_5, c2_6, c2_7, c2_8, c2_9, c2_10, c2_11⟩, -⟩ := HB.out (H2.get 2 rfl)
      go_wp2_with fail
      with_reducible refine (HF.out _).mono ?_
      rintro e w3 ⟨n, a, b, rfl, hN, hF, hb⟩
      have H3 := H2.next hb
      clear hb H2
      clear c0_0 c0_1 c0_2 c0_3 f0_0 f0_1 f0_2 f0_3 c1_0 c1_1 c1_2 c1_3 f1_0 f1_1 f1_2 f1_3 c2_0 c2_1 c2_2 c2_3 c2_4 c2_5 c2_6 c2_7 c2_8 c2_9 c2_10 c2_11
      obtain ⟨⟨c0_0, c0_1, c0_2, c0_3⟩, ⟨f0_0, f0_1, f0_2, f0_3⟩⟩ := (H3.get 0 rfl).c4
      obtain ⟨⟨c1_0, c1_1, c1_2, c1_3⟩, ⟨f1_0, f1_1, f1_2, f1_3⟩⟩ := (H3.get 1 rfl).c4
      obtain ⟨⟨c2_0, c2_1, c2_2, c2_3, c2_4, c2_5, c2_6, c2_7, c2_8, c2_9, c2_10, c2_11⟩, -⟩ := HB.out (H3.get 2 rfl)
      obtain ⟨⟨a1, a2⟩, b1, b2⟩ := fit_b hN.right.1 hF
      have HX := Lib.hid (fun W => middle_c o.x o.w a W (by (try simp only at *); omega) (by (try simp only at *); omega) (by omega))
      have HY := Lib.hid (fun W => middle_c o.y o.h b W (by (try simp only at *); omega) (by (try simp only at *); omega) (by omega))
      have mx : -1000000 ≤ midI o.x o.w a ∧ midI o.x o.w a ≤ 1000000 := by unfold midI; (try simp only at *); omega
      have my : -1000000 ≤ midI o.y o.h b ∧ midI o.y o.h b ≤ 1000000 := by unfold midI; (try simp only at *); omega
      have HS := Lib.hid (fun W => sized_c (midI o.x o.w a) (midI o.y o.h b) a b W mx my)
      have eS : startR o (⟨0, 0, 1, 1⟩ : Rc) a b = keepRR (laidR (midI o.x o.w a) (midI o.y o.h b) a b) (⟨0, 0, 1, 1⟩ : Rc) := rfl
      generalize laidR (midI o.x o.w a) (midI o.y o.h b) a b = l at HS eS
      generalize midI o.x o.w a = p at HX HS
      generalize midI o.y o.h b = q at HY HS
      have HK := Lib.hid (fun W => keep_c l.x l.y l.w l.h 0 0 1 1 W)
      have eK : keepR l.x l.y l.w l.h 0 0 1 1 = keepRR l (⟨0, 0, 1, 1⟩ : Rc) := rfl
      rw [eK, ← eS] at HK
      have HNF := Lib.hid (And.intro hN hF)
      obtain ⟨z, hz⟩ : ∃ z, z = startR o (⟨0, 0, 1, 1⟩ : Rc) a b := ⟨_, rfl⟩
      rw [← hz] at HK
      have HZ := Lib.hid hz
      clear hz eS eK hN hF bo bw mx my a1 a2 b1 b2
      go_wp2_with fail
      with_reducible refine (HX.out _).mono ?_
      rintro e w' ⟨rfl, rfl⟩
      go_wp2_with fail
      with_reducible refine (HY.out _).mono ?_
      rintro e w' ⟨rfl, rfl⟩
      go_upto_region 8 with fail
      clear c0_0 c0_1 c0_2 c0_3 f0_0 f0_1 f0_2 f0_3 c1_0 c1_1 c1_2 c1_3 f1_0 f1_1 f1_2 f1_3 c2_0 c2_1 c2_2 c2_3 c2_4 c2_5 c2_6 c2_7 c2_8 c2_9 c2_10 c2_11
      obtain ⟨⟨k1_0, k1_1, k1_2, k1_3⟩, ⟨k1_f0, k1_f1, k1_f2, k1_f3⟩⟩ := (H3.get 1 rfl).c4; obtain ⟨⟨k3_0, k3_1, k3_2, k3_3⟩, ⟨k3_f0, k3_f1, k3_f2, k3_f3⟩⟩ := (H3.get 3 rfl).c4
      refine wp_region_noPanic ?_
      refine wp_region_held_drew (S := fun wx => wx.cell? ⟨w.heap.size + 1, 0, none⟩ = some (.int .i64 0) ∧ wx.cell? ⟨w.heap.size + 1, 1, none⟩ = some (.int .i64 0) ∧ wx.cell? ⟨w.heap.size + 1, 2, none⟩ = some (.int .i64 1) ∧ wx.cell? ⟨w.heap.size + 1, 3, none⟩ = some (.int .i64 1)) (by kernel_rfl) (by exact ⟨k1_0, k1_1, k1_2, k1_3⟩) (fun hHeld => ?_)
      refine wpAnyH_take (i := 0) (v := ?vq3x0) rfl (by kernel_rfl) (by kernel_rfl) (by kernel_rfl) (fun _ _ _ h => h) (Or.inl ⟨by kernel_rfl, ?yq3x0⟩) (by assumption) ?rq3x0
      case yq3x0 => (intro wq hSw; (try dsimp only at hSw); go_simp; (try with_reducible rfl))
      (try simp only [Act.put, List.getElem_toArray, List.getElem_cons_zero, List.setIfInBounds_toArray, List.set_cons_zero, List.set_cons_succ])
      refine wpAnyH_take (i := 1) (v := ?vq3x1) rfl (by kernel_rfl) (by kernel_rfl) (by kernel_rfl) (fun _ _ _ h => h) (Or.inl ⟨by kernel_rfl, ?yq3x1⟩) (by assumption) ?rq3x1
      case yq3x1 => (intro wq hSw; (try dsimp only at hSw); go_simp; (try with_reducible rfl))
      (try simp only [Act.put, List.getElem_toArray, List.getElem_cons_succ, List.getElem_cons_zero, List.setIfInBounds_toArray, List.set_cons_zero, List.set_cons_succ])
      refine wpAnyH_take (i := 2) (v := ?vq3x2) rfl (by kernel_rfl) (by kernel_rfl) (by kernel_rfl) (fun _ _ _ h => h) (Or.inl ⟨by kernel_rfl, ?yq3x2⟩) (by assumption) ?rq3x2
      case yq3x2 => (intro wq hSw; (try dsimp only at hSw); go_simp; (try with_reducible rfl))
      (try simp only [Act.put, List.getElem_toArray, List.getElem_cons_succ, List.getElem_cons_zero, List.setIfInBounds_toArray, List.set_cons_zero, List.set_cons_succ])
      refine wpAnyH_take (i := 3) (v := ?vq3x3) rfl (by kernel_rfl) (by kernel_rfl) (by kernel_rfl) (fun _ _ _ h => h) (Or.inl ⟨by kernel_rfl, ?yq3x3⟩) (by assumption) ?rq3x3
      case yq3x3 => (intro wq hSw; (try dsimp only at hSw); go_simp; (try with_reducible rfl))
      (try simp only [Act.put, List.getElem_toArray, List.getElem_cons_succ, List.getElem_cons_zero, List.setIfInBounds_toArray, List.set_cons_zero, List.set_cons_succ])
      refine wpAnyH_take (i := 5) (v := ?vq3x5) rfl (by kernel_rfl) (by kernel_rfl) (by kernel_rfl) (fun _ _ _ h => h) (Or.inl ⟨by kernel_rfl, ?yq3x5⟩) (by assumption) ?rq3x5
      case yq3x5 => (intro wq hSw; (try dsimp only at hSw); go_simp; (try with_reducible rfl))
      (try simp only [Act.put, List.getElem_toArray, List.getElem_cons_succ, List.getElem_cons_zero, List.setIfInBounds_toArray, List.set_cons_zero, List.set_cons_succ])
      refine wpAnyH_ready (rs := [4]) (by kernel_rfl) (by simp) ?_
      refine AllReadyH.cons rfl (fun K hK => ?_) AllReadyH.nil
      go_simp
      refine (HS.out _).mono ?_
      rintro e w4 ⟨rfl, hb⟩; have H4 := H3.drew.next hb; clear hb H3 k1_0 k1_f0 k1_1 k1_f1 k1_2 k1_f2 k1_3 k1_f3 k3_0 k3_f0 k3_1 k3_f1 k3_2 k3_f2 k3_3 k3_f3; obtain ⟨⟨k1_0, k1_1, k1_2, k1_3⟩, ⟨k1_f0, k1_f1, k1_f2, k1_f3⟩⟩ := (H4.get 1 rfl).c4; obtain ⟨⟨k3_0, k3_1, k3_2, k3_3⟩, ⟨k3_f0, k3_f1, k3_f2, k3_f3⟩⟩ := (H4.get 3 rfl).c4
      (try dsimp only)
      refine hK.out _ _ (by exact ⟨k1_0, k1_1, k1_2, k1_3⟩) (fun hHeld => ?_)
      clear hK K
      (try simp only [Act.put, List.getElem_toArray, List.getElem_cons_succ, List.getElem_cons_zero, List.setIfInBounds_toArray, List.set_cons_zero, List.set_cons_succ])
      refine wpAnyH_ready (rs := [6]) (by kernel_rfl) (by simp) ?_
      refine AllReadyH.cons rfl (fun K hK => ?_) AllReadyH.nil
      go_simp
      refine (HK.out _).mono ?_
      rintro e w5 ⟨rfl, hb⟩; have H5 := H4.next hb; clear hb H4 k1_0 k1_f0 k1_1 k1_f1 k1_2 k1_f2 k1_3 k1_f3 k3_0 k3_f0 k3_1 k3_f1 k3_2 k3_f2 k3_3 k3_f3; obtain ⟨⟨k1_0, k1_1, k1_2, k1_3⟩, ⟨k1_f0, k1_f1, k1_f2, k1_f3⟩⟩ := (H5.get 1 rfl).c4; obtain ⟨⟨k3_0, k3_1, k3_2, k3_3⟩, ⟨k3_f0, k3_f1, k3_f2, k3_f3⟩⟩ := (H5.get 3 rfl).c4
      (try dsimp only)
      refine hK.out _ _ (by exact ⟨k1_0, k1_1, k1_2, k1_3⟩) (fun hHeld => ?_)
      clear hK K
      (try simp only [Act.put, List.getElem_toArray, List.getElem_cons_succ, List.getElem_cons_zero, List.setIfInBounds_toArray, List.set_cons_zero, List.set_cons_succ])
      refine wpAnyH_ready (rs := [7]) (by kernel_rfl) (by simp) ?_
      refine AllReadyH.cons rfl (fun K hK => ?_) AllReadyH.nil
      go_simp
      refine hK.out _ _ (by (have HX := H5.put4 3 rfl (.int .i64 z.x) (.int .i64 z.y) (.int .i64 z.w) (.int .i64 z.h); obtain ⟨⟨k1_0, k1_1, k1_2, k1_3⟩, ⟨k1_f0, k1_f1, k1_f2, k1_f3⟩⟩ := (HX.get 1 rfl).c4; exact ⟨k1_0, k1_1, k1_2, k1_3⟩)) (fun hHeld => ?_)
      clear hK K
      (try simp only [Act.put, List.getElem_toArray, List.getElem_cons_succ, List.getElem_cons_zero, List.setIfInBounds_toArray, List.set_cons_zero, List.set_cons_succ])
      refine wpAnyH_done (by kernel_rfl) ?_ _
      refine NoPanic.normal ?_
      go_wp2_with fail
      refine bodyPost_ret (by simp [results, Try.results9, go_sem, k3_0, k3_1, k3_2, k3_3]; try rfl) rfl ?_
      exact ⟨n, a, b, by rw [HZ.out], HNF.out.1, HNF.out.2, (H5.put4 3 rfl _ _ _ _).below⟩
    · have H0 := ((((Bk.start w).alloc #[.int .i64 o.x, .int .i64 o.y, .int .i64 o.w, .int .i64 o.h] 23).alloc #[.int .i64 v.x, .int .i64 v.y, .int .i64 v.w, .int .i64 v.h] 23).alloc #[.int .i64 hh.minW, .int .i64 hh.minH, .int .i64 hh.maxW, .int .i64 hh.maxH, .int .i64 hh.baseW, .int .i64 hh.baseH, .int .i64 hh.incW, .int .i64 hh.incH, .int .i64 hh.lowX, .int .i64 hh.lowY, .int .i64 hh.highX, .int .i64 hh.highY] 25).alloc #[.int .i64 0, .int .i64 0, .int .i64 0, .int .i64 0] 23
      simp only [World.size_alloc, List.nil_append, List.cons_append] at H0
      have HV := Lib.hid (fun W => empty_c v.x v.y v.w v.h W)
      have HO := Lib.hid (fun W => empty_c o.x o.y o.w o.h W)
      rw [show emptyB v.x v.y v.w v.h = true from hv] at HV
      rw [show emptyB o.x o.y o.w o.h = true from ho] at HO
      have ew : workR v = (⟨0, 0, 1, 1⟩ : Rc) := if_pos hv
      have eo : ownR o (⟨0, 0, 1, 1⟩ : Rc) = (⟨0, 0, 1, 1⟩ : Rc) := if_pos ho
      have bo := (emptyR_iff (⟨0, 0, 1, 1⟩ : Rc)).1 (by decide)
      have bw := (emptyR_iff (⟨0, 0, 1, 1⟩ : Rc)).1 (by decide)
      rw [ew, eo]
      clear ew eo hv ho
      have HF := Lib.hid (fun W => fit_c hh (min x 1) (min t 1) W)
      go_enter Try.func9, Try.ntmps9
      go_wp2_with fail
      with_reducible refine (HV.out _).mono ?_
      rintro e w1 ⟨rfl, hb⟩
      have H1 := H0.next hb
      clear hb H0
      obtain ⟨⟨c0_0, c0_1, c0_2, c0_3⟩, ⟨f0_0, f0_1, f0_2, f0_3⟩⟩ := (H1.get 0 rfl).c4
      obtain ⟨⟨c1_0, c1_1, c1_2, c1_3⟩, ⟨f1_0, f1_1, f1_2, f1_3⟩⟩ := (H1.get 1 rfl).c4
      obtain ⟨⟨c2_0, c2_1, c2_2, c2_3, c2_4, c2_5, c2_6, c2_7, c2_8, c2_9, c2_10, c2_11⟩, -⟩ := HB.out (H1.get 2 rfl)
      go_wp2_with fail
      with_reducible refine (HO.out _).mono ?_
      rintro e w2 ⟨rfl, hb⟩
      have H2 : Bk w [(w.heap.size, 23, #[.int .i64 o.x, .int .i64 o.y, .int .i64 o.w, .int .i64 o.h]), (w.heap.size + 1, 23, #[.int .i64 0, .int .i64 0, .int .i64 1, .int .i64 1]), (w.heap.size + 1 + 1, 25, #[.int .i64 hh.minW, .int .i64 hh.minH, .int .i64 hh.maxW, .int .i64 hh.maxH, .int .i64 hh.baseW, .int .i64 hh.baseH, .int .i64 hh.incW, .int .i64 hh.incH, .int .i64 hh.lowX, .int .i64 hh.lowY, .int .i64 hh.highX, .int .i64 hh.highY]), (w.heap.size + 1 + 1 + 1, 23, #[.int .i64 0, .int .i64 0, .int .i64 0, .int .i64 0])] w2 := ((H1.put4 1 rfl (.int .i64 0) (.int .i64 0) (.int .i64 1) (.int .i64 1)).same rfl).next hb
      clear hb H1
      clear c0_0 c0_1 c0_2 c0_3 f0_0 f0_1 f0_2 f0_3 c1_0 c1_1 c1_2 c1_3 f1_0 f1_1 f1_2 f1_3 c2_0 c2_1 c2_2 c2_3 c2_4 c2_5 c2_6 c2_7 c2_8 c2_9 c2_10 c2_11
      obtain ⟨⟨c0_0, c0_1, c0_2, c0_3⟩, ⟨f0_0, f0_1, f0_2, f0_3⟩⟩ := (H2.get 0 rfl).c4
      obtain ⟨⟨c1_0, c1_1, c1_2, c1_3⟩, ⟨f1_0, f1_1, f1_2, f1_3⟩⟩ := (H2.get 1 rfl).c4
      obtain ⟨⟨c2_0, c2_1, c2_2, c2_3, c2_4, c2_5, c2_6, c2_7, c2_8, c2_9, c2_10, c2_11⟩, -⟩ := HB.out (H2.get 2 rfl)
      go_wp2_with fail
      with_reducible refine (HF.out _).mono ?_
      rintro e w3 ⟨n, a, b, rfl, hN, hF, hb⟩
      have H3 : Bk w [(w.heap.size, 23, #[.int .i64 0, .int .i64 0, .int .i64 1, .int .i64 1]), (w.heap.size + 1, 23, #[.int .i64 0, .int .i64 0, .int .i64 1, .int .i64 1]), (w.heap.size + 1 + 1, 25, #[.int .i64 hh.minW, .int .i64 hh.minH, .int .i64 hh.maxW, .int .i64 hh.maxH, .int .i64 hh.baseW, .int .i64 hh.baseH, .int .i64 hh.incW, .int .i64 hh.incH, .int .i64 hh.lowX, .int .i64 hh.lowY, .int .i64 hh.highX, .int .i64 hh.highY]), (w.heap.size + 1 + 1 + 1, 23, #[.int .i64 0, .int .i64 0, .int .i64 0, .int .i64 0])] w3 := ((H2.put4 0 rfl (.int .i64 0) (.int .i64 0) (.int .i64 1) (.int .i64 1)).same rfl).next hb
      clear hb H2
      clear c0_0 c0_1 c0_2 c0_3 f0_0 f0_1 f0_2 f0_3 c1_0 c1_1 c1_2 c1_3 f1_0 f1_1 f1_2 f1_3 c2_0 c2_1 c2_2 c2_3 c2_4 c2_5 c2_6 c2_7 c2_8 c2_9 c2_10 c2_11
      obtain ⟨⟨c0_0, c0_1, c0_2, c0_3⟩, ⟨f0_0, f0_1, f0_2, f0_3⟩⟩ := (H3.get 0 rfl).c4
      obtain ⟨⟨c1_0, c1_1, c1_2, c1_3⟩, ⟨f1_0, f1_1, f1_2, f1_3⟩⟩ := (H3.get 1 rfl).c4
      obtain ⟨⟨c2_0, c2_1, c2_2, c2_3, c2_4, c2_5, c2_6, c2_7, c2_8, c2_9, c2_10, c2_11⟩, -⟩ := HB.out (H3.get 2 rfl)
      obtain ⟨⟨a1, a2⟩, b1, b2⟩ := fit_b hN.right.1 hF
      have HX := Lib.hid (fun W => middle_c 0 1 a W (by (try simp only at *); omega) (by (try simp only at *); omega) (by omega))
      have HY := Lib.hid (fun W => middle_c 0 1 b W (by (try simp only at *); omega) (by (try simp only at *); omega) (by omega))
      have mx : -1000000 ≤ midI 0 1 a ∧ midI 0 1 a ≤ 1000000 := by unfold midI; (try simp only at *); omega
      have my : -1000000 ≤ midI 0 1 b ∧ midI 0 1 b ≤ 1000000 := by unfold midI; (try simp only at *); omega
      have HS := Lib.hid (fun W => sized_c (midI 0 1 a) (midI 0 1 b) a b W mx my)
      have eS : startR (⟨0, 0, 1, 1⟩ : Rc) (⟨0, 0, 1, 1⟩ : Rc) a b = keepRR (laidR (midI 0 1 a) (midI 0 1 b) a b) (⟨0, 0, 1, 1⟩ : Rc) := rfl
      generalize laidR (midI 0 1 a) (midI 0 1 b) a b = l at HS eS
      generalize midI 0 1 a = p at HX HS
      generalize midI 0 1 b = q at HY HS
      have HK := Lib.hid (fun W => keep_c l.x l.y l.w l.h 0 0 1 1 W)
      have eK : keepR l.x l.y l.w l.h 0 0 1 1 = keepRR l (⟨0, 0, 1, 1⟩ : Rc) := rfl
      rw [eK, ← eS] at HK
      have HNF := Lib.hid (And.intro hN hF)
      obtain ⟨z, hz⟩ : ∃ z, z = startR (⟨0, 0, 1, 1⟩ : Rc) (⟨0, 0, 1, 1⟩ : Rc) a b := ⟨_, rfl⟩
      rw [← hz] at HK
      have HZ := Lib.hid hz
      clear hz eS eK hN hF bo bw mx my a1 a2 b1 b2
      go_wp2_with fail
      with_reducible refine (HX.out _).mono ?_
      rintro e w' ⟨rfl, rfl⟩
      go_wp2_with fail
      with_reducible refine (HY.out _).mono ?_
      rintro e w' ⟨rfl, rfl⟩
      go_upto_region 8 with fail
      clear c0_0 c0_1 c0_2 c0_3 f0_0 f0_1 f0_2 f0_3 c1_0 c1_1 c1_2 c1_3 f1_0 f1_1 f1_2 f1_3 c2_0 c2_1 c2_2 c2_3 c2_4 c2_5 c2_6 c2_7 c2_8 c2_9 c2_10 c2_11
      obtain ⟨⟨k1_0, k1_1, k1_2, k1_3⟩, ⟨k1_f0, k1_f1, k1_f2, k1_f3⟩⟩ := (H3.get 1 rfl).c4; obtain ⟨⟨k3_0, k3_1, k3_2, k3_3⟩, ⟨k3_f0, k3_f1, k3_f2, k3_f3⟩⟩ := (H3.get 3 rfl).c4
      refine wp_region_noPanic ?_
      refine wp_region_held_drew (S := fun wx => wx.cell? ⟨w.heap.size + 1, 0, none⟩ = some (.int .i64 0) ∧ wx.cell? ⟨w.heap.size + 1, 1, none⟩ = some (.int .i64 0) ∧ wx.cell? ⟨w.heap.size + 1, 2, none⟩ = some (.int .i64 1) ∧ wx.cell? ⟨w.heap.size + 1, 3, none⟩ = some (.int .i64 1)) (by kernel_rfl) (by exact ⟨k1_0, k1_1, k1_2, k1_3⟩) (fun hHeld => ?_)
      refine wpAnyH_take (i := 0) (v := ?vq4x0) rfl (by kernel_rfl) (by kernel_rfl) (by kernel_rfl) (fun _ _ _ h => h) (Or.inl ⟨by kernel_rfl, ?yq4x0⟩) (by assumption) ?rq4x0
      case yq4x0 => (intro wq hSw; (try dsimp only at hSw); go_simp; (try with_reducible rfl))
      (try simp only [Act.put, List.getElem_toArray, List.getElem_cons_zero, List.setIfInBounds_toArray, List.set_cons_zero, List.set_cons_succ])
      refine wpAnyH_take (i := 1) (v := ?vq4x1) rfl (by kernel_rfl) (by kernel_rfl) (by kernel_rfl) (fun _ _ _ h => h) (Or.inl ⟨by kernel_rfl, ?yq4x1⟩) (by assumption) ?rq4x1
      case yq4x1 => (intro wq hSw; (try dsimp only at hSw); go_simp; (try with_reducible rfl))
      (try simp only [Act.put, List.getElem_toArray, List.getElem_cons_succ, List.getElem_cons_zero, List.setIfInBounds_toArray, List.set_cons_zero, List.set_cons_succ])
      refine wpAnyH_take (i := 2) (v := ?vq4x2) rfl (by kernel_rfl) (by kernel_rfl) (by kernel_rfl) (fun _ _ _ h => h) (Or.inl ⟨by kernel_rfl, ?yq4x2⟩) (by assumption) ?rq4x2
      case yq4x2 => (intro wq hSw; (try dsimp only at hSw); go_simp; (try with_reducible rfl))
      (try simp only [Act.put, List.getElem_toArray, List.getElem_cons_succ, List.getElem_cons_zero, List.setIfInBounds_toArray, List.set_cons_zero, List.set_cons_succ])
      refine wpAnyH_take (i := 3) (v := ?vq4x3) rfl (by kernel_rfl) (by kernel_rfl) (by kernel_rfl) (fun _ _ _ h => h) (Or.inl ⟨by kernel_rfl, ?yq4x3⟩) (by assumption) ?rq4x3
      case yq4x3 => (intro wq hSw; (try dsimp only at hSw); go_simp; (try with_reducible rfl))
      (try simp only [Act.put, List.getElem_toArray, List.getElem_cons_succ, List.getElem_cons_zero, List.setIfInBounds_toArray, List.set_cons_zero, List.set_cons_succ])
      refine wpAnyH_take (i := 5) (v := ?vq4x5) rfl (by kernel_rfl) (by kernel_rfl) (by kernel_rfl) (fun _ _ _ h => h) (Or.inl ⟨by kernel_rfl, ?yq4x5⟩) (by assumption) ?rq4x5
      case yq4x5 => (intro wq hSw; (try dsimp only at hSw); go_simp; (try with_reducible rfl))
      (try simp only [Act.put, List.getElem_toArray, List.getElem_cons_succ, List.getElem_cons_zero, List.setIfInBounds_toArray, List.set_cons_zero, List.set_cons_succ])
      refine wpAnyH_ready (rs := [4]) (by kernel_rfl) (by simp) ?_
      refine AllReadyH.cons rfl (fun K hK => ?_) AllReadyH.nil
      go_simp
      refine (HS.out _).mono ?_
      rintro e w4 ⟨rfl, hb⟩; have H4 := H3.drew.next hb; clear hb H3 k1_0 k1_f0 k1_1 k1_f1 k1_2 k1_f2 k1_3 k1_f3 k3_0 k3_f0 k3_1 k3_f1 k3_2 k3_f2 k3_3 k3_f3; obtain ⟨⟨k1_0, k1_1, k1_2, k1_3⟩, ⟨k1_f0, k1_f1, k1_f2, k1_f3⟩⟩ := (H4.get 1 rfl).c4; obtain ⟨⟨k3_0, k3_1, k3_2, k3_3⟩, ⟨k3_f0, k3_f1, k3_f2, k3_f3⟩⟩ := (H4.get 3 rfl).c4
      (try dsimp only)
      refine hK.out _ _ (by exact ⟨k1_0, k1_1, k1_2, k1_3⟩) (fun hHeld => ?_)
      clear hK K
      (try simp only [Act.put, List.getElem_toArray, List.getElem_cons_succ, List.getElem_cons_zero, List.setIfInBounds_toArray, List.set_cons_zero, List.set_cons_succ])
      refine wpAnyH_ready (rs := [6]) (by kernel_rfl) (by simp) ?_
      refine AllReadyH.cons rfl (fun K hK => ?_) AllReadyH.nil
      go_simp
      refine (HK.out _).mono ?_
      rintro e w5 ⟨rfl, hb⟩; have H5 := H4.next hb; clear hb H4 k1_0 k1_f0 k1_1 k1_f1 k1_2 k1_f2 k1_3 k1_f3 k3_0 k3_f0 k3_1 k3_f1 k3_2 k3_f2 k3_3 k3_f3; obtain ⟨⟨k1_0, k1_1, k1_2, k1_3⟩, ⟨k1_f0, k1_f1, k1_f2, k1_f3⟩⟩ := (H5.get 1 rfl).c4; obtain ⟨⟨k3_0, k3_1, k3_2, k3_3⟩, ⟨k3_f0, k3_f1, k3_f2, k3_f3⟩⟩ := (H5.get 3 rfl).c4
      (try dsimp only)
      refine hK.out _ _ (by exact ⟨k1_0, k1_1, k1_2, k1_3⟩) (fun hHeld => ?_)
      clear hK K
      (try simp only [Act.put, List.getElem_toArray, List.getElem_cons_succ, List.getElem_cons_zero, List.setIfInBounds_toArray, List.set_cons_zero, List.set_cons_succ])
      refine wpAnyH_ready (rs := [7]) (by kernel_rfl) (by simp) ?_
      refine AllReadyH.cons rfl (fun K hK => ?_) AllReadyH.nil
      go_simp
      refine hK.out _ _ (by (have HX := H5.put4 3 rfl (.int .i64 z.x) (.int .i64 z.y) (.int .i64 z.w) (.int .i64 z.h); obtain ⟨⟨k1_0, k1_1, k1_2, k1_3⟩, ⟨k1_f0, k1_f1, k1_f2, k1_f3⟩⟩ := (HX.get 1 rfl).c4; exact ⟨k1_0, k1_1, k1_2, k1_3⟩)) (fun hHeld => ?_)
      clear hK K
      (try simp only [Act.put, List.getElem_toArray, List.getElem_cons_succ, List.getElem_cons_zero, List.setIfInBounds_toArray, List.set_cons_zero, List.set_cons_succ])
      refine wpAnyH_done (by kernel_rfl) ?_ _
      refine NoPanic.normal ?_
      go_wp2_with fail
      refine bodyPost_ret (by simp [results, Try.results9, go_sem, k3_0, k3_1, k3_2, k3_3]; try rfl) rfl ?_
      exact ⟨n, a, b, by rw [HZ.out], HNF.out.1, HNF.out.2, (H5.put4 3 rfl _ _ _ _).below⟩
end Go.Proofs.Ytdmoncpeoaoppaa.Fl
