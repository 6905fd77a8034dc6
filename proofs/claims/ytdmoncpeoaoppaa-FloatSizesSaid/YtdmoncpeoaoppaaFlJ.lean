/- Float's laws, walked. -/
import Derived.Test.YtdmoncpeoaoppaaFlI
import Derived.Laws.Cover1
namespace Go.Proofs.Ytdmoncpeoaoppaa.Fl
open Go.RowKit Sz
theorem min3 {P : Program} (ts : Array TypeId) (t : TypeId) (k k' k'' : IntKind) (x y z : Int) (w : World) : (Builtin.min_ ts t #[.int k x, .int k' y, .int k'' z]).run P w = .ok (.int k (min x (min y z))) w := by
  have e : (if z < (if y < x then y else x) then z else (if y < x then y else x)) = min x (min y z) := by
    rw [Int.min_def, Int.min_def]
    repeat' split
    all_goals omega
  rw [run_min_int3, e]
attribute [local go_sem high] min3
set_option maxRecDepth 100000 in
set_option maxHeartbeats 4000000 in
theorem starts_w (o v : Rc) (hh : Hn) (x t : Int) (w : World) : Calls Try.prog 3 #[rcV o, rcV v, hnV hh, .int .i64 x, .int .i64 t] w fun e w' => e = .returned (.bool true) ∧ Below w.heap.size w w' := by
  have H0 := (((Bk.start w).alloc #[.int .i64 o.x, .int .i64 o.y, .int .i64 o.w, .int .i64 o.h] 23).alloc #[.int .i64 v.x, .int .i64 v.y, .int .i64 v.w, .int .i64 v.h] 23).alloc #[.int .i64 hh.minW, .int .i64 hh.minH, .int .i64 hh.maxW, .int .i64 hh.maxH, .int .i64 hh.baseW, .int .i64 hh.baseH, .int .i64 hh.incW, .int .i64 hh.incH, .int .i64 hh.lowX, .int .i64 hh.lowY, .int .i64 hh.highX, .int .i64 hh.highY] 25
  simp only [World.size_alloc, List.nil_append, List.cons_append] at H0
  go_enter Try.func3, Try.ntmps3
  go_upto_region 1 with fail
  obtain ⟨⟨k0_0, k0_1, k0_2, k0_3⟩, ⟨k0_f0, k0_f1, k0_f2, k0_f3⟩⟩ := (H0.get 0 rfl).c4; obtain ⟨⟨k1_0, k1_1, k1_2, k1_3⟩, ⟨k1_f0, k1_f1, k1_f2, k1_f3⟩⟩ := (H0.get 1 rfl).c4; obtain ⟨⟨k2_0, k2_1, k2_2, k2_3, k2_4, k2_5, k2_6, k2_7, k2_8, k2_9, k2_10, k2_11⟩, -⟩ := HB.out (H0.get 2 rfl)
  refine wp_region_noPanic ?_
  refine wp_region_held_drew (S := fun wx => wx.cell? ⟨w.heap.size, 0, none⟩ = some (.int .i64 o.x) ∧ wx.cell? ⟨w.heap.size, 1, none⟩ = some (.int .i64 o.y) ∧ wx.cell? ⟨w.heap.size, 2, none⟩ = some (.int .i64 o.w) ∧ wx.cell? ⟨w.heap.size, 3, none⟩ = some (.int .i64 o.h) ∧ wx.cell? ⟨w.heap.size + 1, 0, none⟩ = some (.int .i64 v.x) ∧ wx.cell? ⟨w.heap.size + 1, 1, none⟩ = some (.int .i64 v.y) ∧ wx.cell? ⟨w.heap.size + 1, 2, none⟩ = some (.int .i64 v.w) ∧ wx.cell? ⟨w.heap.size + 1, 3, none⟩ = some (.int .i64 v.h) ∧ wx.cell? ⟨w.heap.size + 1 + 1, 0, none⟩ = some (.int .i64 hh.minW) ∧ wx.cell? ⟨w.heap.size + 1 + 1, 1, none⟩ = some (.int .i64 hh.minH) ∧ wx.cell? ⟨w.heap.size + 1 + 1, 2, none⟩ = some (.int .i64 hh.maxW) ∧ wx.cell? ⟨w.heap.size + 1 + 1, 3, none⟩ = some (.int .i64 hh.maxH) ∧ wx.cell? ⟨w.heap.size + 1 + 1, 4, none⟩ = some (.int .i64 hh.baseW) ∧ wx.cell? ⟨w.heap.size + 1 + 1, 5, none⟩ = some (.int .i64 hh.baseH) ∧ wx.cell? ⟨w.heap.size + 1 + 1, 6, none⟩ = some (.int .i64 hh.incW) ∧ wx.cell? ⟨w.heap.size + 1 + 1, 7, none⟩ = some (.int .i64 hh.incH) ∧ wx.cell? ⟨w.heap.size + 1 + 1, 8, none⟩ = some (.int .i64 hh.lowX) ∧ wx.cell? ⟨w.heap.size + 1 + 1, 9, none⟩ = some (.int .i64 hh.lowY) ∧ wx.cell? ⟨w.heap.size + 1 + 1, 10, none⟩ = some (.int .i64 hh.highX) ∧ wx.cell? ⟨w.heap.size + 1 + 1, 11, none⟩ = some (.int .i64 hh.highY)) (by kernel_rfl) (by exact ⟨k0_0, k0_1, k0_2, k0_3, k1_0, k1_1, k1_2, k1_3, k2_0, k2_1, k2_2, k2_3, k2_4, k2_5, k2_6, k2_7, k2_8, k2_9, k2_10, k2_11⟩) (fun hHeld => ?_)
  refine wpAnyH_take (i := 0) (v := ?vq1x0) rfl (by kernel_rfl) (by kernel_rfl) (by kernel_rfl) (fun _ _ _ h => h) (Or.inl ⟨by kernel_rfl, ?yq1x0⟩) (by assumption) ?rq1x0
  case yq1x0 => (intro wq hSw; (try dsimp only at hSw); go_simp; (try with_reducible rfl))
  (try simp only [Act.put, List.getElem_toArray, List.getElem_cons_zero, List.setIfInBounds_toArray, List.set_cons_zero, List.set_cons_succ])
  refine wpAnyH_take (i := 1) (v := ?vq1x1) rfl (by kernel_rfl) (by kernel_rfl) (by kernel_rfl) (fun _ _ _ h => h) (Or.inl ⟨by kernel_rfl, ?yq1x1⟩) (by assumption) ?rq1x1
  case yq1x1 => (intro wq hSw; (try dsimp only at hSw); go_simp; (try with_reducible rfl))
  (try simp only [Act.put, List.getElem_toArray, List.getElem_cons_succ, List.getElem_cons_zero, List.setIfInBounds_toArray, List.set_cons_zero, List.set_cons_succ])
  refine wpAnyH_take (i := 2) (v := ?vq1x2) rfl (by kernel_rfl) (by kernel_rfl) (by kernel_rfl) (fun _ _ _ h => h) (Or.inl ⟨by kernel_rfl, ?yq1x2⟩) (by assumption) ?rq1x2
  case yq1x2 => (intro wq hSw; (try dsimp only at hSw); go_simp; (try with_reducible rfl))
  (try simp only [Act.put, List.getElem_toArray, List.getElem_cons_succ, List.getElem_cons_zero, List.setIfInBounds_toArray, List.set_cons_zero, List.set_cons_succ])
  refine wpAnyH_take (i := 3) (v := ?vq1x3) rfl (by kernel_rfl) (by kernel_rfl) (by kernel_rfl) (fun _ _ _ h => h) (Or.inl ⟨by kernel_rfl, ?yq1x3⟩) (by assumption) ?rq1x3
  case yq1x3 => (intro wq hSw; (try dsimp only at hSw); go_simp; (try with_reducible rfl))
  (try simp only [Act.put, List.getElem_toArray, List.getElem_cons_succ, List.getElem_cons_zero, List.setIfInBounds_toArray, List.set_cons_zero, List.set_cons_succ])
  refine wpAnyH_take (i := 4) (v := ?vq1x4) rfl (by kernel_rfl) (by kernel_rfl) (by kernel_rfl) (fun _ _ _ h => h) (Or.inl ⟨by kernel_rfl, ?yq1x4⟩) (by assumption) ?rq1x4
  case yq1x4 => (intro wq hSw; (try dsimp only at hSw); go_simp; (try with_reducible rfl))
  (try simp only [Act.put, List.getElem_toArray, List.getElem_cons_succ, List.getElem_cons_zero, List.setIfInBounds_toArray, List.set_cons_zero, List.set_cons_succ])
  refine wpAnyH_take (i := 6) (v := ?vq1x6) rfl (by kernel_rfl) (by kernel_rfl) (by kernel_rfl) (fun _ _ _ h => h) (Or.inl ⟨by kernel_rfl, ?yq1x6⟩) (by assumption) ?rq1x6
  case yq1x6 => (intro wq hSw; (try dsimp only at hSw); go_simp; (try with_reducible rfl))
  (try simp only [Act.put, List.getElem_toArray, List.getElem_cons_succ, List.getElem_cons_zero, List.setIfInBounds_toArray, List.set_cons_zero, List.set_cons_succ])
  refine wpAnyH_take (i := 7) (v := ?vq1x7) rfl (by kernel_rfl) (by kernel_rfl) (by kernel_rfl) (fun _ _ _ h => h) (Or.inl ⟨by kernel_rfl, ?yq1x7⟩) (by assumption) ?rq1x7
  case yq1x7 => (intro wq hSw; (try dsimp only at hSw); go_simp; (try with_reducible rfl))
  (try simp only [Act.put, List.getElem_toArray, List.getElem_cons_succ, List.getElem_cons_zero, List.setIfInBounds_toArray, List.set_cons_zero, List.set_cons_succ])
  refine wpAnyH_take (i := 8) (v := ?vq1x8) rfl (by kernel_rfl) (by kernel_rfl) (by kernel_rfl) (fun _ _ _ h => h) (Or.inl ⟨by kernel_rfl, ?yq1x8⟩) (by assumption) ?rq1x8
  case yq1x8 => (intro wq hSw; (try dsimp only at hSw); go_simp; (try with_reducible rfl))
  (try simp only [Act.put, List.getElem_toArray, List.getElem_cons_succ, List.getElem_cons_zero, List.setIfInBounds_toArray, List.set_cons_zero, List.set_cons_succ])
  refine wpAnyH_take (i := 9) (v := ?vq1x9) rfl (by kernel_rfl) (by kernel_rfl) (by kernel_rfl) (fun _ _ _ h => h) (Or.inl ⟨by kernel_rfl, ?yq1x9⟩) (by assumption) ?rq1x9
  case yq1x9 => (intro wq hSw; (try dsimp only at hSw); go_simp; (try with_reducible rfl))
  (try simp only [Act.put, List.getElem_toArray, List.getElem_cons_succ, List.getElem_cons_zero, List.setIfInBounds_toArray, List.set_cons_zero, List.set_cons_succ])
  refine wpAnyH_take (i := 10) (v := ?vq1x10) rfl (by kernel_rfl) (by kernel_rfl) (by kernel_rfl) (fun _ _ _ h => h) (Or.inl ⟨by kernel_rfl, ?yq1x10⟩) (by assumption) ?rq1x10
  case yq1x10 => (intro wq hSw; (try dsimp only at hSw); go_simp; (try with_reducible rfl))
  (try simp only [Act.put, List.getElem_toArray, List.getElem_cons_succ, List.getElem_cons_zero, List.setIfInBounds_toArray, List.set_cons_zero, List.set_cons_succ])
  refine wpAnyH_ready (rs := [5]) (by kernel_rfl) (by simp) ?_
  refine AllReadyH.cons rfl (fun K hK => ?_) AllReadyH.nil
  go_simp
  refine (start_z o v hh x t _).mono ?_
  rintro e w1 ⟨z, rfl, hz, hb⟩; have H1 := H0.drew.next hb; clear hb H0 k0_0 k0_f0 k0_1 k0_f1 k0_2 k0_f2 k0_3 k0_f3 k1_0 k1_f0 k1_1 k1_f1 k1_2 k1_f2 k1_3 k1_f3 k2_0 k2_1 k2_2 k2_3 k2_4 k2_5 k2_6 k2_7 k2_8 k2_9 k2_10 k2_11; obtain ⟨⟨k0_0, k0_1, k0_2, k0_3⟩, ⟨k0_f0, k0_f1, k0_f2, k0_f3⟩⟩ := (H1.get 0 rfl).c4; obtain ⟨⟨k1_0, k1_1, k1_2, k1_3⟩, ⟨k1_f0, k1_f1, k1_f2, k1_f3⟩⟩ := (H1.get 1 rfl).c4; obtain ⟨⟨k2_0, k2_1, k2_2, k2_3, k2_4, k2_5, k2_6, k2_7, k2_8, k2_9, k2_10, k2_11⟩, -⟩ := HB.out (H1.get 2 rfl)
  (try dsimp only)
  refine hK.out _ _ (by exact ⟨k0_0, k0_1, k0_2, k0_3, k1_0, k1_1, k1_2, k1_3, k2_0, k2_1, k2_2, k2_3, k2_4, k2_5, k2_6, k2_7, k2_8, k2_9, k2_10, k2_11⟩) (fun hHeld => ?_)
  clear hK K
  (try simp only [Act.put, List.getElem_toArray, List.getElem_cons_succ, List.getElem_cons_zero, List.setIfInBounds_toArray, List.set_cons_zero, List.set_cons_succ])
  refine wpAnyH_ready (rs := [11]) (by kernel_rfl) (by simp) ?_
  refine AllReadyH.cons rfl (fun K hK => ?_) AllReadyH.nil
  go_simp
  refine (rstart_z hz _).mono ?_
  rintro e w2 ⟨rfl, hb⟩; have H2 := H1.next hb; clear hb H1 k0_0 k0_f0 k0_1 k0_f1 k0_2 k0_f2 k0_3 k0_f3 k1_0 k1_f0 k1_1 k1_f1 k1_2 k1_f2 k1_3 k1_f3 k2_0 k2_1 k2_2 k2_3 k2_4 k2_5 k2_6 k2_7 k2_8 k2_9 k2_10 k2_11; obtain ⟨⟨k0_0, k0_1, k0_2, k0_3⟩, ⟨k0_f0, k0_f1, k0_f2, k0_f3⟩⟩ := (H2.get 0 rfl).c4; obtain ⟨⟨k1_0, k1_1, k1_2, k1_3⟩, ⟨k1_f0, k1_f1, k1_f2, k1_f3⟩⟩ := (H2.get 1 rfl).c4; obtain ⟨⟨k2_0, k2_1, k2_2, k2_3, k2_4, k2_5, k2_6, k2_7, k2_8, k2_9, k2_10, k2_11⟩, -⟩ := HB.out (H2.get 2 rfl)
  (try dsimp only)
  refine hK.out _ _ (by exact ⟨k0_0, k0_1, k0_2, k0_3, k1_0, k1_1, k1_2, k1_3, k2_0, k2_1, k2_2, k2_3, k2_4, k2_5, k2_6, k2_7, k2_8, k2_9, k2_10, k2_11⟩) (fun hHeld => ?_)
  clear hK K
  (try simp only [Act.put, List.getElem_toArray, List.getElem_cons_succ, List.getElem_cons_zero, List.setIfInBounds_toArray, List.set_cons_zero, List.set_cons_succ])
  refine wpAnyH_take (i := 12) (v := ?vq1x12) rfl (by kernel_rfl) (by kernel_rfl) (by kernel_rfl) (fun _ _ _ h => h) (Or.inl ⟨by kernel_rfl, ?yq1x12⟩) (by assumption) ?rq1x12
  case yq1x12 => (intro wq hSw; (try dsimp only at hSw); go_simp; (try with_reducible rfl))
  (try simp only [Act.put, List.getElem_toArray, List.getElem_cons_succ, List.getElem_cons_zero, List.setIfInBounds_toArray, List.set_cons_zero, List.set_cons_succ])
  refine wpAnyH_take (i := 13) (v := ?vq1x13) rfl (by kernel_rfl) (by kernel_rfl) (by kernel_rfl) (fun _ _ _ h => h) (Or.inl ⟨by kernel_rfl, ?yq1x13⟩) (by assumption) ?rq1x13
  case yq1x13 => (intro wq hSw; (try dsimp only at hSw); go_simp; (try with_reducible rfl))
  (try simp only [Act.put, List.getElem_toArray, List.getElem_cons_succ, List.getElem_cons_zero, List.setIfInBounds_toArray, List.set_cons_zero, List.set_cons_succ])
  refine wpAnyH_ready (rs := [14]) (by kernel_rfl) (by simp) ?_
  refine AllReadyH.cons rfl (fun K hK => ?_) AllReadyH.nil
  go_simp
  refine (awake_c _).mono ?_
  rintro e w3 ⟨rfl, hb⟩; have H3 := H2.next hb; clear hb H2 k0_0 k0_f0 k0_1 k0_f1 k0_2 k0_f2 k0_3 k0_f3 k1_0 k1_f0 k1_1 k1_f1 k1_2 k1_f2 k1_3 k1_f3 k2_0 k2_1 k2_2 k2_3 k2_4 k2_5 k2_6 k2_7 k2_8 k2_9 k2_10 k2_11; obtain ⟨⟨k0_0, k0_1, k0_2, k0_3⟩, ⟨k0_f0, k0_f1, k0_f2, k0_f3⟩⟩ := (H3.get 0 rfl).c4; obtain ⟨⟨k1_0, k1_1, k1_2, k1_3⟩, ⟨k1_f0, k1_f1, k1_f2, k1_f3⟩⟩ := (H3.get 1 rfl).c4; obtain ⟨⟨k2_0, k2_1, k2_2, k2_3, k2_4, k2_5, k2_6, k2_7, k2_8, k2_9, k2_10, k2_11⟩, -⟩ := HB.out (H3.get 2 rfl)
  (try dsimp only)
  refine hK.out _ _ (by exact ⟨k0_0, k0_1, k0_2, k0_3, k1_0, k1_1, k1_2, k1_3, k2_0, k2_1, k2_2, k2_3, k2_4, k2_5, k2_6, k2_7, k2_8, k2_9, k2_10, k2_11⟩) (fun hHeld => ?_)
  clear hK K
  (try simp only [Act.put, List.getElem_toArray, List.getElem_cons_succ, List.getElem_cons_zero, List.setIfInBounds_toArray, List.set_cons_zero, List.set_cons_succ])
  refine wpAnyH_take (i := 15) (v := ?vq1x15) rfl (by kernel_rfl) (by kernel_rfl) (by kernel_rfl) (fun _ _ _ h => h) (Or.inl ⟨by kernel_rfl, ?yq1x15⟩) (by assumption) ?rq1x15
  case yq1x15 => (intro wq hSw; (try dsimp only at hSw); go_simp; (try with_reducible rfl))
  (try simp only [Act.put, List.getElem_toArray, List.getElem_cons_succ, List.getElem_cons_zero, List.setIfInBounds_toArray, List.set_cons_zero, List.set_cons_succ])
  refine wpAnyH_take (i := 16) (v := ?vq1x16) rfl (by kernel_rfl) (by kernel_rfl) (by kernel_rfl) (fun _ _ _ h => h) (Or.inl ⟨by kernel_rfl, ?yq1x16⟩) (by assumption) ?rq1x16
  case yq1x16 => (intro wq hSw; (try dsimp only at hSw); go_simp; (try with_reducible rfl))
  (try simp only [Act.put, List.getElem_toArray, List.getElem_cons_succ, List.getElem_cons_zero, List.setIfInBounds_toArray, List.set_cons_zero, List.set_cons_succ])
  refine wpAnyH_done (by kernel_rfl) ?_ _
  refine NoPanic.normal ?_
  go_wp2_with fail
  go_ret
  exact ⟨rfl, H3.below⟩
set_option maxRecDepth 100000 in
set_option maxHeartbeats 4000000 in
theorem sizes_w (r : Rc) (hh : Hn) (x t : Int) (w : World) : Calls Try.prog 5 #[rcV r, hnV hh, .int .i64 x, .int .i64 t] w fun e w' => e = .returned (.bool true) ∧ Below w.heap.size w w' := by
  have H0 := ((Bk.start w).alloc #[.int .i64 r.x, .int .i64 r.y, .int .i64 r.w, .int .i64 r.h] 23).alloc #[.int .i64 hh.minW, .int .i64 hh.minH, .int .i64 hh.maxW, .int .i64 hh.maxH, .int .i64 hh.baseW, .int .i64 hh.baseH, .int .i64 hh.incW, .int .i64 hh.incH, .int .i64 hh.lowX, .int .i64 hh.lowY, .int .i64 hh.highX, .int .i64 hh.highY] 25
  simp only [World.size_alloc, List.nil_append, List.cons_append] at H0
  go_enter Try.func5, Try.ntmps5
  go_upto_region 1 with fail
  obtain ⟨⟨k0_0, k0_1, k0_2, k0_3⟩, ⟨k0_f0, k0_f1, k0_f2, k0_f3⟩⟩ := (H0.get 0 rfl).c4; obtain ⟨⟨k1_0, k1_1, k1_2, k1_3, k1_4, k1_5, k1_6, k1_7, k1_8, k1_9, k1_10, k1_11⟩, -⟩ := HB.out (H0.get 1 rfl)
  refine wp_region_noPanic ?_
  refine wp_region_held_drew (S := fun wx => wx.cell? ⟨w.heap.size, 0, none⟩ = some (.int .i64 r.x) ∧ wx.cell? ⟨w.heap.size, 1, none⟩ = some (.int .i64 r.y) ∧ wx.cell? ⟨w.heap.size, 2, none⟩ = some (.int .i64 r.w) ∧ wx.cell? ⟨w.heap.size, 3, none⟩ = some (.int .i64 r.h) ∧ wx.cell? ⟨w.heap.size + 1, 0, none⟩ = some (.int .i64 hh.minW) ∧ wx.cell? ⟨w.heap.size + 1, 1, none⟩ = some (.int .i64 hh.minH) ∧ wx.cell? ⟨w.heap.size + 1, 2, none⟩ = some (.int .i64 hh.maxW) ∧ wx.cell? ⟨w.heap.size + 1, 3, none⟩ = some (.int .i64 hh.maxH) ∧ wx.cell? ⟨w.heap.size + 1, 4, none⟩ = some (.int .i64 hh.baseW) ∧ wx.cell? ⟨w.heap.size + 1, 5, none⟩ = some (.int .i64 hh.baseH) ∧ wx.cell? ⟨w.heap.size + 1, 6, none⟩ = some (.int .i64 hh.incW) ∧ wx.cell? ⟨w.heap.size + 1, 7, none⟩ = some (.int .i64 hh.incH) ∧ wx.cell? ⟨w.heap.size + 1, 8, none⟩ = some (.int .i64 hh.lowX) ∧ wx.cell? ⟨w.heap.size + 1, 9, none⟩ = some (.int .i64 hh.lowY) ∧ wx.cell? ⟨w.heap.size + 1, 10, none⟩ = some (.int .i64 hh.highX) ∧ wx.cell? ⟨w.heap.size + 1, 11, none⟩ = some (.int .i64 hh.highY)) (by kernel_rfl) (by exact ⟨k0_0, k0_1, k0_2, k0_3, k1_0, k1_1, k1_2, k1_3, k1_4, k1_5, k1_6, k1_7, k1_8, k1_9, k1_10, k1_11⟩) (fun hHeld => ?_)
  refine wpAnyH_take (i := 0) (v := ?vq2x0) rfl (by kernel_rfl) (by kernel_rfl) (by kernel_rfl) (fun _ _ _ h => h) (Or.inl ⟨by kernel_rfl, ?yq2x0⟩) (by assumption) ?rq2x0
  case yq2x0 => (intro wq hSw; (try dsimp only at hSw); go_simp; (try with_reducible rfl))
  (try simp only [Act.put, List.getElem_toArray, List.getElem_cons_zero, List.setIfInBounds_toArray, List.set_cons_zero, List.set_cons_succ])
  refine wpAnyH_take (i := 1) (v := ?vq2x1) rfl (by kernel_rfl) (by kernel_rfl) (by kernel_rfl) (fun _ _ _ h => h) (Or.inl ⟨by kernel_rfl, ?yq2x1⟩) (by assumption) ?rq2x1
  case yq2x1 => (intro wq hSw; (try dsimp only at hSw); go_simp; (try with_reducible rfl))
  (try simp only [Act.put, List.getElem_toArray, List.getElem_cons_succ, List.getElem_cons_zero, List.setIfInBounds_toArray, List.set_cons_zero, List.set_cons_succ])
  refine wpAnyH_take (i := 2) (v := ?vq2x2) rfl (by kernel_rfl) (by kernel_rfl) (by kernel_rfl) (fun _ _ _ h => h) (Or.inl ⟨by kernel_rfl, ?yq2x2⟩) (by assumption) ?rq2x2
  case yq2x2 => (intro wq hSw; (try dsimp only at hSw); go_simp; (try with_reducible rfl))
  (try simp only [Act.put, List.getElem_toArray, List.getElem_cons_succ, List.getElem_cons_zero, List.setIfInBounds_toArray, List.set_cons_zero, List.set_cons_succ])
  refine wpAnyH_take (i := 3) (v := ?vq2x3) rfl (by kernel_rfl) (by kernel_rfl) (by kernel_rfl) (fun _ _ _ h => h) (Or.inl ⟨by kernel_rfl, ?yq2x3⟩) (by assumption) ?rq2x3
  case yq2x3 => (intro wq hSw; (try dsimp only at hSw); go_simp; (try with_reducible rfl))
  (try simp only [Act.put, List.getElem_toArray, List.getElem_cons_succ, List.getElem_cons_zero, List.setIfInBounds_toArray, List.set_cons_zero, List.set_cons_succ])
  refine wpAnyH_take (i := 5) (v := ?vq2x5) rfl (by kernel_rfl) (by kernel_rfl) (by kernel_rfl) (fun _ _ _ h => h) (Or.inl ⟨by kernel_rfl, ?yq2x5⟩) (by assumption) ?rq2x5
  case yq2x5 => (intro wq hSw; (try dsimp only at hSw); go_simp; (try with_reducible rfl))
  (try simp only [Act.put, List.getElem_toArray, List.getElem_cons_succ, List.getElem_cons_zero, List.setIfInBounds_toArray, List.set_cons_zero, List.set_cons_succ])
  refine wpAnyH_take (i := 6) (v := ?vq2x6) rfl (by kernel_rfl) (by kernel_rfl) (by kernel_rfl) (fun _ _ _ h => h) (Or.inl ⟨by kernel_rfl, ?yq2x6⟩) (by assumption) ?rq2x6
  case yq2x6 => (intro wq hSw; (try dsimp only at hSw); go_simp; (try with_reducible rfl))
  (try simp only [Act.put, List.getElem_toArray, List.getElem_cons_succ, List.getElem_cons_zero, List.setIfInBounds_toArray, List.set_cons_zero, List.set_cons_succ])
  refine wpAnyH_take (i := 7) (v := ?vq2x7) rfl (by kernel_rfl) (by kernel_rfl) (by kernel_rfl) (fun _ _ _ h => h) (Or.inl ⟨by kernel_rfl, ?yq2x7⟩) (by assumption) ?rq2x7
  case yq2x7 => (intro wq hSw; (try dsimp only at hSw); go_simp; (try with_reducible rfl))
  (try simp only [Act.put, List.getElem_toArray, List.getElem_cons_succ, List.getElem_cons_zero, List.setIfInBounds_toArray, List.set_cons_zero, List.set_cons_succ])
  refine wpAnyH_take (i := 8) (v := ?vq2x8) rfl (by kernel_rfl) (by kernel_rfl) (by kernel_rfl) (fun _ _ _ h => h) (Or.inl ⟨by kernel_rfl, ?yq2x8⟩) (by assumption) ?rq2x8
  case yq2x8 => (intro wq hSw; (try dsimp only at hSw); go_simp; (try with_reducible rfl))
  (try simp only [Act.put, List.getElem_toArray, List.getElem_cons_succ, List.getElem_cons_zero, List.setIfInBounds_toArray, List.set_cons_zero, List.set_cons_succ])
  refine wpAnyH_ready (rs := [4]) (by kernel_rfl) (by simp) ?_
  refine AllReadyH.cons rfl (fun K hK => ?_) AllReadyH.nil
  go_simp
  refine (resize_z r hh x t _).mono ?_
  rintro e w1 ⟨z, rfl, hz, hb⟩; have H1 := H0.drew.next hb; clear hb H0 k0_0 k0_f0 k0_1 k0_f1 k0_2 k0_f2 k0_3 k0_f3 k1_0 k1_1 k1_2 k1_3 k1_4 k1_5 k1_6 k1_7 k1_8 k1_9 k1_10 k1_11; obtain ⟨⟨k0_0, k0_1, k0_2, k0_3⟩, ⟨k0_f0, k0_f1, k0_f2, k0_f3⟩⟩ := (H1.get 0 rfl).c4; obtain ⟨⟨k1_0, k1_1, k1_2, k1_3, k1_4, k1_5, k1_6, k1_7, k1_8, k1_9, k1_10, k1_11⟩, -⟩ := HB.out (H1.get 1 rfl)
  (try dsimp only)
  refine hK.out _ _ (by exact ⟨k0_0, k0_1, k0_2, k0_3, k1_0, k1_1, k1_2, k1_3, k1_4, k1_5, k1_6, k1_7, k1_8, k1_9, k1_10, k1_11⟩) (fun hHeld => ?_)
  clear hK K
  (try simp only [Act.put, List.getElem_toArray, List.getElem_cons_succ, List.getElem_cons_zero, List.setIfInBounds_toArray, List.set_cons_zero, List.set_cons_succ])
  refine wpAnyH_ready (rs := [9]) (by kernel_rfl) (by simp) ?_
  refine AllReadyH.cons rfl (fun K hK => ?_) AllReadyH.nil
  go_simp
  refine (rresize_z hz _).mono ?_
  rintro e w2 ⟨rfl, hb⟩; have H2 := H1.next hb; clear hb H1 k0_0 k0_f0 k0_1 k0_f1 k0_2 k0_f2 k0_3 k0_f3 k1_0 k1_1 k1_2 k1_3 k1_4 k1_5 k1_6 k1_7 k1_8 k1_9 k1_10 k1_11; obtain ⟨⟨k0_0, k0_1, k0_2, k0_3⟩, ⟨k0_f0, k0_f1, k0_f2, k0_f3⟩⟩ := (H2.get 0 rfl).c4; obtain ⟨⟨k1_0, k1_1, k1_2, k1_3, k1_4, k1_5, k1_6, k1_7, k1_8, k1_9, k1_10, k1_11⟩, -⟩ := HB.out (H2.get 1 rfl)
  (try dsimp only)
  refine hK.out _ _ (by exact ⟨k0_0, k0_1, k0_2, k0_3, k1_0, k1_1, k1_2, k1_3, k1_4, k1_5, k1_6, k1_7, k1_8, k1_9, k1_10, k1_11⟩) (fun hHeld => ?_)
  clear hK K
  (try simp only [Act.put, List.getElem_toArray, List.getElem_cons_succ, List.getElem_cons_zero, List.setIfInBounds_toArray, List.set_cons_zero, List.set_cons_succ])
  refine wpAnyH_take (i := 10) (v := ?vq2x10) rfl (by kernel_rfl) (by kernel_rfl) (by kernel_rfl) (fun _ _ _ h => h) (Or.inl ⟨by kernel_rfl, ?yq2x10⟩) (by assumption) ?rq2x10
  case yq2x10 => (intro wq hSw; (try dsimp only at hSw); go_simp; (try with_reducible rfl))
  (try simp only [Act.put, List.getElem_toArray, List.getElem_cons_succ, List.getElem_cons_zero, List.setIfInBounds_toArray, List.set_cons_zero, List.set_cons_succ])
  refine wpAnyH_take (i := 11) (v := ?vq2x11) rfl (by kernel_rfl) (by kernel_rfl) (by kernel_rfl) (fun _ _ _ h => h) (Or.inl ⟨by kernel_rfl, ?yq2x11⟩) (by assumption) ?rq2x11
  case yq2x11 => (intro wq hSw; (try dsimp only at hSw); go_simp; (try with_reducible rfl))
  (try simp only [Act.put, List.getElem_toArray, List.getElem_cons_succ, List.getElem_cons_zero, List.setIfInBounds_toArray, List.set_cons_zero, List.set_cons_succ])
  refine wpAnyH_ready (rs := [12]) (by kernel_rfl) (by simp) ?_
  refine AllReadyH.cons rfl (fun K hK => ?_) AllReadyH.nil
  go_simp
  refine (awake_c _).mono ?_
  rintro e w3 ⟨rfl, hb⟩; have H3 := H2.next hb; clear hb H2 k0_0 k0_f0 k0_1 k0_f1 k0_2 k0_f2 k0_3 k0_f3 k1_0 k1_1 k1_2 k1_3 k1_4 k1_5 k1_6 k1_7 k1_8 k1_9 k1_10 k1_11; obtain ⟨⟨k0_0, k0_1, k0_2, k0_3⟩, ⟨k0_f0, k0_f1, k0_f2, k0_f3⟩⟩ := (H3.get 0 rfl).c4; obtain ⟨⟨k1_0, k1_1, k1_2, k1_3, k1_4, k1_5, k1_6, k1_7, k1_8, k1_9, k1_10, k1_11⟩, -⟩ := HB.out (H3.get 1 rfl)
  (try dsimp only)
  refine hK.out _ _ (by exact ⟨k0_0, k0_1, k0_2, k0_3, k1_0, k1_1, k1_2, k1_3, k1_4, k1_5, k1_6, k1_7, k1_8, k1_9, k1_10, k1_11⟩) (fun hHeld => ?_)
  clear hK K
  (try simp only [Act.put, List.getElem_toArray, List.getElem_cons_succ, List.getElem_cons_zero, List.setIfInBounds_toArray, List.set_cons_zero, List.set_cons_succ])
  refine wpAnyH_take (i := 13) (v := ?vq2x13) rfl (by kernel_rfl) (by kernel_rfl) (by kernel_rfl) (fun _ _ _ h => h) (Or.inl ⟨by kernel_rfl, ?yq2x13⟩) (by assumption) ?rq2x13
  case yq2x13 => (intro wq hSw; (try dsimp only at hSw); go_simp; (try with_reducible rfl))
  (try simp only [Act.put, List.getElem_toArray, List.getElem_cons_succ, List.getElem_cons_zero, List.setIfInBounds_toArray, List.set_cons_zero, List.set_cons_succ])
  refine wpAnyH_take (i := 14) (v := ?vq2x14) rfl (by kernel_rfl) (by kernel_rfl) (by kernel_rfl) (fun _ _ _ h => h) (Or.inl ⟨by kernel_rfl, ?yq2x14⟩) (by assumption) ?rq2x14
  case yq2x14 => (intro wq hSw; (try dsimp only at hSw); go_simp; (try with_reducible rfl))
  (try simp only [Act.put, List.getElem_toArray, List.getElem_cons_succ, List.getElem_cons_zero, List.setIfInBounds_toArray, List.set_cons_zero, List.set_cons_succ])
  refine wpAnyH_done (by kernel_rfl) ?_ _
  refine NoPanic.normal ?_
  go_wp2_with fail
  go_ret
  exact ⟨rfl, H3.below⟩
set_option maxRecDepth 100000 in
set_option maxHeartbeats 4000000 in
theorem moves_w (r v : Rc) (x t : Int) (w : World) : Calls Try.prog 4 #[rcV r, rcV v, .int .i64 x, .int .i64 t] w fun e w' => e = .returned (.bool true) ∧ Below w.heap.size w w' := by
  have H0 := ((Bk.start w).alloc #[.int .i64 r.x, .int .i64 r.y, .int .i64 r.w, .int .i64 r.h] 23).alloc #[.int .i64 v.x, .int .i64 v.y, .int .i64 v.w, .int .i64 v.h] 23
  simp only [World.size_alloc, List.nil_append, List.cons_append] at H0
  obtain ⟨z, hz⟩ : ∃ z, z = moveR r v x t := ⟨_, rfl⟩
  have HA := Lib.hid (fun W => move_c r v x t W)
  have HB := Lib.hid (fun W => rmove_c r v x t W)
  rw [← hz] at HA HB
  clear hz
  go_enter Try.func4, Try.ntmps4
  go_upto_region 1 with fail
  obtain ⟨⟨k0_0, k0_1, k0_2, k0_3⟩, ⟨k0_f0, k0_f1, k0_f2, k0_f3⟩⟩ := (H0.get 0 rfl).c4; obtain ⟨⟨k1_0, k1_1, k1_2, k1_3⟩, ⟨k1_f0, k1_f1, k1_f2, k1_f3⟩⟩ := (H0.get 1 rfl).c4
  refine wp_region_noPanic ?_
  refine wp_region_held_drew (S := fun wx => wx.cell? ⟨w.heap.size, 0, none⟩ = some (.int .i64 r.x) ∧ wx.cell? ⟨w.heap.size, 1, none⟩ = some (.int .i64 r.y) ∧ wx.cell? ⟨w.heap.size, 2, none⟩ = some (.int .i64 r.w) ∧ wx.cell? ⟨w.heap.size, 3, none⟩ = some (.int .i64 r.h) ∧ wx.cell? ⟨w.heap.size + 1, 0, none⟩ = some (.int .i64 v.x) ∧ wx.cell? ⟨w.heap.size + 1, 1, none⟩ = some (.int .i64 v.y) ∧ wx.cell? ⟨w.heap.size + 1, 2, none⟩ = some (.int .i64 v.w) ∧ wx.cell? ⟨w.heap.size + 1, 3, none⟩ = some (.int .i64 v.h)) (by kernel_rfl) (by exact ⟨k0_0, k0_1, k0_2, k0_3, k1_0, k1_1, k1_2, k1_3⟩) (fun hHeld => ?_)
  refine wpAnyH_take (i := 0) (v := ?vq3x0) rfl (by kernel_rfl) (by kernel_rfl) (by kernel_rfl) (fun _ _ _ h => h) (Or.inl ⟨by kernel_rfl, ?yq3x0⟩) (by assumption) ?rq3x0
  case yq3x0 => (intro wq hSw; (try dsimp only at hSw); go_simp; (try with_reducible rfl))
  (try simp only [Act.put, List.getElem_toArray, List.getElem_cons_zero, List.setIfInBounds_toArray, List.set_cons_zero, List.set_cons_succ])
  refine wpAnyH_take (i := 1) (v := ?vq3x1) rfl (by kernel_rfl) (by kernel_rfl) (by kernel_rfl) (fun _ _ _ h => h) (Or.inl ⟨by kernel_rfl, ?yq3x1⟩) (by assumption) ?rq3x1
  case yq3x1 => (intro wq hSw; (try dsimp only at hSw); go_simp; (try with_reducible rfl))
  (try simp only [Act.put, List.getElem_toArray, List.getElem_cons_succ, List.getElem_cons_zero, List.setIfInBounds_toArray, List.set_cons_zero, List.set_cons_succ])
  refine wpAnyH_take (i := 2) (v := ?vq3x2) rfl (by kernel_rfl) (by kernel_rfl) (by kernel_rfl) (fun _ _ _ h => h) (Or.inl ⟨by kernel_rfl, ?yq3x2⟩) (by assumption) ?rq3x2
  case yq3x2 => (intro wq hSw; (try dsimp only at hSw); go_simp; (try with_reducible rfl))
  (try simp only [Act.put, List.getElem_toArray, List.getElem_cons_succ, List.getElem_cons_zero, List.setIfInBounds_toArray, List.set_cons_zero, List.set_cons_succ])
  refine wpAnyH_take (i := 3) (v := ?vq3x3) rfl (by kernel_rfl) (by kernel_rfl) (by kernel_rfl) (fun _ _ _ h => h) (Or.inl ⟨by kernel_rfl, ?yq3x3⟩) (by assumption) ?rq3x3
  case yq3x3 => (intro wq hSw; (try dsimp only at hSw); go_simp; (try with_reducible rfl))
  (try simp only [Act.put, List.getElem_toArray, List.getElem_cons_succ, List.getElem_cons_zero, List.setIfInBounds_toArray, List.set_cons_zero, List.set_cons_succ])
  refine wpAnyH_take (i := 5) (v := ?vq3x5) rfl (by kernel_rfl) (by kernel_rfl) (by kernel_rfl) (fun _ _ _ h => h) (Or.inl ⟨by kernel_rfl, ?yq3x5⟩) (by assumption) ?rq3x5
  case yq3x5 => (intro wq hSw; (try dsimp only at hSw); go_simp; (try with_reducible rfl))
  (try simp only [Act.put, List.getElem_toArray, List.getElem_cons_succ, List.getElem_cons_zero, List.setIfInBounds_toArray, List.set_cons_zero, List.set_cons_succ])
  refine wpAnyH_take (i := 6) (v := ?vq3x6) rfl (by kernel_rfl) (by kernel_rfl) (by kernel_rfl) (fun _ _ _ h => h) (Or.inl ⟨by kernel_rfl, ?yq3x6⟩) (by assumption) ?rq3x6
  case yq3x6 => (intro wq hSw; (try dsimp only at hSw); go_simp; (try with_reducible rfl))
  (try simp only [Act.put, List.getElem_toArray, List.getElem_cons_succ, List.getElem_cons_zero, List.setIfInBounds_toArray, List.set_cons_zero, List.set_cons_succ])
  refine wpAnyH_take (i := 7) (v := ?vq3x7) rfl (by kernel_rfl) (by kernel_rfl) (by kernel_rfl) (fun _ _ _ h => h) (Or.inl ⟨by kernel_rfl, ?yq3x7⟩) (by assumption) ?rq3x7
  case yq3x7 => (intro wq hSw; (try dsimp only at hSw); go_simp; (try with_reducible rfl))
  (try simp only [Act.put, List.getElem_toArray, List.getElem_cons_succ, List.getElem_cons_zero, List.setIfInBounds_toArray, List.set_cons_zero, List.set_cons_succ])
  refine wpAnyH_take (i := 8) (v := ?vq3x8) rfl (by kernel_rfl) (by kernel_rfl) (by kernel_rfl) (fun _ _ _ h => h) (Or.inl ⟨by kernel_rfl, ?yq3x8⟩) (by assumption) ?rq3x8
  case yq3x8 => (intro wq hSw; (try dsimp only at hSw); go_simp; (try with_reducible rfl))
  (try simp only [Act.put, List.getElem_toArray, List.getElem_cons_succ, List.getElem_cons_zero, List.setIfInBounds_toArray, List.set_cons_zero, List.set_cons_succ])
  refine wpAnyH_ready (rs := [4]) (by kernel_rfl) (by simp) ?_
  refine AllReadyH.cons rfl (fun K hK => ?_) AllReadyH.nil
  go_simp
  refine (HA.out _).mono ?_
  rintro e w1 ⟨rfl, hb⟩; have H1 := H0.drew.next hb; clear hb H0 k0_0 k0_f0 k0_1 k0_f1 k0_2 k0_f2 k0_3 k0_f3 k1_0 k1_f0 k1_1 k1_f1 k1_2 k1_f2 k1_3 k1_f3; obtain ⟨⟨k0_0, k0_1, k0_2, k0_3⟩, ⟨k0_f0, k0_f1, k0_f2, k0_f3⟩⟩ := (H1.get 0 rfl).c4; obtain ⟨⟨k1_0, k1_1, k1_2, k1_3⟩, ⟨k1_f0, k1_f1, k1_f2, k1_f3⟩⟩ := (H1.get 1 rfl).c4
  (try dsimp only)
  refine hK.out _ _ (by exact ⟨k0_0, k0_1, k0_2, k0_3, k1_0, k1_1, k1_2, k1_3⟩) (fun hHeld => ?_)
  clear hK K
  (try simp only [Act.put, List.getElem_toArray, List.getElem_cons_succ, List.getElem_cons_zero, List.setIfInBounds_toArray, List.set_cons_zero, List.set_cons_succ])
  refine wpAnyH_ready (rs := [9]) (by kernel_rfl) (by simp) ?_
  refine AllReadyH.cons rfl (fun K hK => ?_) AllReadyH.nil
  go_simp
  refine (HB.out _).mono ?_
  rintro e w2 ⟨rfl, hb⟩; have H2 := H1.next hb; clear hb H1 k0_0 k0_f0 k0_1 k0_f1 k0_2 k0_f2 k0_3 k0_f3 k1_0 k1_f0 k1_1 k1_f1 k1_2 k1_f2 k1_3 k1_f3; obtain ⟨⟨k0_0, k0_1, k0_2, k0_3⟩, ⟨k0_f0, k0_f1, k0_f2, k0_f3⟩⟩ := (H2.get 0 rfl).c4; obtain ⟨⟨k1_0, k1_1, k1_2, k1_3⟩, ⟨k1_f0, k1_f1, k1_f2, k1_f3⟩⟩ := (H2.get 1 rfl).c4
  (try dsimp only)
  refine hK.out _ _ (by exact ⟨k0_0, k0_1, k0_2, k0_3, k1_0, k1_1, k1_2, k1_3⟩) (fun hHeld => ?_)
  clear hK K
  (try simp only [Act.put, List.getElem_toArray, List.getElem_cons_succ, List.getElem_cons_zero, List.setIfInBounds_toArray, List.set_cons_zero, List.set_cons_succ])
  refine wpAnyH_take (i := 10) (v := ?vq3x10) rfl (by kernel_rfl) (by kernel_rfl) (by kernel_rfl) (fun _ _ _ h => h) (Or.inl ⟨by kernel_rfl, ?yq3x10⟩) (by assumption) ?rq3x10
  case yq3x10 => (intro wq hSw; (try dsimp only at hSw); go_simp; (try with_reducible rfl))
  (try simp only [Act.put, List.getElem_toArray, List.getElem_cons_succ, List.getElem_cons_zero, List.setIfInBounds_toArray, List.set_cons_zero, List.set_cons_succ])
  refine wpAnyH_take (i := 11) (v := ?vq3x11) rfl (by kernel_rfl) (by kernel_rfl) (by kernel_rfl) (fun _ _ _ h => h) (Or.inl ⟨by kernel_rfl, ?yq3x11⟩) (by assumption) ?rq3x11
  case yq3x11 => (intro wq hSw; (try dsimp only at hSw); go_simp; (try with_reducible rfl))
  (try simp only [Act.put, List.getElem_toArray, List.getElem_cons_succ, List.getElem_cons_zero, List.setIfInBounds_toArray, List.set_cons_zero, List.set_cons_succ])
  refine wpAnyH_ready (rs := [12]) (by kernel_rfl) (by simp) ?_
  refine AllReadyH.cons rfl (fun K hK => ?_) AllReadyH.nil
  go_simp
  refine (awake_c _).mono ?_
  rintro e w3 ⟨rfl, hb⟩; have H3 := H2.next hb; clear hb H2 k0_0 k0_f0 k0_1 k0_f1 k0_2 k0_f2 k0_3 k0_f3 k1_0 k1_f0 k1_1 k1_f1 k1_2 k1_f2 k1_3 k1_f3; obtain ⟨⟨k0_0, k0_1, k0_2, k0_3⟩, ⟨k0_f0, k0_f1, k0_f2, k0_f3⟩⟩ := (H3.get 0 rfl).c4; obtain ⟨⟨k1_0, k1_1, k1_2, k1_3⟩, ⟨k1_f0, k1_f1, k1_f2, k1_f3⟩⟩ := (H3.get 1 rfl).c4
  (try dsimp only)
  refine hK.out _ _ (by exact ⟨k0_0, k0_1, k0_2, k0_3, k1_0, k1_1, k1_2, k1_3⟩) (fun hHeld => ?_)
  clear hK K
  (try simp only [Act.put, List.getElem_toArray, List.getElem_cons_succ, List.getElem_cons_zero, List.setIfInBounds_toArray, List.set_cons_zero, List.set_cons_succ])
  refine wpAnyH_take (i := 13) (v := ?vq3x13) rfl (by kernel_rfl) (by kernel_rfl) (by kernel_rfl) (fun _ _ _ h => h) (Or.inl ⟨by kernel_rfl, ?yq3x13⟩) (by assumption) ?rq3x13
  case yq3x13 => (intro wq hSw; (try dsimp only at hSw); go_simp; (try with_reducible rfl))
  (try simp only [Act.put, List.getElem_toArray, List.getElem_cons_succ, List.getElem_cons_zero, List.setIfInBounds_toArray, List.set_cons_zero, List.set_cons_succ])
  refine wpAnyH_take (i := 14) (v := ?vq3x14) rfl (by kernel_rfl) (by kernel_rfl) (by kernel_rfl) (fun _ _ _ h => h) (Or.inl ⟨by kernel_rfl, ?yq3x14⟩) (by assumption) ?rq3x14
  case yq3x14 => (intro wq hSw; (try dsimp only at hSw); go_simp; (try with_reducible rfl))
  (try simp only [Act.put, List.getElem_toArray, List.getElem_cons_succ, List.getElem_cons_zero, List.setIfInBounds_toArray, List.set_cons_zero, List.set_cons_succ])
  refine wpAnyH_done (by kernel_rfl) ?_ _
  refine NoPanic.normal ?_
  go_wp2_with fail
  go_ret
  exact ⟨rfl, H3.below⟩
set_option maxRecDepth 100000 in
set_option maxHeartbeats 4000000 in
theorem frames_w (r : Rc) (g b t : Int) (w : World) : Calls Try.prog 6 #[rcV r, stV g b t] w fun e w' => e = .returned (.bool true) ∧ Below w.heap.size w w' := by
  cases hk : hasFrame r g b t
  · have H0 := ((Bk.start w).alloc #[.int .i64 r.x, .int .i64 r.y, .int .i64 r.w, .int .i64 r.h] 23).alloc #[.int .i64 g, .int .i64 b, .int .i64 t] 34
    simp only [World.size_alloc, List.nil_append, List.cons_append] at H0
    obtain ⟨z, hz⟩ : ∃ z, z = frameR r g b t := ⟨_, rfl⟩
    obtain ⟨i, hi⟩ : ∃ i, i = innerR r g b t := ⟨_, rfl⟩
    have HA := Lib.hid (fun W => frame_c r g b t W)
    have HB := Lib.hid (fun W => rframe_c r g b t W)
    have HI := Lib.hid (fun W => inner_c r g b t W)
    have HJ := Lib.hid (fun W => rinner_c r g b t W)
    rw [← hz, hk] at HA HB
    rw [← hi] at HI HJ
    clear hz hi hk
    go_enter Try.func6, Try.ntmps6
    obtain ⟨⟨c0_0, c0_1, c0_2, c0_3⟩, ⟨f0_0, f0_1, f0_2, f0_3⟩⟩ := (H0.get 0 rfl).c4
    obtain ⟨⟨c1_0, c1_1, c1_2⟩, ⟨f1_0, f1_1, f1_2⟩⟩ := (H0.get 1 rfl).c3
    go_wp2_with fail
    with_reducible refine (HA.out _).mono ?_
    rintro e w1 ⟨rfl, hb⟩
    have H1 := H0.next hb
    clear hb H0
    clear c0_0 c0_1 c0_2 c0_3 f0_0 f0_1 f0_2 f0_3 c1_0 c1_1 c1_2 f1_0 f1_1 f1_2
    obtain ⟨⟨c0_0, c0_1, c0_2, c0_3⟩, ⟨f0_0, f0_1, f0_2, f0_3⟩⟩ := (H1.get 0 rfl).c4
    obtain ⟨⟨c1_0, c1_1, c1_2⟩, ⟨f1_0, f1_1, f1_2⟩⟩ := (H1.get 1 rfl).c3
    go_upto_region 2 with fail
    have H2 := H1.alloc #[.int .i64 z.x, .int .i64 z.y, .int .i64 z.w, .int .i64 z.h] 23
    simp only [List.nil_append, List.cons_append] at H2
    obtain ⟨w2, hw2⟩ : ∃ wz, wz = w1.alloc (.cells #[.int .i64 z.x, .int .i64 z.y, .int .i64 z.w, .int .i64 z.h] 23) := ⟨_, rfl⟩
    rewrite [← hw2] at H2 ⊢
    obtain ⟨g2, hg2⟩ : ∃ gz, gz = w1.heap.size := ⟨_, rfl⟩
    rewrite [← hg2] at H2 ⊢
    have dg2_0 : w.heap.size ≠ g2 := by rw [hg2]; exact Nat.ne_of_lt (H1.get 0 rfl).lt
    have eg2_0 : g2 ≠ w.heap.size := dg2_0.symm
    have dg2_1 : w.heap.size + 1 ≠ g2 := by rw [hg2]; exact Nat.ne_of_lt (H1.get 1 rfl).lt
    have eg2_1 : g2 ≠ w.heap.size + 1 := dg2_1.symm
    clear hw2 hg2 H1 c0_0 c0_1 c0_2 c0_3 f0_0 f0_1 f0_2 f0_3 c1_0 c1_1 c1_2 f1_0 f1_1 f1_2
    obtain ⟨⟨c0_0, c0_1, c0_2, c0_3⟩, ⟨f0_0, f0_1, f0_2, f0_3⟩⟩ := (H2.get 0 rfl).c4
    obtain ⟨⟨c1_0, c1_1, c1_2⟩, ⟨f1_0, f1_1, f1_2⟩⟩ := (H2.get 1 rfl).c3
    obtain ⟨⟨c2_0, c2_1, c2_2, c2_3⟩, ⟨f2_0, f2_1, f2_2, f2_3⟩⟩ := (H2.get 2 rfl).c4
    go_wp2_with fail
    with_reducible refine (HB.out _).mono ?_
    rintro e w3 ⟨rfl, hb⟩
    have H3 := H2.next hb
    clear hb H2
    clear c0_0 c0_1 c0_2 c0_3 f0_0 f0_1 f0_2 f0_3 c1_0 c1_1 c1_2 f1_0 f1_1 f1_2 c2_0 c2_1 c2_2 c2_3 f2_0 f2_1 f2_2 f2_3
    obtain ⟨⟨c0_0, c0_1, c0_2, c0_3⟩, ⟨f0_0, f0_1, f0_2, f0_3⟩⟩ := (H3.get 0 rfl).c4
    obtain ⟨⟨c1_0, c1_1, c1_2⟩, ⟨f1_0, f1_1, f1_2⟩⟩ := (H3.get 1 rfl).c3
    obtain ⟨⟨c2_0, c2_1, c2_2, c2_3⟩, ⟨f2_0, f2_1, f2_2, f2_3⟩⟩ := (H3.get 2 rfl).c4
    go_upto_region 3 with fail
    have H4 := H3.alloc #[.int .i64 z.x, .int .i64 z.y, .int .i64 z.w, .int .i64 z.h] 23
    simp only [List.nil_append, List.cons_append] at H4
    obtain ⟨w4, hw4⟩ : ∃ wz, wz = w3.alloc (.cells #[.int .i64 z.x, .int .i64 z.y, .int .i64 z.w, .int .i64 z.h] 23) := ⟨_, rfl⟩
    rewrite [← hw4] at H4 ⊢
    obtain ⟨g4, hg4⟩ : ∃ gz, gz = w3.heap.size := ⟨_, rfl⟩
    rewrite [← hg4] at H4 ⊢
    have dg4_0 : w.heap.size ≠ g4 := by rw [hg4]; exact Nat.ne_of_lt (H3.get 0 rfl).lt
    have eg4_0 : g4 ≠ w.heap.size := dg4_0.symm
    have dg4_1 : w.heap.size + 1 ≠ g4 := by rw [hg4]; exact Nat.ne_of_lt (H3.get 1 rfl).lt
    have eg4_1 : g4 ≠ w.heap.size + 1 := dg4_1.symm
    have dg4_2 : g2 ≠ g4 := by rw [hg4]; exact Nat.ne_of_lt (H3.get 2 rfl).lt
    have eg4_2 : g4 ≠ g2 := dg4_2.symm
    clear hw4 hg4 H3 c0_0 c0_1 c0_2 c0_3 f0_0 f0_1 f0_2 f0_3 c1_0 c1_1 c1_2 f1_0 f1_1 f1_2 c2_0 c2_1 c2_2 c2_3 f2_0 f2_1 f2_2 f2_3
    obtain ⟨⟨k0_0, k0_1, k0_2, k0_3⟩, ⟨k0_f0, k0_f1, k0_f2, k0_f3⟩⟩ := (H4.get 0 rfl).c4; obtain ⟨⟨k1_0, k1_1, k1_2⟩, ⟨k1_f0, k1_f1, k1_f2⟩⟩ := (H4.get 1 rfl).c3; obtain ⟨⟨k2_0, k2_1, k2_2, k2_3⟩, ⟨k2_f0, k2_f1, k2_f2, k2_f3⟩⟩ := (H4.get 2 rfl).c4; obtain ⟨⟨k3_0, k3_1, k3_2, k3_3⟩, ⟨k3_f0, k3_f1, k3_f2, k3_f3⟩⟩ := (H4.get 3 rfl).c4
    refine wp_region_noPanic ?_
    refine wp_region_held_drew (S := fun wx => wx.cell? ⟨w.heap.size, 0, none⟩ = some (.int .i64 r.x) ∧ wx.cell? ⟨w.heap.size, 1, none⟩ = some (.int .i64 r.y) ∧ wx.cell? ⟨w.heap.size, 2, none⟩ = some (.int .i64 r.w) ∧ wx.cell? ⟨w.heap.size, 3, none⟩ = some (.int .i64 r.h) ∧ wx.cell? ⟨w.heap.size + 1, 0, none⟩ = some (.int .i64 g) ∧ wx.cell? ⟨w.heap.size + 1, 1, none⟩ = some (.int .i64 b) ∧ wx.cell? ⟨w.heap.size + 1, 2, none⟩ = some (.int .i64 t) ∧ wx.cell? ⟨g2, 0, none⟩ = some (.int .i64 z.x) ∧ wx.cell? ⟨g2, 1, none⟩ = some (.int .i64 z.y) ∧ wx.cell? ⟨g2, 2, none⟩ = some (.int .i64 z.w) ∧ wx.cell? ⟨g2, 3, none⟩ = some (.int .i64 z.h) ∧ wx.cell? ⟨g4, 0, none⟩ = some (.int .i64 z.x) ∧ wx.cell? ⟨g4, 1, none⟩ = some (.int .i64 z.y) ∧ wx.cell? ⟨g4, 2, none⟩ = some (.int .i64 z.w) ∧ wx.cell? ⟨g4, 3, none⟩ = some (.int .i64 z.h)) (by kernel_rfl) (by exact ⟨k0_0, k0_1, k0_2, k0_3, k1_0, k1_1, k1_2, k2_0, k2_1, k2_2, k2_3, k3_0, k3_1, k3_2, k3_3⟩) (fun hHeld => ?_)
    refine wpAnyH_take (i := 0) (v := ?vq4x0) rfl (by kernel_rfl) (by kernel_rfl) (by kernel_rfl) (fun _ _ _ h => h) (Or.inl ⟨by kernel_rfl, ?yq4x0⟩) (by assumption) ?rq4x0
    case yq4x0 => (intro wq hSw; (try dsimp only at hSw); go_simp; (try with_reducible rfl))
    (try simp only [Act.put, List.getElem_toArray, List.getElem_cons_zero, List.setIfInBounds_toArray, List.set_cons_zero, List.set_cons_succ])
    refine wpAnyH_take (i := 1) (v := ?vq4x1) rfl (by kernel_rfl) (by kernel_rfl) (by kernel_rfl) (fun _ _ _ h => h) (Or.inl ⟨by kernel_rfl, ?yq4x1⟩) (by assumption) ?rq4x1
    case yq4x1 => (intro wq hSw; (try dsimp only at hSw); go_simp; (try with_reducible rfl))
    (try simp only [Act.put, List.getElem_toArray, List.getElem_cons_succ, List.getElem_cons_zero, List.setIfInBounds_toArray, List.set_cons_zero, List.set_cons_succ])
    refine wpAnyH_take (i := 2) (v := ?vq4x2) rfl (by kernel_rfl) (by kernel_rfl) (by kernel_rfl) (fun _ _ _ h => h) (Or.inl ⟨by kernel_rfl, ?yq4x2⟩) (by assumption) ?rq4x2
    case yq4x2 => (intro wq hSw; (try dsimp only at hSw); go_simp; (try with_reducible rfl))
    (try simp only [Act.put, List.getElem_toArray, List.getElem_cons_succ, List.getElem_cons_zero, List.setIfInBounds_toArray, List.set_cons_zero, List.set_cons_succ])
    refine wpAnyH_take (i := 3) (v := ?vq4x3) rfl (by kernel_rfl) (by kernel_rfl) (by kernel_rfl) (fun _ _ _ h => h) (Or.inl ⟨by kernel_rfl, ?yq4x3⟩) (by assumption) ?rq4x3
    case yq4x3 => (intro wq hSw; (try dsimp only at hSw); go_simp; (try with_reducible rfl))
    (try simp only [Act.put, List.getElem_toArray, List.getElem_cons_succ, List.getElem_cons_zero, List.setIfInBounds_toArray, List.set_cons_zero, List.set_cons_succ])
    refine wpAnyH_take (i := 4) (v := ?vq4x4) rfl (by kernel_rfl) (by kernel_rfl) (by kernel_rfl) (fun _ _ _ h => h) (Or.inl ⟨by kernel_rfl, ?yq4x4⟩) (by assumption) ?rq4x4
    case yq4x4 => (intro wq hSw; (try dsimp only at hSw); go_simp; (try with_reducible rfl))
    (try simp only [Act.put, List.getElem_toArray, List.getElem_cons_succ, List.getElem_cons_zero, List.setIfInBounds_toArray, List.set_cons_zero, List.set_cons_succ])
    refine wpAnyH_take (i := 5) (v := ?vq4x5) rfl (by kernel_rfl) (by kernel_rfl) (by kernel_rfl) (fun _ _ _ h => h) (Or.inl ⟨by kernel_rfl, ?yq4x5⟩) (by assumption) ?rq4x5
    case yq4x5 => (intro wq hSw; (try dsimp only at hSw); go_simp; (try with_reducible rfl))
    (try simp only [Act.put, List.getElem_toArray, List.getElem_cons_succ, List.getElem_cons_zero, List.setIfInBounds_toArray, List.set_cons_zero, List.set_cons_succ])
    refine wpAnyH_take (i := 6) (v := ?vq4x6) rfl (by kernel_rfl) (by kernel_rfl) (by kernel_rfl) (fun _ _ _ h => h) (Or.inl ⟨by kernel_rfl, ?yq4x6⟩) (by assumption) ?rq4x6
    case yq4x6 => (intro wq hSw; (try dsimp only at hSw); go_simp; (try with_reducible rfl))
    (try simp only [Act.put, List.getElem_toArray, List.getElem_cons_succ, List.getElem_cons_zero, List.setIfInBounds_toArray, List.set_cons_zero, List.set_cons_succ])
    refine wpAnyH_take (i := 7) (v := ?vq4x7) rfl (by kernel_rfl) (by kernel_rfl) (by kernel_rfl) (fun _ _ _ h => h) (Or.inl ⟨by kernel_rfl, ?yq4x7⟩) (by assumption) ?rq4x7
    case yq4x7 => (intro wq hSw; (try dsimp only at hSw); go_simp; (try with_reducible rfl))
    (try simp only [Act.put, List.getElem_toArray, List.getElem_cons_succ, List.getElem_cons_zero, List.setIfInBounds_toArray, List.set_cons_zero, List.set_cons_succ])
    refine wpAnyH_take (i := 8) (v := ?vq4x8) rfl (by kernel_rfl) (by kernel_rfl) (by kernel_rfl) (fun _ _ _ h => h) (Or.inl ⟨by kernel_rfl, ?yq4x8⟩) (by assumption) ?rq4x8
    case yq4x8 => (intro wq hSw; (try dsimp only at hSw); go_simp; (try with_reducible rfl))
    (try simp only [Act.put, List.getElem_toArray, List.getElem_cons_succ, List.getElem_cons_zero, List.setIfInBounds_toArray, List.set_cons_zero, List.set_cons_succ])
    refine wpAnyH_take (i := 9) (v := ?vq4x9) rfl (by kernel_rfl) (by kernel_rfl) (by kernel_rfl) (fun _ _ _ h => h) (Or.inl ⟨by kernel_rfl, ?yq4x9⟩) (by assumption) ?rq4x9
    case yq4x9 => (intro wq hSw; (try dsimp only at hSw); go_simp; (try with_reducible rfl))
    (try simp only [Act.put, List.getElem_toArray, List.getElem_cons_succ, List.getElem_cons_zero, List.setIfInBounds_toArray, List.set_cons_zero, List.set_cons_succ])
    refine wpAnyH_take (i := 10) (v := ?vq4x10) rfl (by kernel_rfl) (by kernel_rfl) (by kernel_rfl) (fun _ _ _ h => h) (Or.inl ⟨by kernel_rfl, ?yq4x10⟩) (by assumption) ?rq4x10
    case yq4x10 => (intro wq hSw; (try dsimp only at hSw); go_simp; (try with_reducible rfl))
    (try simp only [Act.put, List.getElem_toArray, List.getElem_cons_succ, List.getElem_cons_zero, List.setIfInBounds_toArray, List.set_cons_zero, List.set_cons_succ])
    refine wpAnyH_take (i := 12) (v := ?vq4x12) rfl (by kernel_rfl) (by kernel_rfl) (by kernel_rfl) (fun _ _ _ h => h) (Or.inl ⟨by kernel_rfl, ?yq4x12⟩) (by assumption) ?rq4x12
    case yq4x12 => (intro wq hSw; (try dsimp only at hSw); go_simp; (try with_reducible rfl))
    (try simp only [Act.put, List.getElem_toArray, List.getElem_cons_succ, List.getElem_cons_zero, List.setIfInBounds_toArray, List.set_cons_zero, List.set_cons_succ])
    refine wpAnyH_take (i := 13) (v := ?vq4x13) rfl (by kernel_rfl) (by kernel_rfl) (by kernel_rfl) (fun _ _ _ h => h) (Or.inl ⟨by kernel_rfl, ?yq4x13⟩) (by assumption) ?rq4x13
    case yq4x13 => (intro wq hSw; (try dsimp only at hSw); go_simp; (try with_reducible rfl))
    (try simp only [Act.put, List.getElem_toArray, List.getElem_cons_succ, List.getElem_cons_zero, List.setIfInBounds_toArray, List.set_cons_zero, List.set_cons_succ])
    refine wpAnyH_ready (rs := [11]) (by kernel_rfl) (by simp) ?_
    refine AllReadyH.cons rfl (fun K hK => ?_) AllReadyH.nil
    go_simp
    refine (HI.out _).mono ?_
    rintro e w5 ⟨rfl, hb⟩; have H5 := H4.drew.next hb; clear hb H4 k0_0 k0_f0 k0_1 k0_f1 k0_2 k0_f2 k0_3 k0_f3 k1_0 k1_f0 k1_1 k1_f1 k1_2 k1_f2 k2_0 k2_f0 k2_1 k2_f1 k2_2 k2_f2 k2_3 k2_f3 k3_0 k3_f0 k3_1 k3_f1 k3_2 k3_f2 k3_3 k3_f3; obtain ⟨⟨k0_0, k0_1, k0_2, k0_3⟩, ⟨k0_f0, k0_f1, k0_f2, k0_f3⟩⟩ := (H5.get 0 rfl).c4; obtain ⟨⟨k1_0, k1_1, k1_2⟩, ⟨k1_f0, k1_f1, k1_f2⟩⟩ := (H5.get 1 rfl).c3; obtain ⟨⟨k2_0, k2_1, k2_2, k2_3⟩, ⟨k2_f0, k2_f1, k2_f2, k2_f3⟩⟩ := (H5.get 2 rfl).c4; obtain ⟨⟨k3_0, k3_1, k3_2, k3_3⟩, ⟨k3_f0, k3_f1, k3_f2, k3_f3⟩⟩ := (H5.get 3 rfl).c4
    (try dsimp only)
    refine hK.out _ _ (by exact ⟨k0_0, k0_1, k0_2, k0_3, k1_0, k1_1, k1_2, k2_0, k2_1, k2_2, k2_3, k3_0, k3_1, k3_2, k3_3⟩) (fun hHeld => ?_)
    clear hK K
    (try simp only [Act.put, List.getElem_toArray, List.getElem_cons_succ, List.getElem_cons_zero, List.setIfInBounds_toArray, List.set_cons_zero, List.set_cons_succ])
    refine wpAnyH_ready (rs := [14]) (by kernel_rfl) (by simp) ?_
    refine AllReadyH.cons rfl (fun K hK => ?_) AllReadyH.nil
    go_simp
    refine (HJ.out _).mono ?_
    rintro e w6 ⟨rfl, hb⟩; have H6 := H5.next hb; clear hb H5 k0_0 k0_f0 k0_1 k0_f1 k0_2 k0_f2 k0_3 k0_f3 k1_0 k1_f0 k1_1 k1_f1 k1_2 k1_f2 k2_0 k2_f0 k2_1 k2_f1 k2_2 k2_f2 k2_3 k2_f3 k3_0 k3_f0 k3_1 k3_f1 k3_2 k3_f2 k3_3 k3_f3; obtain ⟨⟨k0_0, k0_1, k0_2, k0_3⟩, ⟨k0_f0, k0_f1, k0_f2, k0_f3⟩⟩ := (H6.get 0 rfl).c4; obtain ⟨⟨k1_0, k1_1, k1_2⟩, ⟨k1_f0, k1_f1, k1_f2⟩⟩ := (H6.get 1 rfl).c3; obtain ⟨⟨k2_0, k2_1, k2_2, k2_3⟩, ⟨k2_f0, k2_f1, k2_f2, k2_f3⟩⟩ := (H6.get 2 rfl).c4; obtain ⟨⟨k3_0, k3_1, k3_2, k3_3⟩, ⟨k3_f0, k3_f1, k3_f2, k3_f3⟩⟩ := (H6.get 3 rfl).c4
    (try dsimp only)
    refine hK.out _ _ (by exact ⟨k0_0, k0_1, k0_2, k0_3, k1_0, k1_1, k1_2, k2_0, k2_1, k2_2, k2_3, k3_0, k3_1, k3_2, k3_3⟩) (fun hHeld => ?_)
    clear hK K
    (try simp only [Act.put, List.getElem_toArray, List.getElem_cons_succ, List.getElem_cons_zero, List.setIfInBounds_toArray, List.set_cons_zero, List.set_cons_succ])
    refine wpAnyH_take (i := 15) (v := ?vq4x15) rfl (by kernel_rfl) (by kernel_rfl) (by kernel_rfl) (fun _ _ _ h => h) (Or.inl ⟨by kernel_rfl, ?yq4x15⟩) (by assumption) ?rq4x15
    case yq4x15 => (intro wq hSw; (try dsimp only at hSw); go_simp; (try with_reducible rfl))
    (try simp only [Act.put, List.getElem_toArray, List.getElem_cons_succ, List.getElem_cons_zero, List.setIfInBounds_toArray, List.set_cons_zero, List.set_cons_succ])
    refine wpAnyH_take (i := 16) (v := ?vq4x16) rfl (by kernel_rfl) (by kernel_rfl) (by kernel_rfl) (fun _ _ _ h => h) (Or.inl ⟨by kernel_rfl, ?yq4x16⟩) (by assumption) ?rq4x16
    case yq4x16 => (intro wq hSw; (try dsimp only at hSw); go_simp; (try with_reducible rfl))
    (try simp only [Act.put, List.getElem_toArray, List.getElem_cons_succ, List.getElem_cons_zero, List.setIfInBounds_toArray, List.set_cons_zero, List.set_cons_succ])
    refine wpAnyH_done (by kernel_rfl) ?_ _
    refine NoPanic.normal ?_
    go_upto_region 5 with fail
    clear k0_0 k0_f0 k0_1 k0_f1 k0_2 k0_f2 k0_3 k0_f3 k1_0 k1_f0 k1_1 k1_f1 k1_2 k1_f2 k2_0 k2_f0 k2_1 k2_f1 k2_2 k2_f2 k2_3 k2_f3 k3_0 k3_f0 k3_1 k3_f1 k3_2 k3_f2 k3_3 k3_f3
    skip
    refine wp_region_noPanic ?_
    refine wp_region_held_drew (S := fun wx => True) (by kernel_rfl) (by exact trivial) (fun hHeld => ?_)
    refine wpAnyH_take (i := 0) (v := ?vq5x0) rfl (by kernel_rfl) (by kernel_rfl) (by kernel_rfl) (fun _ _ _ h => h) (Or.inl ⟨by kernel_rfl, ?yq5x0⟩) (by assumption) ?rq5x0
    case yq5x0 => (intro wq hSw; (try dsimp only at hSw); go_simp; (try with_reducible rfl))
    (try simp only [Act.put, List.getElem_toArray, List.getElem_cons_zero, List.setIfInBounds_toArray, List.set_cons_zero, List.set_cons_succ])
    refine wpAnyH_take (i := 1) (v := ?vq5x1) rfl (by kernel_rfl) (by kernel_rfl) (by kernel_rfl) (fun _ _ _ h => h) (Or.inl ⟨by kernel_rfl, ?yq5x1⟩) (by assumption) ?rq5x1
    case yq5x1 => (intro wq hSw; (try dsimp only at hSw); go_simp; (try with_reducible rfl))
    (try simp only [Act.put, List.getElem_toArray, List.getElem_cons_succ, List.getElem_cons_zero, List.setIfInBounds_toArray, List.set_cons_zero, List.set_cons_succ])
    refine wpAnyH_take (i := 2) (v := ?vq5x2) rfl (by kernel_rfl) (by kernel_rfl) (by kernel_rfl) (fun _ _ _ h => h) (Or.inl ⟨by kernel_rfl, ?yq5x2⟩) (by assumption) ?rq5x2
    case yq5x2 => (intro wq hSw; (try dsimp only at hSw); go_simp; (try with_reducible rfl))
    (try simp only [Act.put, List.getElem_toArray, List.getElem_cons_succ, List.getElem_cons_zero, List.setIfInBounds_toArray, List.set_cons_zero, List.set_cons_succ])
    refine wpAnyH_take (i := 3) (v := undef) rfl (by kernel_rfl) (by kernel_rfl) (by kernel_rfl) (fun _ _ _ h => h) (Or.inr ⟨by kernel_rfl, rfl⟩) (by assumption) ?_
    (try simp only [Act.put, List.getElem_toArray, List.getElem_cons_succ, List.getElem_cons_zero, List.setIfInBounds_toArray, List.set_cons_zero, List.set_cons_succ])
    refine wpAnyH_take (i := 4) (v := undef) rfl (by kernel_rfl) (by kernel_rfl) (by kernel_rfl) (fun _ _ _ h => h) (Or.inr ⟨by kernel_rfl, rfl⟩) (by assumption) ?_
    (try simp only [Act.put, List.getElem_toArray, List.getElem_cons_succ, List.getElem_cons_zero, List.setIfInBounds_toArray, List.set_cons_zero, List.set_cons_succ])
    refine wpAnyH_take (i := 5) (v := undef) rfl (by kernel_rfl) (by kernel_rfl) (by kernel_rfl) (fun _ _ _ h => h) (Or.inr ⟨by kernel_rfl, rfl⟩) (by assumption) ?_
    (try simp only [Act.put, List.getElem_toArray, List.getElem_cons_succ, List.getElem_cons_zero, List.setIfInBounds_toArray, List.set_cons_zero, List.set_cons_succ])
    refine wpAnyH_take (i := 6) (v := undef) rfl (by kernel_rfl) (by kernel_rfl) (by kernel_rfl) (fun _ _ _ h => h) (Or.inr ⟨by kernel_rfl, rfl⟩) (by assumption) ?_
    (try simp only [Act.put, List.getElem_toArray, List.getElem_cons_succ, List.getElem_cons_zero, List.setIfInBounds_toArray, List.set_cons_zero, List.set_cons_succ])
    refine wpAnyH_take (i := 7) (v := undef) rfl (by kernel_rfl) (by kernel_rfl) (by kernel_rfl) (fun _ _ _ h => h) (Or.inr ⟨by kernel_rfl, rfl⟩) (by assumption) ?_
    (try simp only [Act.put, List.getElem_toArray, List.getElem_cons_succ, List.getElem_cons_zero, List.setIfInBounds_toArray, List.set_cons_zero, List.set_cons_succ])
    refine wpAnyH_take (i := 8) (v := ?vq5x8) rfl (by kernel_rfl) (by kernel_rfl) (by kernel_rfl) (fun _ _ _ h => h) (Or.inl ⟨by kernel_rfl, ?yq5x8⟩) (by assumption) ?rq5x8
    case yq5x8 => (intro wq hSw; (try dsimp only at hSw); go_simp; (try with_reducible rfl))
    (try simp only [Act.put, List.getElem_toArray, List.getElem_cons_succ, List.getElem_cons_zero, List.setIfInBounds_toArray, List.set_cons_zero, List.set_cons_succ])
    refine wpAnyH_take (i := 9) (v := ?vq5x9) rfl (by kernel_rfl) (by kernel_rfl) (by kernel_rfl) (fun _ _ _ h => h) (Or.inl ⟨by kernel_rfl, ?yq5x9⟩) (by assumption) ?rq5x9
    case yq5x9 => (intro wq hSw; (try dsimp only at hSw); go_simp; (try with_reducible rfl))
    (try simp only [Act.put, List.getElem_toArray, List.getElem_cons_succ, List.getElem_cons_zero, List.setIfInBounds_toArray, List.set_cons_zero, List.set_cons_succ])
    refine wpAnyH_ready (rs := [10]) (by kernel_rfl) (by simp) ?_
    refine AllReadyH.cons rfl (fun K hK => ?_) AllReadyH.nil
    go_simp
    refine (awake_c _).mono ?_
    rintro e w7 ⟨rfl, hb⟩; have H7 := H6.drew.next hb; clear hb H6 ; skip
    (try dsimp only)
    refine hK.out _ _ (by exact trivial) (fun hHeld => ?_)
    clear hK K
    (try simp only [Act.put, List.getElem_toArray, List.getElem_cons_succ, List.getElem_cons_zero, List.setIfInBounds_toArray, List.set_cons_zero, List.set_cons_succ])
    refine wpAnyH_take (i := 11) (v := ?vq5x11) rfl (by kernel_rfl) (by kernel_rfl) (by kernel_rfl) (fun _ _ _ h => h) (Or.inl ⟨by kernel_rfl, ?yq5x11⟩) (by assumption) ?rq5x11
    case yq5x11 => (intro wq hSw; (try dsimp only at hSw); go_simp; (try with_reducible rfl))
    (try simp only [Act.put, List.getElem_toArray, List.getElem_cons_succ, List.getElem_cons_zero, List.setIfInBounds_toArray, List.set_cons_zero, List.set_cons_succ])
    refine wpAnyH_take (i := 12) (v := ?vq5x12) rfl (by kernel_rfl) (by kernel_rfl) (by kernel_rfl) (fun _ _ _ h => h) (Or.inl ⟨by kernel_rfl, ?yq5x12⟩) (by assumption) ?rq5x12
    case yq5x12 => (intro wq hSw; (try dsimp only at hSw); go_simp; (try with_reducible rfl))
    (try simp only [Act.put, List.getElem_toArray, List.getElem_cons_succ, List.getElem_cons_zero, List.setIfInBounds_toArray, List.set_cons_zero, List.set_cons_succ])
    refine wpAnyH_done (by kernel_rfl) ?_ _
    refine NoPanic.normal ?_
    go_wp2_with fail
    go_ret
    exact ⟨rfl, H7.below⟩
  · have H0 := ((Bk.start w).alloc #[.int .i64 r.x, .int .i64 r.y, .int .i64 r.w, .int .i64 r.h] 23).alloc #[.int .i64 g, .int .i64 b, .int .i64 t] 34
    simp only [World.size_alloc, List.nil_append, List.cons_append] at H0
    obtain ⟨z, hz⟩ : ∃ z, z = frameR r g b t := ⟨_, rfl⟩
    obtain ⟨i, hi⟩ : ∃ i, i = innerR r g b t := ⟨_, rfl⟩
    have HA := Lib.hid (fun W => frame_c r g b t W)
    have HB := Lib.hid (fun W => rframe_c r g b t W)
    have HI := Lib.hid (fun W => inner_c r g b t W)
    have HJ := Lib.hid (fun W => rinner_c r g b t W)
    rw [← hz, hk] at HA HB
    rw [← hi] at HI HJ
    have HZ := Lib.hid (fun W => inner_c z g b t W)
    rw [hz, inner_frame hk, ← hz] at HZ
    clear hz hi hk
    go_enter Try.func6, Try.ntmps6
    obtain ⟨⟨c0_0, c0_1, c0_2, c0_3⟩, ⟨f0_0, f0_1, f0_2, f0_3⟩⟩ := (H0.get 0 rfl).c4
    obtain ⟨⟨c1_0, c1_1, c1_2⟩, ⟨f1_0, f1_1, f1_2⟩⟩ := (H0.get 1 rfl).c3
    go_wp2_with fail
    with_reducible refine (HA.out _).mono ?_
    rintro e w1 ⟨rfl, hb⟩
    have H1 := H0.next hb
    clear hb H0
    clear c0_0 c0_1 c0_2 c0_3 f0_0 f0_1 f0_2 f0_3 c1_0 c1_1 c1_2 f1_0 f1_1 f1_2
    obtain ⟨⟨c0_0, c0_1, c0_2, c0_3⟩, ⟨f0_0, f0_1, f0_2, f0_3⟩⟩ := (H1.get 0 rfl).c4
    obtain ⟨⟨c1_0, c1_1, c1_2⟩, ⟨f1_0, f1_1, f1_2⟩⟩ := (H1.get 1 rfl).c3
    go_upto_region 2 with fail
    have H2 := H1.alloc #[.int .i64 z.x, .int .i64 z.y, .int .i64 z.w, .int .i64 z.h] 23
    simp only [List.nil_append, List.cons_append] at H2
    obtain ⟨w2, hw2⟩ : ∃ wz, wz = w1.alloc (.cells #[.int .i64 z.x, .int .i64 z.y, .int .i64 z.w, .int .i64 z.h] 23) := ⟨_, rfl⟩
    rewrite [← hw2] at H2 ⊢
    obtain ⟨g2, hg2⟩ : ∃ gz, gz = w1.heap.size := ⟨_, rfl⟩
    rewrite [← hg2] at H2 ⊢
    have dg2_0 : w.heap.size ≠ g2 := by rw [hg2]; exact Nat.ne_of_lt (H1.get 0 rfl).lt
    have eg2_0 : g2 ≠ w.heap.size := dg2_0.symm
    have dg2_1 : w.heap.size + 1 ≠ g2 := by rw [hg2]; exact Nat.ne_of_lt (H1.get 1 rfl).lt
    have eg2_1 : g2 ≠ w.heap.size + 1 := dg2_1.symm
    clear hw2 hg2 H1 c0_0 c0_1 c0_2 c0_3 f0_0 f0_1 f0_2 f0_3 c1_0 c1_1 c1_2 f1_0 f1_1 f1_2
    obtain ⟨⟨c0_0, c0_1, c0_2, c0_3⟩, ⟨f0_0, f0_1, f0_2, f0_3⟩⟩ := (H2.get 0 rfl).c4
    obtain ⟨⟨c1_0, c1_1, c1_2⟩, ⟨f1_0, f1_1, f1_2⟩⟩ := (H2.get 1 rfl).c3
    obtain ⟨⟨c2_0, c2_1, c2_2, c2_3⟩, ⟨f2_0, f2_1, f2_2, f2_3⟩⟩ := (H2.get 2 rfl).c4
    go_wp2_with fail
    with_reducible refine (HB.out _).mono ?_
    rintro e w3 ⟨rfl, hb⟩
    have H3 := H2.next hb
    clear hb H2
    clear c0_0 c0_1 c0_2 c0_3 f0_0 f0_1 f0_2 f0_3 c1_0 c1_1 c1_2 f1_0 f1_1 f1_2 c2_0 c2_1 c2_2 c2_3 f2_0 f2_1 f2_2 f2_3
    obtain ⟨⟨c0_0, c0_1, c0_2, c0_3⟩, ⟨f0_0, f0_1, f0_2, f0_3⟩⟩ := (H3.get 0 rfl).c4
    obtain ⟨⟨c1_0, c1_1, c1_2⟩, ⟨f1_0, f1_1, f1_2⟩⟩ := (H3.get 1 rfl).c3
    obtain ⟨⟨c2_0, c2_1, c2_2, c2_3⟩, ⟨f2_0, f2_1, f2_2, f2_3⟩⟩ := (H3.get 2 rfl).c4
    go_upto_region 3 with fail
    have H4 := H3.alloc #[.int .i64 z.x, .int .i64 z.y, .int .i64 z.w, .int .i64 z.h] 23
    simp only [List.nil_append, List.cons_append] at H4
    obtain ⟨w4, hw4⟩ : ∃ wz, wz = w3.alloc (.cells #[.int .i64 z.x, .int .i64 z.y, .int .i64 z.w, .int .i64 z.h] 23) := ⟨_, rfl⟩
    rewrite [← hw4] at H4 ⊢
    obtain ⟨g4, hg4⟩ : ∃ gz, gz = w3.heap.size := ⟨_, rfl⟩
    rewrite [← hg4] at H4 ⊢
    have dg4_0 : w.heap.size ≠ g4 := by rw [hg4]; exact Nat.ne_of_lt (H3.get 0 rfl).lt
    have eg4_0 : g4 ≠ w.heap.size := dg4_0.symm
    have dg4_1 : w.heap.size + 1 ≠ g4 := by rw [hg4]; exact Nat.ne_of_lt (H3.get 1 rfl).lt
    have eg4_1 : g4 ≠ w.heap.size + 1 := dg4_1.symm
    have dg4_2 : g2 ≠ g4 := by rw [hg4]; exact Nat.ne_of_lt (H3.get 2 rfl).lt
    have eg4_2 : g4 ≠ g2 := dg4_2.symm
    clear hw4 hg4 H3 c0_0 c0_1 c0_2 c0_3 f0_0 f0_1 f0_2 f0_3 c1_0 c1_1 c1_2 f1_0 f1_1 f1_2 c2_0 c2_1 c2_2 c2_3 f2_0 f2_1 f2_2 f2_3
    obtain ⟨⟨k0_0, k0_1, k0_2, k0_3⟩, ⟨k0_f0, k0_f1, k0_f2, k0_f3⟩⟩ := (H4.get 0 rfl).c4; obtain ⟨⟨k1_0, k1_1, k1_2⟩, ⟨k1_f0, k1_f1, k1_f2⟩⟩ := (H4.get 1 rfl).c3; obtain ⟨⟨k2_0, k2_1, k2_2, k2_3⟩, ⟨k2_f0, k2_f1, k2_f2, k2_f3⟩⟩ := (H4.get 2 rfl).c4; obtain ⟨⟨k3_0, k3_1, k3_2, k3_3⟩, ⟨k3_f0, k3_f1, k3_f2, k3_f3⟩⟩ := (H4.get 3 rfl).c4
    refine wp_region_noPanic ?_
    refine wp_region_held_drew (S := fun wx => wx.cell? ⟨w.heap.size, 0, none⟩ = some (.int .i64 r.x) ∧ wx.cell? ⟨w.heap.size, 1, none⟩ = some (.int .i64 r.y) ∧ wx.cell? ⟨w.heap.size, 2, none⟩ = some (.int .i64 r.w) ∧ wx.cell? ⟨w.heap.size, 3, none⟩ = some (.int .i64 r.h) ∧ wx.cell? ⟨w.heap.size + 1, 0, none⟩ = some (.int .i64 g) ∧ wx.cell? ⟨w.heap.size + 1, 1, none⟩ = some (.int .i64 b) ∧ wx.cell? ⟨w.heap.size + 1, 2, none⟩ = some (.int .i64 t) ∧ wx.cell? ⟨g2, 0, none⟩ = some (.int .i64 z.x) ∧ wx.cell? ⟨g2, 1, none⟩ = some (.int .i64 z.y) ∧ wx.cell? ⟨g2, 2, none⟩ = some (.int .i64 z.w) ∧ wx.cell? ⟨g2, 3, none⟩ = some (.int .i64 z.h) ∧ wx.cell? ⟨g4, 0, none⟩ = some (.int .i64 z.x) ∧ wx.cell? ⟨g4, 1, none⟩ = some (.int .i64 z.y) ∧ wx.cell? ⟨g4, 2, none⟩ = some (.int .i64 z.w) ∧ wx.cell? ⟨g4, 3, none⟩ = some (.int .i64 z.h)) (by kernel_rfl) (by exact ⟨k0_0, k0_1, k0_2, k0_3, k1_0, k1_1, k1_2, k2_0, k2_1, k2_2, k2_3, k3_0, k3_1, k3_2, k3_3⟩) (fun hHeld => ?_)
    refine wpAnyH_take (i := 0) (v := ?vq6x0) rfl (by kernel_rfl) (by kernel_rfl) (by kernel_rfl) (fun _ _ _ h => h) (Or.inl ⟨by kernel_rfl, ?yq6x0⟩) (by assumption) ?rq6x0
    case yq6x0 => (intro wq hSw; (try dsimp only at hSw); go_simp; (try with_reducible rfl))
    (try simp only [Act.put, List.getElem_toArray, List.getElem_cons_zero, List.setIfInBounds_toArray, List.set_cons_zero, List.set_cons_succ])
    refine wpAnyH_take (i := 1) (v := ?vq6x1) rfl (by kernel_rfl) (by kernel_rfl) (by kernel_rfl) (fun _ _ _ h => h) (Or.inl ⟨by kernel_rfl, ?yq6x1⟩) (by assumption) ?rq6x1
    case yq6x1 => (intro wq hSw; (try dsimp only at hSw); go_simp; (try with_reducible rfl))
    (try simp only [Act.put, List.getElem_toArray, List.getElem_cons_succ, List.getElem_cons_zero, List.setIfInBounds_toArray, List.set_cons_zero, List.set_cons_succ])
    refine wpAnyH_take (i := 2) (v := ?vq6x2) rfl (by kernel_rfl) (by kernel_rfl) (by kernel_rfl) (fun _ _ _ h => h) (Or.inl ⟨by kernel_rfl, ?yq6x2⟩) (by assumption) ?rq6x2
    case yq6x2 => (intro wq hSw; (try dsimp only at hSw); go_simp; (try with_reducible rfl))
    (try simp only [Act.put, List.getElem_toArray, List.getElem_cons_succ, List.getElem_cons_zero, List.setIfInBounds_toArray, List.set_cons_zero, List.set_cons_succ])
    refine wpAnyH_take (i := 3) (v := ?vq6x3) rfl (by kernel_rfl) (by kernel_rfl) (by kernel_rfl) (fun _ _ _ h => h) (Or.inl ⟨by kernel_rfl, ?yq6x3⟩) (by assumption) ?rq6x3
    case yq6x3 => (intro wq hSw; (try dsimp only at hSw); go_simp; (try with_reducible rfl))
    (try simp only [Act.put, List.getElem_toArray, List.getElem_cons_succ, List.getElem_cons_zero, List.setIfInBounds_toArray, List.set_cons_zero, List.set_cons_succ])
    refine wpAnyH_take (i := 4) (v := ?vq6x4) rfl (by kernel_rfl) (by kernel_rfl) (by kernel_rfl) (fun _ _ _ h => h) (Or.inl ⟨by kernel_rfl, ?yq6x4⟩) (by assumption) ?rq6x4
    case yq6x4 => (intro wq hSw; (try dsimp only at hSw); go_simp; (try with_reducible rfl))
    (try simp only [Act.put, List.getElem_toArray, List.getElem_cons_succ, List.getElem_cons_zero, List.setIfInBounds_toArray, List.set_cons_zero, List.set_cons_succ])
    refine wpAnyH_take (i := 5) (v := ?vq6x5) rfl (by kernel_rfl) (by kernel_rfl) (by kernel_rfl) (fun _ _ _ h => h) (Or.inl ⟨by kernel_rfl, ?yq6x5⟩) (by assumption) ?rq6x5
    case yq6x5 => (intro wq hSw; (try dsimp only at hSw); go_simp; (try with_reducible rfl))
    (try simp only [Act.put, List.getElem_toArray, List.getElem_cons_succ, List.getElem_cons_zero, List.setIfInBounds_toArray, List.set_cons_zero, List.set_cons_succ])
    refine wpAnyH_take (i := 6) (v := ?vq6x6) rfl (by kernel_rfl) (by kernel_rfl) (by kernel_rfl) (fun _ _ _ h => h) (Or.inl ⟨by kernel_rfl, ?yq6x6⟩) (by assumption) ?rq6x6
    case yq6x6 => (intro wq hSw; (try dsimp only at hSw); go_simp; (try with_reducible rfl))
    (try simp only [Act.put, List.getElem_toArray, List.getElem_cons_succ, List.getElem_cons_zero, List.setIfInBounds_toArray, List.set_cons_zero, List.set_cons_succ])
    refine wpAnyH_take (i := 7) (v := ?vq6x7) rfl (by kernel_rfl) (by kernel_rfl) (by kernel_rfl) (fun _ _ _ h => h) (Or.inl ⟨by kernel_rfl, ?yq6x7⟩) (by assumption) ?rq6x7
    case yq6x7 => (intro wq hSw; (try dsimp only at hSw); go_simp; (try with_reducible rfl))
    (try simp only [Act.put, List.getElem_toArray, List.getElem_cons_succ, List.getElem_cons_zero, List.setIfInBounds_toArray, List.set_cons_zero, List.set_cons_succ])
    refine wpAnyH_take (i := 8) (v := ?vq6x8) rfl (by kernel_rfl) (by kernel_rfl) (by kernel_rfl) (fun _ _ _ h => h) (Or.inl ⟨by kernel_rfl, ?yq6x8⟩) (by assumption) ?rq6x8
    case yq6x8 => (intro wq hSw; (try dsimp only at hSw); go_simp; (try with_reducible rfl))
    (try simp only [Act.put, List.getElem_toArray, List.getElem_cons_succ, List.getElem_cons_zero, List.setIfInBounds_toArray, List.set_cons_zero, List.set_cons_succ])
    refine wpAnyH_take (i := 9) (v := ?vq6x9) rfl (by kernel_rfl) (by kernel_rfl) (by kernel_rfl) (fun _ _ _ h => h) (Or.inl ⟨by kernel_rfl, ?yq6x9⟩) (by assumption) ?rq6x9
    case yq6x9 => (intro wq hSw; (try dsimp only at hSw); go_simp; (try with_reducible rfl))
    (try simp only [Act.put, List.getElem_toArray, List.getElem_cons_succ, List.getElem_cons_zero, List.setIfInBounds_toArray, List.set_cons_zero, List.set_cons_succ])
    refine wpAnyH_take (i := 10) (v := ?vq6x10) rfl (by kernel_rfl) (by kernel_rfl) (by kernel_rfl) (fun _ _ _ h => h) (Or.inl ⟨by kernel_rfl, ?yq6x10⟩) (by assumption) ?rq6x10
    case yq6x10 => (intro wq hSw; (try dsimp only at hSw); go_simp; (try with_reducible rfl))
    (try simp only [Act.put, List.getElem_toArray, List.getElem_cons_succ, List.getElem_cons_zero, List.setIfInBounds_toArray, List.set_cons_zero, List.set_cons_succ])
    refine wpAnyH_take (i := 12) (v := ?vq6x12) rfl (by kernel_rfl) (by kernel_rfl) (by kernel_rfl) (fun _ _ _ h => h) (Or.inl ⟨by kernel_rfl, ?yq6x12⟩) (by assumption) ?rq6x12
    case yq6x12 => (intro wq hSw; (try dsimp only at hSw); go_simp; (try with_reducible rfl))
    (try simp only [Act.put, List.getElem_toArray, List.getElem_cons_succ, List.getElem_cons_zero, List.setIfInBounds_toArray, List.set_cons_zero, List.set_cons_succ])
    refine wpAnyH_take (i := 13) (v := ?vq6x13) rfl (by kernel_rfl) (by kernel_rfl) (by kernel_rfl) (fun _ _ _ h => h) (Or.inl ⟨by kernel_rfl, ?yq6x13⟩) (by assumption) ?rq6x13
    case yq6x13 => (intro wq hSw; (try dsimp only at hSw); go_simp; (try with_reducible rfl))
    (try simp only [Act.put, List.getElem_toArray, List.getElem_cons_succ, List.getElem_cons_zero, List.setIfInBounds_toArray, List.set_cons_zero, List.set_cons_succ])
    refine wpAnyH_ready (rs := [11]) (by kernel_rfl) (by simp) ?_
    refine AllReadyH.cons rfl (fun K hK => ?_) AllReadyH.nil
    go_simp
    refine (HI.out _).mono ?_
    rintro e w5 ⟨rfl, hb⟩; have H5 := H4.drew.next hb; clear hb H4 k0_0 k0_f0 k0_1 k0_f1 k0_2 k0_f2 k0_3 k0_f3 k1_0 k1_f0 k1_1 k1_f1 k1_2 k1_f2 k2_0 k2_f0 k2_1 k2_f1 k2_2 k2_f2 k2_3 k2_f3 k3_0 k3_f0 k3_1 k3_f1 k3_2 k3_f2 k3_3 k3_f3; obtain ⟨⟨k0_0, k0_1, k0_2, k0_3⟩, ⟨k0_f0, k0_f1, k0_f2, k0_f3⟩⟩ := (H5.get 0 rfl).c4; obtain ⟨⟨k1_0, k1_1, k1_2⟩, ⟨k1_f0, k1_f1, k1_f2⟩⟩ := (H5.get 1 rfl).c3; obtain ⟨⟨k2_0, k2_1, k2_2, k2_3⟩, ⟨k2_f0, k2_f1, k2_f2, k2_f3⟩⟩ := (H5.get 2 rfl).c4; obtain ⟨⟨k3_0, k3_1, k3_2, k3_3⟩, ⟨k3_f0, k3_f1, k3_f2, k3_f3⟩⟩ := (H5.get 3 rfl).c4
    (try dsimp only)
    refine hK.out _ _ (by exact ⟨k0_0, k0_1, k0_2, k0_3, k1_0, k1_1, k1_2, k2_0, k2_1, k2_2, k2_3, k3_0, k3_1, k3_2, k3_3⟩) (fun hHeld => ?_)
    clear hK K
    (try simp only [Act.put, List.getElem_toArray, List.getElem_cons_succ, List.getElem_cons_zero, List.setIfInBounds_toArray, List.set_cons_zero, List.set_cons_succ])
    refine wpAnyH_ready (rs := [14]) (by kernel_rfl) (by simp) ?_
    refine AllReadyH.cons rfl (fun K hK => ?_) AllReadyH.nil
    go_simp
    refine (HJ.out _).mono ?_
    rintro e w6 ⟨rfl, hb⟩; have H6 := H5.next hb; clear hb H5 k0_0 k0_f0 k0_1 k0_f1 k0_2 k0_f2 k0_3 k0_f3 k1_0 k1_f0 k1_1 k1_f1 k1_2 k1_f2 k2_0 k2_f0 k2_1 k2_f1 k2_2 k2_f2 k2_3 k2_f3 k3_0 k3_f0 k3_1 k3_f1 k3_2 k3_f2 k3_3 k3_f3; obtain ⟨⟨k0_0, k0_1, k0_2, k0_3⟩, ⟨k0_f0, k0_f1, k0_f2, k0_f3⟩⟩ := (H6.get 0 rfl).c4; obtain ⟨⟨k1_0, k1_1, k1_2⟩, ⟨k1_f0, k1_f1, k1_f2⟩⟩ := (H6.get 1 rfl).c3; obtain ⟨⟨k2_0, k2_1, k2_2, k2_3⟩, ⟨k2_f0, k2_f1, k2_f2, k2_f3⟩⟩ := (H6.get 2 rfl).c4; obtain ⟨⟨k3_0, k3_1, k3_2, k3_3⟩, ⟨k3_f0, k3_f1, k3_f2, k3_f3⟩⟩ := (H6.get 3 rfl).c4
    (try dsimp only)
    refine hK.out _ _ (by exact ⟨k0_0, k0_1, k0_2, k0_3, k1_0, k1_1, k1_2, k2_0, k2_1, k2_2, k2_3, k3_0, k3_1, k3_2, k3_3⟩) (fun hHeld => ?_)
    clear hK K
    (try simp only [Act.put, List.getElem_toArray, List.getElem_cons_succ, List.getElem_cons_zero, List.setIfInBounds_toArray, List.set_cons_zero, List.set_cons_succ])
    refine wpAnyH_take (i := 15) (v := ?vq6x15) rfl (by kernel_rfl) (by kernel_rfl) (by kernel_rfl) (fun _ _ _ h => h) (Or.inl ⟨by kernel_rfl, ?yq6x15⟩) (by assumption) ?rq6x15
    case yq6x15 => (intro wq hSw; (try dsimp only at hSw); go_simp; (try with_reducible rfl))
    (try simp only [Act.put, List.getElem_toArray, List.getElem_cons_succ, List.getElem_cons_zero, List.setIfInBounds_toArray, List.set_cons_zero, List.set_cons_succ])
    refine wpAnyH_take (i := 16) (v := ?vq6x16) rfl (by kernel_rfl) (by kernel_rfl) (by kernel_rfl) (fun _ _ _ h => h) (Or.inl ⟨by kernel_rfl, ?yq6x16⟩) (by assumption) ?rq6x16
    case yq6x16 => (intro wq hSw; (try dsimp only at hSw); go_simp; (try with_reducible rfl))
    (try simp only [Act.put, List.getElem_toArray, List.getElem_cons_succ, List.getElem_cons_zero, List.setIfInBounds_toArray, List.set_cons_zero, List.set_cons_succ])
    refine wpAnyH_done (by kernel_rfl) ?_ _
    refine NoPanic.normal ?_
    go_upto_region 5 with fail
    clear k0_0 k0_f0 k0_1 k0_f1 k0_2 k0_f2 k0_3 k0_f3 k1_0 k1_f0 k1_1 k1_f1 k1_2 k1_f2 k2_0 k2_f0 k2_1 k2_f1 k2_2 k2_f2 k2_3 k2_f3 k3_0 k3_f0 k3_1 k3_f1 k3_2 k3_f2 k3_3 k3_f3
    obtain ⟨⟨k0_0, k0_1, k0_2, k0_3⟩, ⟨k0_f0, k0_f1, k0_f2, k0_f3⟩⟩ := (H6.get 0 rfl).c4; obtain ⟨⟨k1_0, k1_1, k1_2⟩, ⟨k1_f0, k1_f1, k1_f2⟩⟩ := (H6.get 1 rfl).c3; obtain ⟨⟨k2_0, k2_1, k2_2, k2_3⟩, ⟨k2_f0, k2_f1, k2_f2, k2_f3⟩⟩ := (H6.get 2 rfl).c4
    refine wp_region_noPanic ?_
    refine wp_region_held_drew (S := fun wx => wx.cell? ⟨w.heap.size, 0, none⟩ = some (.int .i64 r.x) ∧ wx.cell? ⟨w.heap.size, 1, none⟩ = some (.int .i64 r.y) ∧ wx.cell? ⟨w.heap.size, 2, none⟩ = some (.int .i64 r.w) ∧ wx.cell? ⟨w.heap.size, 3, none⟩ = some (.int .i64 r.h) ∧ wx.cell? ⟨w.heap.size + 1, 0, none⟩ = some (.int .i64 g) ∧ wx.cell? ⟨w.heap.size + 1, 1, none⟩ = some (.int .i64 b) ∧ wx.cell? ⟨w.heap.size + 1, 2, none⟩ = some (.int .i64 t) ∧ wx.cell? ⟨g2, 0, none⟩ = some (.int .i64 z.x) ∧ wx.cell? ⟨g2, 1, none⟩ = some (.int .i64 z.y) ∧ wx.cell? ⟨g2, 2, none⟩ = some (.int .i64 z.w) ∧ wx.cell? ⟨g2, 3, none⟩ = some (.int .i64 z.h)) (by kernel_rfl) (by exact ⟨k0_0, k0_1, k0_2, k0_3, k1_0, k1_1, k1_2, k2_0, k2_1, k2_2, k2_3⟩) (fun hHeld => ?_)
    refine wpAnyH_take (i := 0) (v := ?vq7x0) rfl (by kernel_rfl) (by kernel_rfl) (by kernel_rfl) (fun _ _ _ h => h) (Or.inl ⟨by kernel_rfl, ?yq7x0⟩) (by assumption) ?rq7x0
    case yq7x0 => (intro wq hSw; (try dsimp only at hSw); go_simp; (try with_reducible rfl))
    (try simp only [Act.put, List.getElem_toArray, List.getElem_cons_zero, List.setIfInBounds_toArray, List.set_cons_zero, List.set_cons_succ])
    refine wpAnyH_take (i := 1) (v := ?vq7x1) rfl (by kernel_rfl) (by kernel_rfl) (by kernel_rfl) (fun _ _ _ h => h) (Or.inl ⟨by kernel_rfl, ?yq7x1⟩) (by assumption) ?rq7x1
    case yq7x1 => (intro wq hSw; (try dsimp only at hSw); go_simp; (try with_reducible rfl))
    (try simp only [Act.put, List.getElem_toArray, List.getElem_cons_succ, List.getElem_cons_zero, List.setIfInBounds_toArray, List.set_cons_zero, List.set_cons_succ])
    refine wpAnyH_take (i := 2) (v := ?vq7x2) rfl (by kernel_rfl) (by kernel_rfl) (by kernel_rfl) (fun _ _ _ h => h) (Or.inl ⟨by kernel_rfl, ?yq7x2⟩) (by assumption) ?rq7x2
    case yq7x2 => (intro wq hSw; (try dsimp only at hSw); go_simp; (try with_reducible rfl))
    (try simp only [Act.put, List.getElem_toArray, List.getElem_cons_succ, List.getElem_cons_zero, List.setIfInBounds_toArray, List.set_cons_zero, List.set_cons_succ])
    refine wpAnyH_take (i := 3) (v := ?vq7x3) rfl (by kernel_rfl) (by kernel_rfl) (by kernel_rfl) (fun _ _ _ h => h) (Or.inl ⟨by kernel_rfl, ?yq7x3⟩) (by assumption) ?rq7x3
    case yq7x3 => (intro wq hSw; (try dsimp only at hSw); go_simp; (try with_reducible rfl))
    (try simp only [Act.put, List.getElem_toArray, List.getElem_cons_succ, List.getElem_cons_zero, List.setIfInBounds_toArray, List.set_cons_zero, List.set_cons_succ])
    refine wpAnyH_take (i := 4) (v := ?vq7x4) rfl (by kernel_rfl) (by kernel_rfl) (by kernel_rfl) (fun _ _ _ h => h) (Or.inl ⟨by kernel_rfl, ?yq7x4⟩) (by assumption) ?rq7x4
    case yq7x4 => (intro wq hSw; (try dsimp only at hSw); go_simp; (try with_reducible rfl))
    (try simp only [Act.put, List.getElem_toArray, List.getElem_cons_succ, List.getElem_cons_zero, List.setIfInBounds_toArray, List.set_cons_zero, List.set_cons_succ])
    refine wpAnyH_take (i := 6) (v := ?vq7x6) rfl (by kernel_rfl) (by kernel_rfl) (by kernel_rfl) (fun _ _ _ h => h) (Or.inl ⟨by kernel_rfl, ?yq7x6⟩) (by assumption) ?rq7x6
    case yq7x6 => (intro wq hSw; (try dsimp only at hSw); go_simp; (try with_reducible rfl))
    (try simp only [Act.put, List.getElem_toArray, List.getElem_cons_succ, List.getElem_cons_zero, List.setIfInBounds_toArray, List.set_cons_zero, List.set_cons_succ])
    refine wpAnyH_ready (rs := [5]) (by kernel_rfl) (by simp) ?_
    refine AllReadyH.cons rfl (fun K hK => ?_) AllReadyH.nil
    go_simp
    refine (HZ.out _).mono ?_
    rintro e w7 ⟨rfl, hb⟩; have H7 := H6.drew.next hb; clear hb H6 k0_0 k0_f0 k0_1 k0_f1 k0_2 k0_f2 k0_3 k0_f3 k1_0 k1_f0 k1_1 k1_f1 k1_2 k1_f2 k2_0 k2_f0 k2_1 k2_f1 k2_2 k2_f2 k2_3 k2_f3; obtain ⟨⟨k0_0, k0_1, k0_2, k0_3⟩, ⟨k0_f0, k0_f1, k0_f2, k0_f3⟩⟩ := (H7.get 0 rfl).c4; obtain ⟨⟨k1_0, k1_1, k1_2⟩, ⟨k1_f0, k1_f1, k1_f2⟩⟩ := (H7.get 1 rfl).c3; obtain ⟨⟨k2_0, k2_1, k2_2, k2_3⟩, ⟨k2_f0, k2_f1, k2_f2, k2_f3⟩⟩ := (H7.get 2 rfl).c4
    (try dsimp only)
    refine hK.out _ _ (by exact ⟨k0_0, k0_1, k0_2, k0_3, k1_0, k1_1, k1_2, k2_0, k2_1, k2_2, k2_3⟩) (fun hHeld => ?_)
    clear hK K
    (try simp only [Act.put, List.getElem_toArray, List.getElem_cons_succ, List.getElem_cons_zero, List.setIfInBounds_toArray, List.set_cons_zero, List.set_cons_succ])
    refine wpAnyH_take (i := 7) (v := ?vq7x7) rfl (by kernel_rfl) (by kernel_rfl) (by kernel_rfl) (fun _ _ _ h => h) (Or.inl ⟨by kernel_rfl, ?yq7x7⟩) (by assumption) ?rq7x7
    case yq7x7 => (intro wq hSw; (try dsimp only at hSw); go_simp; (try with_reducible rfl))
    (try simp only [Act.put, List.getElem_toArray, List.getElem_cons_succ, List.getElem_cons_zero, List.setIfInBounds_toArray, List.set_cons_zero, List.set_cons_succ])
    refine wpAnyH_take (i := 8) (v := ?vq7x8) rfl (by kernel_rfl) (by kernel_rfl) (by kernel_rfl) (fun _ _ _ h => h) (Or.inl ⟨by kernel_rfl, ?yq7x8⟩) (by assumption) ?rq7x8
    case yq7x8 => (intro wq hSw; (try dsimp only at hSw); go_simp; (try with_reducible rfl))
    (try simp only [Act.put, List.getElem_toArray, List.getElem_cons_succ, List.getElem_cons_zero, List.setIfInBounds_toArray, List.set_cons_zero, List.set_cons_succ])
    refine wpAnyH_take (i := 9) (v := ?vq7x9) rfl (by kernel_rfl) (by kernel_rfl) (by kernel_rfl) (fun _ _ _ h => h) (Or.inl ⟨by kernel_rfl, ?yq7x9⟩) (by assumption) ?rq7x9
    case yq7x9 => (intro wq hSw; (try dsimp only at hSw); go_simp; (try with_reducible rfl))
    (try simp only [Act.put, List.getElem_toArray, List.getElem_cons_succ, List.getElem_cons_zero, List.setIfInBounds_toArray, List.set_cons_zero, List.set_cons_succ])
    refine wpAnyH_ready (rs := [10]) (by kernel_rfl) (by simp) ?_
    refine AllReadyH.cons rfl (fun K hK => ?_) AllReadyH.nil
    go_simp
    refine (awake_c _).mono ?_
    rintro e w8 ⟨rfl, hb⟩; have H8 := H7.next hb; clear hb H7 k0_0 k0_f0 k0_1 k0_f1 k0_2 k0_f2 k0_3 k0_f3 k1_0 k1_f0 k1_1 k1_f1 k1_2 k1_f2 k2_0 k2_f0 k2_1 k2_f1 k2_2 k2_f2 k2_3 k2_f3; obtain ⟨⟨k0_0, k0_1, k0_2, k0_3⟩, ⟨k0_f0, k0_f1, k0_f2, k0_f3⟩⟩ := (H8.get 0 rfl).c4; obtain ⟨⟨k1_0, k1_1, k1_2⟩, ⟨k1_f0, k1_f1, k1_f2⟩⟩ := (H8.get 1 rfl).c3; obtain ⟨⟨k2_0, k2_1, k2_2, k2_3⟩, ⟨k2_f0, k2_f1, k2_f2, k2_f3⟩⟩ := (H8.get 2 rfl).c4
    (try dsimp only)
    refine hK.out _ _ (by exact ⟨k0_0, k0_1, k0_2, k0_3, k1_0, k1_1, k1_2, k2_0, k2_1, k2_2, k2_3⟩) (fun hHeld => ?_)
    clear hK K
    (try simp only [Act.put, List.getElem_toArray, List.getElem_cons_succ, List.getElem_cons_zero, List.setIfInBounds_toArray, List.set_cons_zero, List.set_cons_succ])
    refine wpAnyH_take (i := 11) (v := ?vq7x11) rfl (by kernel_rfl) (by kernel_rfl) (by kernel_rfl) (fun _ _ _ h => h) (Or.inl ⟨by kernel_rfl, ?yq7x11⟩) (by assumption) ?rq7x11
    case yq7x11 => (intro wq hSw; (try dsimp only at hSw); go_simp; (try with_reducible rfl))
    (try simp only [Act.put, List.getElem_toArray, List.getElem_cons_succ, List.getElem_cons_zero, List.setIfInBounds_toArray, List.set_cons_zero, List.set_cons_succ])
    refine wpAnyH_take (i := 12) (v := ?vq7x12) rfl (by kernel_rfl) (by kernel_rfl) (by kernel_rfl) (fun _ _ _ h => h) (Or.inl ⟨by kernel_rfl, ?yq7x12⟩) (by assumption) ?rq7x12
    case yq7x12 => (intro wq hSw; (try dsimp only at hSw); go_simp; (try with_reducible rfl))
    (try simp only [Act.put, List.getElem_toArray, List.getElem_cons_succ, List.getElem_cons_zero, List.setIfInBounds_toArray, List.set_cons_zero, List.set_cons_succ])
    refine wpAnyH_done (by kernel_rfl) ?_ _
    refine NoPanic.normal ?_
    go_wp2_with fail
    go_ret
    exact ⟨rfl, H8.below⟩
set_option maxRecDepth 100000 in
set_option maxHeartbeats 4000000 in
theorem good_w (o v : Rc) (hh : Hn) (x t : Int) (w : World) : Calls Try.prog 7 #[rcV o, rcV v, hnV hh, .int .i64 x, .int .i64 t] w fun e w' => e = .returned (.bool true) ∧ Below w.heap.size w w' := by
  cases hr : rightR o
  · have H0 := (((Bk.start w).alloc #[.int .i64 o.x, .int .i64 o.y, .int .i64 o.w, .int .i64 o.h] 23).alloc #[.int .i64 v.x, .int .i64 v.y, .int .i64 v.w, .int .i64 v.h] 23).alloc #[.int .i64 hh.minW, .int .i64 hh.minH, .int .i64 hh.maxW, .int .i64 hh.maxH, .int .i64 hh.baseW, .int .i64 hh.baseH, .int .i64 hh.incW, .int .i64 hh.incH, .int .i64 hh.lowX, .int .i64 hh.lowY, .int .i64 hh.highX, .int .i64 hh.highY] 25
    simp only [World.size_alloc, List.nil_append, List.cons_append] at H0
    have HR := Lib.hid (fun W => right_c o.x o.y o.w o.h W)
    rw [show rightB o.x o.y o.w o.h = false from hr] at HR
    have HRR := Lib.hid hr
    clear hr
    go_enter Try.func7, Try.ntmps7
    obtain ⟨⟨c0_0, c0_1, c0_2, c0_3⟩, ⟨f0_0, f0_1, f0_2, f0_3⟩⟩ := (H0.get 0 rfl).c4
    obtain ⟨⟨c1_0, c1_1, c1_2, c1_3⟩, ⟨f1_0, f1_1, f1_2, f1_3⟩⟩ := (H0.get 1 rfl).c4
    obtain ⟨⟨c2_0, c2_1, c2_2, c2_3, c2_4, c2_5, c2_6, c2_7, c2_8, c2_9, c2_10, c2_11⟩, -⟩ := HB.out (H0.get 2 rfl)
    go_wp2_with fail
    with_reducible refine (rnorm_c hh _).mono ?_
    rintro e w1 ⟨n, rfl, hN, hb⟩
    have H1 := H0.next hb
    clear hb H0
    clear c0_0 c0_1 c0_2 c0_3 f0_0 f0_1 f0_2 f0_3 c1_0 c1_1 c1_2 c1_3 f1_0 f1_1 f1_2 f1_3 c2_0 c2_1 c2_2 c2_3 c2_4 c2_5 c2_6 c2_7 c2_8 c2_9 c2_10 c2_11
    obtain ⟨⟨c0_0, c0_1, c0_2, c0_3⟩, ⟨f0_0, f0_1, f0_2, f0_3⟩⟩ := (H1.get 0 rfl).c4
    obtain ⟨⟨c1_0, c1_1, c1_2, c1_3⟩, ⟨f1_0, f1_1, f1_2, f1_3⟩⟩ := (H1.get 1 rfl).c4
    obtain ⟨⟨c2_0, c2_1, c2_2, c2_3, c2_4, c2_5, c2_6, c2_7, c2_8, c2_9, c2_10, c2_11⟩, -⟩ := HB.out (H1.get 2 rfl)
    have HNN := Lib.hid hN
    clear hN
    go_upto_region 2 with fail
    have H2 := H1.alloc #[.int .i64 n.minW, .int .i64 n.minH, .int .i64 n.maxW, .int .i64 n.maxH, .int .i64 n.baseW, .int .i64 n.baseH, .int .i64 n.incW, .int .i64 n.incH, .int .i64 n.lowX, .int .i64 n.lowY, .int .i64 n.highX, .int .i64 n.highY] 25
    simp only [List.nil_append, List.cons_append] at H2
    obtain ⟨w2, hw2⟩ : ∃ wz, wz = w1.alloc (.cells #[.int .i64 n.minW, .int .i64 n.minH, .int .i64 n.maxW, .int .i64 n.maxH, .int .i64 n.baseW, .int .i64 n.baseH, .int .i64 n.incW, .int .i64 n.incH, .int .i64 n.lowX, .int .i64 n.lowY, .int .i64 n.highX, .int .i64 n.highY] 25) := ⟨_, rfl⟩
    rewrite [← hw2] at H2 ⊢
    obtain ⟨g2, hg2⟩ : ∃ gz, gz = w1.heap.size := ⟨_, rfl⟩
    rewrite [← hg2] at H2 ⊢
    have dg2_0 : w.heap.size ≠ g2 := by rw [hg2]; exact Nat.ne_of_lt (H1.get 0 rfl).lt
    have eg2_0 : g2 ≠ w.heap.size := dg2_0.symm
    have dg2_1 : w.heap.size + 1 ≠ g2 := by rw [hg2]; exact Nat.ne_of_lt (H1.get 1 rfl).lt
    have eg2_1 : g2 ≠ w.heap.size + 1 := dg2_1.symm
    have dg2_2 : w.heap.size + 1 + 1 ≠ g2 := by rw [hg2]; exact Nat.ne_of_lt (H1.get 2 rfl).lt
    have eg2_2 : g2 ≠ w.heap.size + 1 + 1 := dg2_2.symm
    clear hw2 hg2 H1 c0_0 c0_1 c0_2 c0_3 f0_0 f0_1 f0_2 f0_3 c1_0 c1_1 c1_2 c1_3 f1_0 f1_1 f1_2 f1_3 c2_0 c2_1 c2_2 c2_3 c2_4 c2_5 c2_6 c2_7 c2_8 c2_9 c2_10 c2_11
    obtain ⟨⟨c0_0, c0_1, c0_2, c0_3⟩, ⟨f0_0, f0_1, f0_2, f0_3⟩⟩ := (H2.get 0 rfl).c4
    obtain ⟨⟨c1_0, c1_1, c1_2, c1_3⟩, ⟨f1_0, f1_1, f1_2, f1_3⟩⟩ := (H2.get 1 rfl).c4
    obtain ⟨⟨c2_0, c2_1, c2_2, c2_3, c2_4, c2_5, c2_6, c2_7, c2_8, c2_9, c2_10, c2_11⟩, -⟩ := HB.out (H2.get 2 rfl)
    obtain ⟨⟨c3_0, c3_1, c3_2, c3_3, c3_4, c3_5, c3_6, c3_7, c3_8, c3_9, c3_10, c3_11⟩, -⟩ := HB.out (H2.get 3 rfl)
    go_wp2_with fail
    with_reducible refine (start_z o v hh x t _).mono ?_
    rintro e w3 ⟨z, rfl, hz, hb⟩
    have H3 := H2.next hb
    clear hb H2
    clear c0_0 c0_1 c0_2 c0_3 f0_0 f0_1 f0_2 f0_3 c1_0 c1_1 c1_2 c1_3 f1_0 f1_1 f1_2 f1_3 c2_0 c2_1 c2_2 c2_3 c2_4 c2_5 c2_6 c2_7 c2_8 c2_9 c2_10 c2_11 c3_0 c3_1 c3_2 c3_3 c3_4 c3_5 c3_6 c3_7 c3_8 c3_9 c3_10 c3_11
    obtain ⟨⟨c0_0, c0_1, c0_2, c0_3⟩, ⟨f0_0, f0_1, f0_2, f0_3⟩⟩ := (H3.get 0 rfl).c4
    obtain ⟨⟨c1_0, c1_1, c1_2, c1_3⟩, ⟨f1_0, f1_1, f1_2, f1_3⟩⟩ := (H3.get 1 rfl).c4
    obtain ⟨⟨c2_0, c2_1, c2_2, c2_3, c2_4, c2_5, c2_6, c2_7, c2_8, c2_9, c2_10, c2_11⟩, -⟩ := HB.out (H3.get 2 rfl)
    obtain ⟨⟨c3_0, c3_1, c3_2, c3_3, c3_4, c3_5, c3_6, c3_7, c3_8, c3_9, c3_10, c3_11⟩, -⟩ := HB.out (H3.get 3 rfl)
    obtain ⟨n1, hn1, hg1, hr1⟩ := hz.good
    obtain rfl := hn1.one HNN.out
    clear hz hn1
    have HG1 := Lib.hid (fun W => rgood_c n1 HNN.out.right.1 z.w z.h W)
    rw [(gdB_iff _ _ _).2 hg1] at HG1
    have HR1 := Lib.hid (fun W => right_c z.x z.y z.w z.h W)
    rw [show rightB z.x z.y z.w z.h = true from hr1] at HR1
    clear hg1 hr1
    go_upto_region 3 with fail
    have H4 := H3.alloc #[.int .i64 z.x, .int .i64 z.y, .int .i64 z.w, .int .i64 z.h] 23
    simp only [List.nil_append, List.cons_append] at H4
    obtain ⟨w4, hw4⟩ : ∃ wz, wz = w3.alloc (.cells #[.int .i64 z.x, .int .i64 z.y, .int .i64 z.w, .int .i64 z.h] 23) := ⟨_, rfl⟩
    rewrite [← hw4] at H4 ⊢
    obtain ⟨g4, hg4⟩ : ∃ gz, gz = w3.heap.size := ⟨_, rfl⟩
    rewrite [← hg4] at H4 ⊢
    have dg4_0 : w.heap.size ≠ g4 := by rw [hg4]; exact Nat.ne_of_lt (H3.get 0 rfl).lt
    have eg4_0 : g4 ≠ w.heap.size := dg4_0.symm
    have dg4_1 : w.heap.size + 1 ≠ g4 := by rw [hg4]; exact Nat.ne_of_lt (H3.get 1 rfl).lt
    have eg4_1 : g4 ≠ w.heap.size + 1 := dg4_1.symm
    have dg4_2 : w.heap.size + 1 + 1 ≠ g4 := by rw [hg4]; exact Nat.ne_of_lt (H3.get 2 rfl).lt
    have eg4_2 : g4 ≠ w.heap.size + 1 + 1 := dg4_2.symm
    have dg4_3 : g2 ≠ g4 := by rw [hg4]; exact Nat.ne_of_lt (H3.get 3 rfl).lt
    have eg4_3 : g4 ≠ g2 := dg4_3.symm
    clear hw4 hg4 H3 c0_0 c0_1 c0_2 c0_3 f0_0 f0_1 f0_2 f0_3 c1_0 c1_1 c1_2 c1_3 f1_0 f1_1 f1_2 f1_3 c2_0 c2_1 c2_2 c2_3 c2_4 c2_5 c2_6 c2_7 c2_8 c2_9 c2_10 c2_11 c3_0 c3_1 c3_2 c3_3 c3_4 c3_5 c3_6 c3_7 c3_8 c3_9 c3_10 c3_11
    obtain ⟨⟨c0_0, c0_1, c0_2, c0_3⟩, ⟨f0_0, f0_1, f0_2, f0_3⟩⟩ := (H4.get 0 rfl).c4
    obtain ⟨⟨c1_0, c1_1, c1_2, c1_3⟩, ⟨f1_0, f1_1, f1_2, f1_3⟩⟩ := (H4.get 1 rfl).c4
    obtain ⟨⟨c2_0, c2_1, c2_2, c2_3, c2_4, c2_5, c2_6, c2_7, c2_8, c2_9, c2_10, c2_11⟩, -⟩ := HB.out (H4.get 2 rfl)
    obtain ⟨⟨c3_0, c3_1, c3_2, c3_3, c3_4, c3_5, c3_6, c3_7, c3_8, c3_9, c3_10, c3_11⟩, -⟩ := HB.out (H4.get 3 rfl)
    obtain ⟨⟨c4_0, c4_1, c4_2, c4_3⟩, ⟨f4_0, f4_1, f4_2, f4_3⟩⟩ := (H4.get 4 rfl).c4
    go_wp2_with fail
    with_reducible refine (HG1.out _).mono ?_
    rintro e w5 ⟨rfl, hb⟩
    have H5 := H4.next hb
    clear hb H4
    clear c0_0 c0_1 c0_2 c0_3 f0_0 f0_1 f0_2 f0_3 c1_0 c1_1 c1_2 c1_3 f1_0 f1_1 f1_2 f1_3 c2_0 c2_1 c2_2 c2_3 c2_4 c2_5 c2_6 c2_7 c2_8 c2_9 c2_10 c2_11 c3_0 c3_1 c3_2 c3_3 c3_4 c3_5 c3_6 c3_7 c3_8 c3_9 c3_10 c3_11 c4_0 c4_1 c4_2 c4_3 f4_0 f4_1 f4_2 f4_3
    obtain ⟨⟨c0_0, c0_1, c0_2, c0_3⟩, ⟨f0_0, f0_1, f0_2, f0_3⟩⟩ := (H5.get 0 rfl).c4
    obtain ⟨⟨c2_0, c2_1, c2_2, c2_3, c2_4, c2_5, c2_6, c2_7, c2_8, c2_9, c2_10, c2_11⟩, -⟩ := HB.out (H5.get 2 rfl)
    obtain ⟨⟨c3_0, c3_1, c3_2, c3_3, c3_4, c3_5, c3_6, c3_7, c3_8, c3_9, c3_10, c3_11⟩, -⟩ := HB.out (H5.get 3 rfl)
    obtain ⟨⟨c4_0, c4_1, c4_2, c4_3⟩, ⟨f4_0, f4_1, f4_2, f4_3⟩⟩ := (H5.get 4 rfl).c4
    go_wp2_with fail
    with_reducible refine (HR1.out _).mono ?_
    rintro e w6 ⟨rfl, hb⟩
    have H6 := H5.next hb
    clear hb H5
    clear c0_0 c0_1 c0_2 c0_3 f0_0 f0_1 f0_2 f0_3 c2_0 c2_1 c2_2 c2_3 c2_4 c2_5 c2_6 c2_7 c2_8 c2_9 c2_10 c2_11 c3_0 c3_1 c3_2 c3_3 c3_4 c3_5 c3_6 c3_7 c3_8 c3_9 c3_10 c3_11 c4_0 c4_1 c4_2 c4_3 f4_0 f4_1 f4_2 f4_3
    obtain ⟨⟨c0_0, c0_1, c0_2, c0_3⟩, ⟨f0_0, f0_1, f0_2, f0_3⟩⟩ := (H6.get 0 rfl).c4
    obtain ⟨⟨c2_0, c2_1, c2_2, c2_3, c2_4, c2_5, c2_6, c2_7, c2_8, c2_9, c2_10, c2_11⟩, -⟩ := HB.out (H6.get 2 rfl)
    obtain ⟨⟨c3_0, c3_1, c3_2, c3_3, c3_4, c3_5, c3_6, c3_7, c3_8, c3_9, c3_10, c3_11⟩, -⟩ := HB.out (H6.get 3 rfl)
    obtain ⟨⟨c4_0, c4_1, c4_2, c4_3⟩, ⟨f4_0, f4_1, f4_2, f4_3⟩⟩ := (H6.get 4 rfl).c4
    go_wp2_with fail
    with_reducible refine (resize_z o hh x t _).mono ?_
    rintro e w7 ⟨y, rfl, hy, hb⟩
    have H7 := H6.next hb
    clear hb H6
    clear c0_0 c0_1 c0_2 c0_3 f0_0 f0_1 f0_2 f0_3 c2_0 c2_1 c2_2 c2_3 c2_4 c2_5 c2_6 c2_7 c2_8 c2_9 c2_10 c2_11 c3_0 c3_1 c3_2 c3_3 c3_4 c3_5 c3_6 c3_7 c3_8 c3_9 c3_10 c3_11 c4_0 c4_1 c4_2 c4_3 f4_0 f4_1 f4_2 f4_3
    obtain ⟨⟨c0_0, c0_1, c0_2, c0_3⟩, ⟨f0_0, f0_1, f0_2, f0_3⟩⟩ := (H7.get 0 rfl).c4
    obtain ⟨⟨c2_0, c2_1, c2_2, c2_3, c2_4, c2_5, c2_6, c2_7, c2_8, c2_9, c2_10, c2_11⟩, -⟩ := HB.out (H7.get 2 rfl)
    obtain ⟨⟨c3_0, c3_1, c3_2, c3_3, c3_4, c3_5, c3_6, c3_7, c3_8, c3_9, c3_10, c3_11⟩, -⟩ := HB.out (H7.get 3 rfl)
    obtain ⟨⟨c4_0, c4_1, c4_2, c4_3⟩, ⟨f4_0, f4_1, f4_2, f4_3⟩⟩ := (H7.get 4 rfl).c4
    have HY := Lib.hid hy
    clear hy
    go_upto_region 6 with fail
    have H8 := H7.alloc #[.int .i64 y.x, .int .i64 y.y, .int .i64 y.w, .int .i64 y.h] 23
    simp only [List.nil_append, List.cons_append] at H8
    obtain ⟨w8, hw8⟩ : ∃ wz, wz = w7.alloc (.cells #[.int .i64 y.x, .int .i64 y.y, .int .i64 y.w, .int .i64 y.h] 23) := ⟨_, rfl⟩
    rewrite [← hw8] at H8 ⊢
    obtain ⟨g8, hg8⟩ : ∃ gz, gz = w7.heap.size := ⟨_, rfl⟩
    rewrite [← hg8] at H8 ⊢
    have dg8_0 : w.heap.size ≠ g8 := by rw [hg8]; exact Nat.ne_of_lt (H7.get 0 rfl).lt
    have eg8_0 : g8 ≠ w.heap.size := dg8_0.symm
    have dg8_1 : w.heap.size + 1 ≠ g8 := by rw [hg8]; exact Nat.ne_of_lt (H7.get 1 rfl).lt
    have eg8_1 : g8 ≠ w.heap.size + 1 := dg8_1.symm
    have dg8_2 : w.heap.size + 1 + 1 ≠ g8 := by rw [hg8]; exact Nat.ne_of_lt (H7.get 2 rfl).lt
    have eg8_2 : g8 ≠ w.heap.size + 1 + 1 := dg8_2.symm
    have dg8_3 : g2 ≠ g8 := by rw [hg8]; exact Nat.ne_of_lt (H7.get 3 rfl).lt
    have eg8_3 : g8 ≠ g2 := dg8_3.symm
    have dg8_4 : g4 ≠ g8 := by rw [hg8]; exact Nat.ne_of_lt (H7.get 4 rfl).lt
    have eg8_4 : g8 ≠ g4 := dg8_4.symm
    clear hw8 hg8 H7 c0_0 c0_1 c0_2 c0_3 f0_0 f0_1 f0_2 f0_3 c2_0 c2_1 c2_2 c2_3 c2_4 c2_5 c2_6 c2_7 c2_8 c2_9 c2_10 c2_11 c3_0 c3_1 c3_2 c3_3 c3_4 c3_5 c3_6 c3_7 c3_8 c3_9 c3_10 c3_11 c4_0 c4_1 c4_2 c4_3 f4_0 f4_1 f4_2 f4_3
    obtain ⟨⟨c0_0, c0_1, c0_2, c0_3⟩, ⟨f0_0, f0_1, f0_2, f0_3⟩⟩ := (H8.get 0 rfl).c4
    obtain ⟨⟨c3_0, c3_1, c3_2, c3_3, c3_4, c3_5, c3_6, c3_7, c3_8, c3_9, c3_10, c3_11⟩, -⟩ := HB.out (H8.get 3 rfl)
    obtain ⟨⟨c5_0, c5_1, c5_2, c5_3⟩, ⟨f5_0, f5_1, f5_2, f5_3⟩⟩ := (H8.get 5 rfl).c4
    go_wp2_with fail
    with_reducible refine (HR.out _).mono ?_
    rintro e w9 ⟨rfl, hb⟩
    have H9 := H8.next hb
    clear hb H8
    clear c0_0 c0_1 c0_2 c0_3 f0_0 f0_1 f0_2 f0_3 c3_0 c3_1 c3_2 c3_3 c3_4 c3_5 c3_6 c3_7 c3_8 c3_9 c3_10 c3_11 c5_0 c5_1 c5_2 c5_3 f5_0 f5_1 f5_2 f5_3
    obtain ⟨⟨c3_0, c3_1, c3_2, c3_3, c3_4, c3_5, c3_6, c3_7, c3_8, c3_9, c3_10, c3_11⟩, -⟩ := HB.out (H9.get 3 rfl)
    obtain ⟨⟨c5_0, c5_1, c5_2, c5_3⟩, ⟨f5_0, f5_1, f5_2, f5_3⟩⟩ := (H9.get 5 rfl).c4
    go_wp2_with fail
    with_reducible refine (awake_c _).mono ?_
    rintro e w10 ⟨rfl, hb⟩
    have H10 := H9.next hb
    clear hb H9
    go_wp2_with fail
    go_ret
    exact ⟨rfl, H10.below⟩
  · have H0 := (((Bk.start w).alloc #[.int .i64 o.x, .int .i64 o.y, .int .i64 o.w, .int .i64 o.h] 23).alloc #[.int .i64 v.x, .int .i64 v.y, .int .i64 v.w, .int .i64 v.h] 23).alloc #[.int .i64 hh.minW, .int .i64 hh.minH, .int .i64 hh.maxW, .int .i64 hh.maxH, .int .i64 hh.baseW, .int .i64 hh.baseH, .int .i64 hh.incW, .int .i64 hh.incH, .int .i64 hh.lowX, .int .i64 hh.lowY, .int .i64 hh.highX, .int .i64 hh.highY] 25
    simp only [World.size_alloc, List.nil_append, List.cons_append] at H0
    have HR := Lib.hid (fun W => right_c o.x o.y o.w o.h W)
    rw [show rightB o.x o.y o.w o.h = true from hr] at HR
    have HRR := Lib.hid hr
    clear hr
    go_enter Try.func7, Try.ntmps7
    obtain ⟨⟨c0_0, c0_1, c0_2, c0_3⟩, ⟨f0_0, f0_1, f0_2, f0_3⟩⟩ := (H0.get 0 rfl).c4
    obtain ⟨⟨c1_0, c1_1, c1_2, c1_3⟩, ⟨f1_0, f1_1, f1_2, f1_3⟩⟩ := (H0.get 1 rfl).c4
    obtain ⟨⟨c2_0, c2_1, c2_2, c2_3, c2_4, c2_5, c2_6, c2_7, c2_8, c2_9, c2_10, c2_11⟩, -⟩ := HB.out (H0.get 2 rfl)
    go_wp2_with fail
    with_reducible refine (rnorm_c hh _).mono ?_
    rintro e w1 ⟨n, rfl, hN, hb⟩
    have H1 := H0.next hb
    clear hb H0
    clear c0_0 c0_1 c0_2 c0_3 f0_0 f0_1 f0_2 f0_3 c1_0 c1_1 c1_2 c1_3 f1_0 f1_1 f1_2 f1_3 c2_0 c2_1 c2_2 c2_3 c2_4 c2_5 c2_6 c2_7 c2_8 c2_9 c2_10 c2_11
    obtain ⟨⟨c0_0, c0_1, c0_2, c0_3⟩, ⟨f0_0, f0_1, f0_2, f0_3⟩⟩ := (H1.get 0 rfl).c4
    obtain ⟨⟨c1_0, c1_1, c1_2, c1_3⟩, ⟨f1_0, f1_1, f1_2, f1_3⟩⟩ := (H1.get 1 rfl).c4
    obtain ⟨⟨c2_0, c2_1, c2_2, c2_3, c2_4, c2_5, c2_6, c2_7, c2_8, c2_9, c2_10, c2_11⟩, -⟩ := HB.out (H1.get 2 rfl)
    have HNN := Lib.hid hN
    clear hN
    go_upto_region 2 with fail
    have H2 := H1.alloc #[.int .i64 n.minW, .int .i64 n.minH, .int .i64 n.maxW, .int .i64 n.maxH, .int .i64 n.baseW, .int .i64 n.baseH, .int .i64 n.incW, .int .i64 n.incH, .int .i64 n.lowX, .int .i64 n.lowY, .int .i64 n.highX, .int .i64 n.highY] 25
    simp only [List.nil_append, List.cons_append] at H2
    obtain ⟨w2, hw2⟩ : ∃ wz, wz = w1.alloc (.cells #[.int .i64 n.minW, .int .i64 n.minH, .int .i64 n.maxW, .int .i64 n.maxH, .int .i64 n.baseW, .int .i64 n.baseH, .int .i64 n.incW, .int .i64 n.incH, .int .i64 n.lowX, .int .i64 n.lowY, .int .i64 n.highX, .int .i64 n.highY] 25) := ⟨_, rfl⟩
    rewrite [← hw2] at H2 ⊢
    obtain ⟨g2, hg2⟩ : ∃ gz, gz = w1.heap.size := ⟨_, rfl⟩
    rewrite [← hg2] at H2 ⊢
    have dg2_0 : w.heap.size ≠ g2 := by rw [hg2]; exact Nat.ne_of_lt (H1.get 0 rfl).lt
    have eg2_0 : g2 ≠ w.heap.size := dg2_0.symm
    have dg2_1 : w.heap.size + 1 ≠ g2 := by rw [hg2]; exact Nat.ne_of_lt (H1.get 1 rfl).lt
    have eg2_1 : g2 ≠ w.heap.size + 1 := dg2_1.symm
    have dg2_2 : w.heap.size + 1 + 1 ≠ g2 := by rw [hg2]; exact Nat.ne_of_lt (H1.get 2 rfl).lt
    have eg2_2 : g2 ≠ w.heap.size + 1 + 1 := dg2_2.symm
    clear hw2 hg2 H1 c0_0 c0_1 c0_2 c0_3 f0_0 f0_1 f0_2 f0_3 c1_0 c1_1 c1_2 c1_3 f1_0 f1_1 f1_2 f1_3 c2_0 c2_1 c2_2 c2_3 c2_4 c2_5 c2_6 c2_7 c2_8 c2_9 c2_10 c2_11
    obtain ⟨⟨c0_0, c0_1, c0_2, c0_3⟩, ⟨f0_0, f0_1, f0_2, f0_3⟩⟩ := (H2.get 0 rfl).c4
    obtain ⟨⟨c1_0, c1_1, c1_2, c1_3⟩, ⟨f1_0, f1_1, f1_2, f1_3⟩⟩ := (H2.get 1 rfl).c4
    obtain ⟨⟨c2_0, c2_1, c2_2, c2_3, c2_4, c2_5, c2_6, c2_7, c2_8, c2_9, c2_10, c2_11⟩, -⟩ := HB.out (H2.get 2 rfl)
    obtain ⟨⟨c3_0, c3_1, c3_2, c3_3, c3_4, c3_5, c3_6, c3_7, c3_8, c3_9, c3_10, c3_11⟩, -⟩ := HB.out (H2.get 3 rfl)
    go_wp2_with fail
    with_reducible refine (start_z o v hh x t _).mono ?_
    rintro e w3 ⟨z, rfl, hz, hb⟩
    have H3 := H2.next hb
    clear hb H2
    clear c0_0 c0_1 c0_2 c0_3 f0_0 f0_1 f0_2 f0_3 c1_0 c1_1 c1_2 c1_3 f1_0 f1_1 f1_2 f1_3 c2_0 c2_1 c2_2 c2_3 c2_4 c2_5 c2_6 c2_7 c2_8 c2_9 c2_10 c2_11 c3_0 c3_1 c3_2 c3_3 c3_4 c3_5 c3_6 c3_7 c3_8 c3_9 c3_10 c3_11
    obtain ⟨⟨c0_0, c0_1, c0_2, c0_3⟩, ⟨f0_0, f0_1, f0_2, f0_3⟩⟩ := (H3.get 0 rfl).c4
    obtain ⟨⟨c1_0, c1_1, c1_2, c1_3⟩, ⟨f1_0, f1_1, f1_2, f1_3⟩⟩ := (H3.get 1 rfl).c4
    obtain ⟨⟨c2_0, c2_1, c2_2, c2_3, c2_4, c2_5, c2_6, c2_7, c2_8, c2_9, c2_10, c2_11⟩, -⟩ := HB.out (H3.get 2 rfl)
    obtain ⟨⟨c3_0, c3_1, c3_2, c3_3, c3_4, c3_5, c3_6, c3_7, c3_8, c3_9, c3_10, c3_11⟩, -⟩ := HB.out (H3.get 3 rfl)
    obtain ⟨n1, hn1, hg1, hr1⟩ := hz.good
    obtain rfl := hn1.one HNN.out
    clear hz hn1
    have HG1 := Lib.hid (fun W => rgood_c n1 HNN.out.right.1 z.w z.h W)
    rw [(gdB_iff _ _ _).2 hg1] at HG1
    have HR1 := Lib.hid (fun W => right_c z.x z.y z.w z.h W)
    rw [show rightB z.x z.y z.w z.h = true from hr1] at HR1
    clear hg1 hr1
    go_upto_region 3 with fail
    have H4 := H3.alloc #[.int .i64 z.x, .int .i64 z.y, .int .i64 z.w, .int .i64 z.h] 23
    simp only [List.nil_append, List.cons_append] at H4
    obtain ⟨w4, hw4⟩ : ∃ wz, wz = w3.alloc (.cells #[.int .i64 z.x, .int .i64 z.y, .int .i64 z.w, .int .i64 z.h] 23) := ⟨_, rfl⟩
    rewrite [← hw4] at H4 ⊢
    obtain ⟨g4, hg4⟩ : ∃ gz, gz = w3.heap.size := ⟨_, rfl⟩
    rewrite [← hg4] at H4 ⊢
    have dg4_0 : w.heap.size ≠ g4 := by rw [hg4]; exact Nat.ne_of_lt (H3.get 0 rfl).lt
    have eg4_0 : g4 ≠ w.heap.size := dg4_0.symm
    have dg4_1 : w.heap.size + 1 ≠ g4 := by rw [hg4]; exact Nat.ne_of_lt (H3.get 1 rfl).lt
    have eg4_1 : g4 ≠ w.heap.size + 1 := dg4_1.symm
    have dg4_2 : w.heap.size + 1 + 1 ≠ g4 := by rw [hg4]; exact Nat.ne_of_lt (H3.get 2 rfl).lt
    have eg4_2 : g4 ≠ w.heap.size + 1 + 1 := dg4_2.symm
    have dg4_3 : g2 ≠ g4 := by rw [hg4]; exact Nat.ne_of_lt (H3.get 3 rfl).lt
    have eg4_3 : g4 ≠ g2 := dg4_3.symm
    clear hw4 hg4 H3 c0_0 c0_1 c0_2 c0_3 f0_0 f0_1 f0_2 f0_3 c1_0 c1_1 c1_2 c1_3 f1_0 f1_1 f1_2 f1_3 c2_0 c2_1 c2_2 c2_3 c2_4 c2_5 c2_6 c2_7 c2_8 c2_9 c2_10 c2_11 c3_0 c3_1 c3_2 c3_3 c3_4 c3_5 c3_6 c3_7 c3_8 c3_9 c3_10 c3_11
    obtain ⟨⟨c0_0, c0_1, c0_2, c0_3⟩, ⟨f0_0, f0_1, f0_2, f0_3⟩⟩ := (H4.get 0 rfl).c4
    obtain ⟨⟨c1_0, c1_1, c1_2, c1_3⟩, ⟨f1_0, f1_1, f1_2, f1_3⟩⟩ := (H4.get 1 rfl).c4
    obtain ⟨⟨c2_0, c2_1, c2_2, c2_3, c2_4, c2_5, c2_6, c2_7, c2_8, c2_9, c2_10, c2_11⟩, -⟩ := HB.out (H4.get 2 rfl)
    obtain ⟨⟨c3_0, c3_1, c3_2, c3_3, c3_4, c3_5, c3_6, c3_7, c3_8, c3_9, c3_10, c3_11⟩, -⟩ := HB.out (H4.get 3 rfl)
    obtain ⟨⟨c4_0, c4_1, c4_2, c4_3⟩, ⟨f4_0, f4_1, f4_2, f4_3⟩⟩ := (H4.get 4 rfl).c4
    go_wp2_with fail
    with_reducible refine (HG1.out _).mono ?_
    rintro e w5 ⟨rfl, hb⟩
    have H5 := H4.next hb
    clear hb H4
    clear c0_0 c0_1 c0_2 c0_3 f0_0 f0_1 f0_2 f0_3 c1_0 c1_1 c1_2 c1_3 f1_0 f1_1 f1_2 f1_3 c2_0 c2_1 c2_2 c2_3 c2_4 c2_5 c2_6 c2_7 c2_8 c2_9 c2_10 c2_11 c3_0 c3_1 c3_2 c3_3 c3_4 c3_5 c3_6 c3_7 c3_8 c3_9 c3_10 c3_11 c4_0 c4_1 c4_2 c4_3 f4_0 f4_1 f4_2 f4_3
    obtain ⟨⟨c0_0, c0_1, c0_2, c0_3⟩, ⟨f0_0, f0_1, f0_2, f0_3⟩⟩ := (H5.get 0 rfl).c4
    obtain ⟨⟨c2_0, c2_1, c2_2, c2_3, c2_4, c2_5, c2_6, c2_7, c2_8, c2_9, c2_10, c2_11⟩, -⟩ := HB.out (H5.get 2 rfl)
    obtain ⟨⟨c3_0, c3_1, c3_2, c3_3, c3_4, c3_5, c3_6, c3_7, c3_8, c3_9, c3_10, c3_11⟩, -⟩ := HB.out (H5.get 3 rfl)
    obtain ⟨⟨c4_0, c4_1, c4_2, c4_3⟩, ⟨f4_0, f4_1, f4_2, f4_3⟩⟩ := (H5.get 4 rfl).c4
    go_wp2_with fail
    with_reducible refine (HR1.out _).mono ?_
    rintro e w6 ⟨rfl, hb⟩
    have H6 := H5.next hb
    clear hb H5
    clear c0_0 c0_1 c0_2 c0_3 f0_0 f0_1 f0_2 f0_3 c2_0 c2_1 c2_2 c2_3 c2_4 c2_5 c2_6 c2_7 c2_8 c2_9 c2_10 c2_11 c3_0 c3_1 c3_2 c3_3 c3_4 c3_5 c3_6 c3_7 c3_8 c3_9 c3_10 c3_11 c4_0 c4_1 c4_2 c4_3 f4_0 f4_1 f4_2 f4_3
    obtain ⟨⟨c0_0, c0_1, c0_2, c0_3⟩, ⟨f0_0, f0_1, f0_2, f0_3⟩⟩ := (H6.get 0 rfl).c4
    obtain ⟨⟨c2_0, c2_1, c2_2, c2_3, c2_4, c2_5, c2_6, c2_7, c2_8, c2_9, c2_10, c2_11⟩, -⟩ := HB.out (H6.get 2 rfl)
    obtain ⟨⟨c3_0, c3_1, c3_2, c3_3, c3_4, c3_5, c3_6, c3_7, c3_8, c3_9, c3_10, c3_11⟩, -⟩ := HB.out (H6.get 3 rfl)
    obtain ⟨⟨c4_0, c4_1, c4_2, c4_3⟩, ⟨f4_0, f4_1, f4_2, f4_3⟩⟩ := (H6.get 4 rfl).c4
    go_wp2_with fail
    with_reducible refine (resize_z o hh x t _).mono ?_
    rintro e w7 ⟨y, rfl, hy, hb⟩
    have H7 := H6.next hb
    clear hb H6
    clear c0_0 c0_1 c0_2 c0_3 f0_0 f0_1 f0_2 f0_3 c2_0 c2_1 c2_2 c2_3 c2_4 c2_5 c2_6 c2_7 c2_8 c2_9 c2_10 c2_11 c3_0 c3_1 c3_2 c3_3 c3_4 c3_5 c3_6 c3_7 c3_8 c3_9 c3_10 c3_11 c4_0 c4_1 c4_2 c4_3 f4_0 f4_1 f4_2 f4_3
    obtain ⟨⟨c0_0, c0_1, c0_2, c0_3⟩, ⟨f0_0, f0_1, f0_2, f0_3⟩⟩ := (H7.get 0 rfl).c4
    obtain ⟨⟨c2_0, c2_1, c2_2, c2_3, c2_4, c2_5, c2_6, c2_7, c2_8, c2_9, c2_10, c2_11⟩, -⟩ := HB.out (H7.get 2 rfl)
    obtain ⟨⟨c3_0, c3_1, c3_2, c3_3, c3_4, c3_5, c3_6, c3_7, c3_8, c3_9, c3_10, c3_11⟩, -⟩ := HB.out (H7.get 3 rfl)
    obtain ⟨⟨c4_0, c4_1, c4_2, c4_3⟩, ⟨f4_0, f4_1, f4_2, f4_3⟩⟩ := (H7.get 4 rfl).c4
    have HY := Lib.hid hy
    clear hy
    go_upto_region 6 with fail
    have H8 := H7.alloc #[.int .i64 y.x, .int .i64 y.y, .int .i64 y.w, .int .i64 y.h] 23
    simp only [List.nil_append, List.cons_append] at H8
    obtain ⟨w8, hw8⟩ : ∃ wz, wz = w7.alloc (.cells #[.int .i64 y.x, .int .i64 y.y, .int .i64 y.w, .int .i64 y.h] 23) := ⟨_, rfl⟩
    rewrite [← hw8] at H8 ⊢
    obtain ⟨g8, hg8⟩ : ∃ gz, gz = w7.heap.size := ⟨_, rfl⟩
    rewrite [← hg8] at H8 ⊢
    have dg8_0 : w.heap.size ≠ g8 := by rw [hg8]; exact Nat.ne_of_lt (H7.get 0 rfl).lt
    have eg8_0 : g8 ≠ w.heap.size := dg8_0.symm
    have dg8_1 : w.heap.size + 1 ≠ g8 := by rw [hg8]; exact Nat.ne_of_lt (H7.get 1 rfl).lt
    have eg8_1 : g8 ≠ w.heap.size + 1 := dg8_1.symm
    have dg8_2 : w.heap.size + 1 + 1 ≠ g8 := by rw [hg8]; exact Nat.ne_of_lt (H7.get 2 rfl).lt
    have eg8_2 : g8 ≠ w.heap.size + 1 + 1 := dg8_2.symm
    have dg8_3 : g2 ≠ g8 := by rw [hg8]; exact Nat.ne_of_lt (H7.get 3 rfl).lt
    have eg8_3 : g8 ≠ g2 := dg8_3.symm
    have dg8_4 : g4 ≠ g8 := by rw [hg8]; exact Nat.ne_of_lt (H7.get 4 rfl).lt
    have eg8_4 : g8 ≠ g4 := dg8_4.symm
    clear hw8 hg8 H7 c0_0 c0_1 c0_2 c0_3 f0_0 f0_1 f0_2 f0_3 c2_0 c2_1 c2_2 c2_3 c2_4 c2_5 c2_6 c2_7 c2_8 c2_9 c2_10 c2_11 c3_0 c3_1 c3_2 c3_3 c3_4 c3_5 c3_6 c3_7 c3_8 c3_9 c3_10 c3_11 c4_0 c4_1 c4_2 c4_3 f4_0 f4_1 f4_2 f4_3
    obtain ⟨⟨c0_0, c0_1, c0_2, c0_3⟩, ⟨f0_0, f0_1, f0_2, f0_3⟩⟩ := (H8.get 0 rfl).c4
    obtain ⟨⟨c3_0, c3_1, c3_2, c3_3, c3_4, c3_5, c3_6, c3_7, c3_8, c3_9, c3_10, c3_11⟩, -⟩ := HB.out (H8.get 3 rfl)
    obtain ⟨⟨c5_0, c5_1, c5_2, c5_3⟩, ⟨f5_0, f5_1, f5_2, f5_3⟩⟩ := (H8.get 5 rfl).c4
    go_wp2_with fail
    with_reducible refine (HR.out _).mono ?_
    rintro e w9 ⟨rfl, hb⟩
    have H9 := H8.next hb
    clear hb H8
    clear c0_0 c0_1 c0_2 c0_3 f0_0 f0_1 f0_2 f0_3 c3_0 c3_1 c3_2 c3_3 c3_4 c3_5 c3_6 c3_7 c3_8 c3_9 c3_10 c3_11 c5_0 c5_1 c5_2 c5_3 f5_0 f5_1 f5_2 f5_3
    obtain ⟨⟨c3_0, c3_1, c3_2, c3_3, c3_4, c3_5, c3_6, c3_7, c3_8, c3_9, c3_10, c3_11⟩, -⟩ := HB.out (H9.get 3 rfl)
    obtain ⟨⟨c5_0, c5_1, c5_2, c5_3⟩, ⟨f5_0, f5_1, f5_2, f5_3⟩⟩ := (H9.get 5 rfl).c4
    obtain ⟨n2, hn2, hg2, hr2⟩ := HY.out.good HRR.out
    obtain rfl := hn2.one HNN.out
    clear hn2
    have HG2 := Lib.hid (fun W => rgood_c n2 HNN.out.right.1 y.w y.h W)
    rw [(gdB_iff _ _ _).2 hg2] at HG2
    have HR2 := Lib.hid (fun W => right_c y.x y.y y.w y.h W)
    rw [show rightB y.x y.y y.w y.h = true from hr2] at HR2
    clear hg2 hr2
    go_wp2_with fail
    with_reducible refine (HG2.out _).mono ?_
    rintro e w10 ⟨rfl, hb⟩
    have H10 := H9.next hb
    clear hb H9
    clear c3_0 c3_1 c3_2 c3_3 c3_4 c3_5 c3_6 c3_7 c3_8 c3_9 c3_10 c3_11 c5_0 c5_1 c5_2 c5_3 f5_0 f5_1 f5_2 f5_3
    obtain ⟨⟨c5_0, c5_1, c5_2, c5_3⟩, ⟨f5_0, f5_1, f5_2, f5_3⟩⟩ := (H10.get 5 rfl).c4
    go_wp2_with fail
    with_reducible refine (HR2.out _).mono ?_
    rintro e w11 ⟨rfl, hb⟩
    have H11 := H10.next hb
    clear hb H10
    clear c5_0 c5_1 c5_2 c5_3 f5_0 f5_1 f5_2 f5_3
    obtain ⟨⟨c5_0, c5_1, c5_2, c5_3⟩, ⟨f5_0, f5_1, f5_2, f5_3⟩⟩ := (H11.get 5 rfl).c4
    go_wp2_with fail
    with_reducible refine (awake_c _).mono ?_
    rintro e w12 ⟨rfl, hb⟩
    have H12 := H11.next hb
    clear hb H11
    go_wp2_with fail
    go_ret
    exact ⟨rfl, H12.below⟩
set_option maxRecDepth 100000 in
set_option maxHeartbeats 4000000 in
theorem seen_w (r v : Rc) (x t : Int) (w : World) : Calls Try.prog 8 #[rcV r, rcV v, .int .i64 x, .int .i64 t] w fun e w' => e = .returned (.bool true) ∧ Below w.heap.size w w' := by
  cases he : emptyR r
  rotate_left
  · have H0 := ((Bk.start w).alloc #[.int .i64 r.x, .int .i64 r.y, .int .i64 r.w, .int .i64 r.h] 23).alloc #[.int .i64 v.x, .int .i64 v.y, .int .i64 v.w, .int .i64 v.h] 23
    simp only [World.size_alloc, List.nil_append, List.cons_append] at H0
    obtain ⟨z, hz⟩ : ∃ z, z = moveR r v x t := ⟨_, rfl⟩
    have HA := Lib.hid (fun W => move_c r v x t W)
    rw [← hz] at HA
    have HE := Lib.hid (fun W => empty_c r.x r.y r.w r.h W)
    rw [show emptyB r.x r.y r.w r.h = true from he] at HE
    have e : moveR r v x t = shiftRR r x t := by unfold moveR; exact if_pos (.inl (by rw [shift_empty]; exact he))
    have HS := Lib.hid (fun W => shift_c r.x r.y r.w r.h x t W)
    rw [show shiftR r.x r.y r.w r.h x t = z from e.symm.trans hz.symm] at HS
    clear e
    clear hz he
    go_enter Try.func8, Try.ntmps8
    obtain ⟨⟨c0_0, c0_1, c0_2, c0_3⟩, ⟨f0_0, f0_1, f0_2, f0_3⟩⟩ := (H0.get 0 rfl).c4
    obtain ⟨⟨c1_0, c1_1, c1_2, c1_3⟩, ⟨f1_0, f1_1, f1_2, f1_3⟩⟩ := (H0.get 1 rfl).c4
    go_wp2_with fail
    with_reducible refine (HA.out _).mono ?_
    rintro e w1 ⟨rfl, hb⟩
    have H1 := H0.next hb
    clear hb H0
    clear c0_0 c0_1 c0_2 c0_3 f0_0 f0_1 f0_2 f0_3 c1_0 c1_1 c1_2 c1_3 f1_0 f1_1 f1_2 f1_3
    obtain ⟨⟨c0_0, c0_1, c0_2, c0_3⟩, ⟨f0_0, f0_1, f0_2, f0_3⟩⟩ := (H1.get 0 rfl).c4
    obtain ⟨⟨c1_0, c1_1, c1_2, c1_3⟩, ⟨f1_0, f1_1, f1_2, f1_3⟩⟩ := (H1.get 1 rfl).c4
    go_upto_region 2 with fail
    have H2 := H1.alloc #[.int .i64 z.x, .int .i64 z.y, .int .i64 z.w, .int .i64 z.h] 23
    simp only [List.nil_append, List.cons_append] at H2
    obtain ⟨w2, hw2⟩ : ∃ wz, wz = w1.alloc (.cells #[.int .i64 z.x, .int .i64 z.y, .int .i64 z.w, .int .i64 z.h] 23) := ⟨_, rfl⟩
    rewrite [← hw2] at H2 ⊢
    obtain ⟨g2, hg2⟩ : ∃ gz, gz = w1.heap.size := ⟨_, rfl⟩
    rewrite [← hg2] at H2 ⊢
    have dg2_0 : w.heap.size ≠ g2 := by rw [hg2]; exact Nat.ne_of_lt (H1.get 0 rfl).lt
    have eg2_0 : g2 ≠ w.heap.size := dg2_0.symm
    have dg2_1 : w.heap.size + 1 ≠ g2 := by rw [hg2]; exact Nat.ne_of_lt (H1.get 1 rfl).lt
    have eg2_1 : g2 ≠ w.heap.size + 1 := dg2_1.symm
    clear hw2 hg2 H1 c0_0 c0_1 c0_2 c0_3 f0_0 f0_1 f0_2 f0_3 c1_0 c1_1 c1_2 c1_3 f1_0 f1_1 f1_2 f1_3
    obtain ⟨⟨c0_0, c0_1, c0_2, c0_3⟩, ⟨f0_0, f0_1, f0_2, f0_3⟩⟩ := (H2.get 0 rfl).c4
    obtain ⟨⟨c1_0, c1_1, c1_2, c1_3⟩, ⟨f1_0, f1_1, f1_2, f1_3⟩⟩ := (H2.get 1 rfl).c4
    obtain ⟨⟨c2_0, c2_1, c2_2, c2_3⟩, ⟨f2_0, f2_1, f2_2, f2_3⟩⟩ := (H2.get 2 rfl).c4
    go_wp2_with fail
    with_reducible refine (HE.out _).mono ?_
    rintro e w3 ⟨rfl, hb⟩
    have H3 := H2.next hb
    clear hb H2
    clear c0_0 c0_1 c0_2 c0_3 f0_0 f0_1 f0_2 f0_3 c1_0 c1_1 c1_2 c1_3 f1_0 f1_1 f1_2 f1_3 c2_0 c2_1 c2_2 c2_3 f2_0 f2_1 f2_2 f2_3
    obtain ⟨⟨c0_0, c0_1, c0_2, c0_3⟩, ⟨f0_0, f0_1, f0_2, f0_3⟩⟩ := (H3.get 0 rfl).c4
    obtain ⟨⟨c1_0, c1_1, c1_2, c1_3⟩, ⟨f1_0, f1_1, f1_2, f1_3⟩⟩ := (H3.get 1 rfl).c4
    obtain ⟨⟨c2_0, c2_1, c2_2, c2_3⟩, ⟨f2_0, f2_1, f2_2, f2_3⟩⟩ := (H3.get 2 rfl).c4
    go_upto_region 3 with fail
    clear c0_0 c0_1 c0_2 c0_3 f0_0 f0_1 f0_2 f0_3 c1_0 c1_1 c1_2 c1_3 f1_0 f1_1 f1_2 f1_3 c2_0 c2_1 c2_2 c2_3 f2_0 f2_1 f2_2 f2_3
    obtain ⟨⟨k0_0, k0_1, k0_2, k0_3⟩, ⟨k0_f0, k0_f1, k0_f2, k0_f3⟩⟩ := (H3.get 0 rfl).c4; obtain ⟨⟨k2_0, k2_1, k2_2, k2_3⟩, ⟨k2_f0, k2_f1, k2_f2, k2_f3⟩⟩ := (H3.get 2 rfl).c4
    refine wp_region_noPanic ?_
    refine wp_region_held_drew (S := fun wx => wx.cell? ⟨w.heap.size, 0, none⟩ = some (.int .i64 r.x) ∧ wx.cell? ⟨w.heap.size, 1, none⟩ = some (.int .i64 r.y) ∧ wx.cell? ⟨w.heap.size, 2, none⟩ = some (.int .i64 r.w) ∧ wx.cell? ⟨w.heap.size, 3, none⟩ = some (.int .i64 r.h) ∧ wx.cell? ⟨g2, 0, none⟩ = some (.int .i64 z.x) ∧ wx.cell? ⟨g2, 1, none⟩ = some (.int .i64 z.y) ∧ wx.cell? ⟨g2, 2, none⟩ = some (.int .i64 z.w) ∧ wx.cell? ⟨g2, 3, none⟩ = some (.int .i64 z.h)) (by kernel_rfl) (by exact ⟨k0_0, k0_1, k0_2, k0_3, k2_0, k2_1, k2_2, k2_3⟩) (fun hHeld => ?_)
    refine wpAnyH_take (i := 0) (v := ?vq8x0) rfl (by kernel_rfl) (by kernel_rfl) (by kernel_rfl) (fun _ _ _ h => h) (Or.inl ⟨by kernel_rfl, ?yq8x0⟩) (by assumption) ?rq8x0
    case yq8x0 => (intro wq hSw; (try dsimp only at hSw); go_simp; (try with_reducible rfl))
    (try simp only [Act.put, List.getElem_toArray, List.getElem_cons_zero, List.setIfInBounds_toArray, List.set_cons_zero, List.set_cons_succ])
    refine wpAnyH_take (i := 1) (v := ?vq8x1) rfl (by kernel_rfl) (by kernel_rfl) (by kernel_rfl) (fun _ _ _ h => h) (Or.inl ⟨by kernel_rfl, ?yq8x1⟩) (by assumption) ?rq8x1
    case yq8x1 => (intro wq hSw; (try dsimp only at hSw); go_simp; (try with_reducible rfl))
    (try simp only [Act.put, List.getElem_toArray, List.getElem_cons_succ, List.getElem_cons_zero, List.setIfInBounds_toArray, List.set_cons_zero, List.set_cons_succ])
    refine wpAnyH_take (i := 2) (v := ?vq8x2) rfl (by kernel_rfl) (by kernel_rfl) (by kernel_rfl) (fun _ _ _ h => h) (Or.inl ⟨by kernel_rfl, ?yq8x2⟩) (by assumption) ?rq8x2
    case yq8x2 => (intro wq hSw; (try dsimp only at hSw); go_simp; (try with_reducible rfl))
    (try simp only [Act.put, List.getElem_toArray, List.getElem_cons_succ, List.getElem_cons_zero, List.setIfInBounds_toArray, List.set_cons_zero, List.set_cons_succ])
    refine wpAnyH_take (i := 3) (v := ?vq8x3) rfl (by kernel_rfl) (by kernel_rfl) (by kernel_rfl) (fun _ _ _ h => h) (Or.inl ⟨by kernel_rfl, ?yq8x3⟩) (by assumption) ?rq8x3
    case yq8x3 => (intro wq hSw; (try dsimp only at hSw); go_simp; (try with_reducible rfl))
    (try simp only [Act.put, List.getElem_toArray, List.getElem_cons_succ, List.getElem_cons_zero, List.setIfInBounds_toArray, List.set_cons_zero, List.set_cons_succ])
    refine wpAnyH_ready (rs := [4]) (by kernel_rfl) (by simp) ?_
    refine AllReadyH.cons rfl (fun K hK => ?_) AllReadyH.nil
    go_simp
    refine (HS.out _).mono ?_
    rintro e w4 ⟨rfl, hb⟩; have H4 := H3.drew.next hb; clear hb H3 k0_0 k0_f0 k0_1 k0_f1 k0_2 k0_f2 k0_3 k0_f3 k2_0 k2_f0 k2_1 k2_f1 k2_2 k2_f2 k2_3 k2_f3; obtain ⟨⟨k0_0, k0_1, k0_2, k0_3⟩, ⟨k0_f0, k0_f1, k0_f2, k0_f3⟩⟩ := (H4.get 0 rfl).c4; obtain ⟨⟨k2_0, k2_1, k2_2, k2_3⟩, ⟨k2_f0, k2_f1, k2_f2, k2_f3⟩⟩ := (H4.get 2 rfl).c4
    (try dsimp only)
    refine hK.out _ _ (by exact ⟨k0_0, k0_1, k0_2, k0_3, k2_0, k2_1, k2_2, k2_3⟩) (fun hHeld => ?_)
    clear hK K
    (try simp only [Act.put, List.getElem_toArray, List.getElem_cons_succ, List.getElem_cons_zero, List.setIfInBounds_toArray, List.set_cons_zero, List.set_cons_succ])
    refine wpAnyH_take (i := 5) (v := ?vq8x5) rfl (by kernel_rfl) (by kernel_rfl) (by kernel_rfl) (fun _ _ _ h => h) (Or.inl ⟨by kernel_rfl, ?yq8x5⟩) (by assumption) ?rq8x5
    case yq8x5 => (intro wq hSw; (try dsimp only at hSw); go_simp; (try with_reducible rfl))
    (try simp only [Act.put, List.getElem_toArray, List.getElem_cons_succ, List.getElem_cons_zero, List.setIfInBounds_toArray, List.set_cons_zero, List.set_cons_succ])
    refine wpAnyH_take (i := 6) (v := ?vq8x6) rfl (by kernel_rfl) (by kernel_rfl) (by kernel_rfl) (fun _ _ _ h => h) (Or.inl ⟨by kernel_rfl, ?yq8x6⟩) (by assumption) ?rq8x6
    case yq8x6 => (intro wq hSw; (try dsimp only at hSw); go_simp; (try with_reducible rfl))
    (try simp only [Act.put, List.getElem_toArray, List.getElem_cons_succ, List.getElem_cons_zero, List.setIfInBounds_toArray, List.set_cons_zero, List.set_cons_succ])
    refine wpAnyH_ready (rs := [7]) (by kernel_rfl) (by simp) ?_
    refine AllReadyH.cons rfl (fun K hK => ?_) AllReadyH.nil
    go_simp
    refine (awake_c _).mono ?_
    rintro e w5 ⟨rfl, hb⟩; have H5 := H4.next hb; clear hb H4 k0_0 k0_f0 k0_1 k0_f1 k0_2 k0_f2 k0_3 k0_f3 k2_0 k2_f0 k2_1 k2_f1 k2_2 k2_f2 k2_3 k2_f3; obtain ⟨⟨k0_0, k0_1, k0_2, k0_3⟩, ⟨k0_f0, k0_f1, k0_f2, k0_f3⟩⟩ := (H5.get 0 rfl).c4; obtain ⟨⟨k2_0, k2_1, k2_2, k2_3⟩, ⟨k2_f0, k2_f1, k2_f2, k2_f3⟩⟩ := (H5.get 2 rfl).c4
    (try dsimp only)
    refine hK.out _ _ (by exact ⟨k0_0, k0_1, k0_2, k0_3, k2_0, k2_1, k2_2, k2_3⟩) (fun hHeld => ?_)
    clear hK K
    (try simp only [Act.put, List.getElem_toArray, List.getElem_cons_succ, List.getElem_cons_zero, List.setIfInBounds_toArray, List.set_cons_zero, List.set_cons_succ])
    refine wpAnyH_take (i := 8) (v := ?vq8x8) rfl (by kernel_rfl) (by kernel_rfl) (by kernel_rfl) (fun _ _ _ h => h) (Or.inl ⟨by kernel_rfl, ?yq8x8⟩) (by assumption) ?rq8x8
    case yq8x8 => (intro wq hSw; (try dsimp only at hSw); go_simp; (try with_reducible rfl))
    (try simp only [Act.put, List.getElem_toArray, List.getElem_cons_succ, List.getElem_cons_zero, List.setIfInBounds_toArray, List.set_cons_zero, List.set_cons_succ])
    refine wpAnyH_take (i := 9) (v := ?vq8x9) rfl (by kernel_rfl) (by kernel_rfl) (by kernel_rfl) (fun _ _ _ h => h) (Or.inl ⟨by kernel_rfl, ?yq8x9⟩) (by assumption) ?rq8x9
    case yq8x9 => (intro wq hSw; (try dsimp only at hSw); go_simp; (try with_reducible rfl))
    (try simp only [Act.put, List.getElem_toArray, List.getElem_cons_succ, List.getElem_cons_zero, List.setIfInBounds_toArray, List.set_cons_zero, List.set_cons_succ])
    refine wpAnyH_done (by kernel_rfl) ?_ _
    refine NoPanic.normal ?_
    go_wp2_with fail
    go_ret
    exact ⟨rfl, H5.below⟩
  cases hv : emptyR v
  rotate_left
  · have H0 := ((Bk.start w).alloc #[.int .i64 r.x, .int .i64 r.y, .int .i64 r.w, .int .i64 r.h] 23).alloc #[.int .i64 v.x, .int .i64 v.y, .int .i64 v.w, .int .i64 v.h] 23
    simp only [World.size_alloc, List.nil_append, List.cons_append] at H0
    obtain ⟨z, hz⟩ : ∃ z, z = moveR r v x t := ⟨_, rfl⟩
    have HA := Lib.hid (fun W => move_c r v x t W)
    rw [← hz] at HA
    have HE := Lib.hid (fun W => empty_c r.x r.y r.w r.h W)
    rw [show emptyB r.x r.y r.w r.h = false from he] at HE
    have HV := Lib.hid (fun W => empty_c v.x v.y v.w v.h W)
    rw [show emptyB v.x v.y v.w v.h = true from hv] at HV
    have e : moveR r v x t = shiftRR r x t := by unfold moveR; exact if_pos (.inr hv)
    have HS := Lib.hid (fun W => shift_c r.x r.y r.w r.h x t W)
    rw [show shiftR r.x r.y r.w r.h x t = z from e.symm.trans hz.symm] at HS
    clear e
    clear hz he hv
    go_enter Try.func8, Try.ntmps8
    obtain ⟨⟨c0_0, c0_1, c0_2, c0_3⟩, ⟨f0_0, f0_1, f0_2, f0_3⟩⟩ := (H0.get 0 rfl).c4
    obtain ⟨⟨c1_0, c1_1, c1_2, c1_3⟩, ⟨f1_0, f1_1, f1_2, f1_3⟩⟩ := (H0.get 1 rfl).c4
    go_wp2_with fail
    with_reducible refine (HA.out _).mono ?_
    rintro e w1 ⟨rfl, hb⟩
    have H1 := H0.next hb
    clear hb H0
    clear c0_0 c0_1 c0_2 c0_3 f0_0 f0_1 f0_2 f0_3 c1_0 c1_1 c1_2 c1_3 f1_0 f1_1 f1_2 f1_3
    obtain ⟨⟨c0_0, c0_1, c0_2, c0_3⟩, ⟨f0_0, f0_1, f0_2, f0_3⟩⟩ := (H1.get 0 rfl).c4
    obtain ⟨⟨c1_0, c1_1, c1_2, c1_3⟩, ⟨f1_0, f1_1, f1_2, f1_3⟩⟩ := (H1.get 1 rfl).c4
    go_upto_region 2 with fail
    have H2 := H1.alloc #[.int .i64 z.x, .int .i64 z.y, .int .i64 z.w, .int .i64 z.h] 23
    simp only [List.nil_append, List.cons_append] at H2
    obtain ⟨w2, hw2⟩ : ∃ wz, wz = w1.alloc (.cells #[.int .i64 z.x, .int .i64 z.y, .int .i64 z.w, .int .i64 z.h] 23) := ⟨_, rfl⟩
    rewrite [← hw2] at H2 ⊢
    obtain ⟨g2, hg2⟩ : ∃ gz, gz = w1.heap.size := ⟨_, rfl⟩
    rewrite [← hg2] at H2 ⊢
    have dg2_0 : w.heap.size ≠ g2 := by rw [hg2]; exact Nat.ne_of_lt (H1.get 0 rfl).lt
    have eg2_0 : g2 ≠ w.heap.size := dg2_0.symm
    have dg2_1 : w.heap.size + 1 ≠ g2 := by rw [hg2]; exact Nat.ne_of_lt (H1.get 1 rfl).lt
    have eg2_1 : g2 ≠ w.heap.size + 1 := dg2_1.symm
    clear hw2 hg2 H1 c0_0 c0_1 c0_2 c0_3 f0_0 f0_1 f0_2 f0_3 c1_0 c1_1 c1_2 c1_3 f1_0 f1_1 f1_2 f1_3
    obtain ⟨⟨c0_0, c0_1, c0_2, c0_3⟩, ⟨f0_0, f0_1, f0_2, f0_3⟩⟩ := (H2.get 0 rfl).c4
    obtain ⟨⟨c1_0, c1_1, c1_2, c1_3⟩, ⟨f1_0, f1_1, f1_2, f1_3⟩⟩ := (H2.get 1 rfl).c4
    obtain ⟨⟨c2_0, c2_1, c2_2, c2_3⟩, ⟨f2_0, f2_1, f2_2, f2_3⟩⟩ := (H2.get 2 rfl).c4
    go_wp2_with fail
    with_reducible refine (HE.out _).mono ?_
    rintro e w3 ⟨rfl, hb⟩
    have H3 := H2.next hb
    clear hb H2
    clear c0_0 c0_1 c0_2 c0_3 f0_0 f0_1 f0_2 f0_3 c1_0 c1_1 c1_2 c1_3 f1_0 f1_1 f1_2 f1_3 c2_0 c2_1 c2_2 c2_3 f2_0 f2_1 f2_2 f2_3
    obtain ⟨⟨c0_0, c0_1, c0_2, c0_3⟩, ⟨f0_0, f0_1, f0_2, f0_3⟩⟩ := (H3.get 0 rfl).c4
    obtain ⟨⟨c1_0, c1_1, c1_2, c1_3⟩, ⟨f1_0, f1_1, f1_2, f1_3⟩⟩ := (H3.get 1 rfl).c4
    obtain ⟨⟨c2_0, c2_1, c2_2, c2_3⟩, ⟨f2_0, f2_1, f2_2, f2_3⟩⟩ := (H3.get 2 rfl).c4
    go_wp2_with fail
    with_reducible refine (HV.out _).mono ?_
    rintro e w4 ⟨rfl, hb⟩
    have H4 := H3.next hb
    clear hb H3
    clear c0_0 c0_1 c0_2 c0_3 f0_0 f0_1 f0_2 f0_3 c1_0 c1_1 c1_2 c1_3 f1_0 f1_1 f1_2 f1_3 c2_0 c2_1 c2_2 c2_3 f2_0 f2_1 f2_2 f2_3
    obtain ⟨⟨c0_0, c0_1, c0_2, c0_3⟩, ⟨f0_0, f0_1, f0_2, f0_3⟩⟩ := (H4.get 0 rfl).c4
    obtain ⟨⟨c1_0, c1_1, c1_2, c1_3⟩, ⟨f1_0, f1_1, f1_2, f1_3⟩⟩ := (H4.get 1 rfl).c4
    obtain ⟨⟨c2_0, c2_1, c2_2, c2_3⟩, ⟨f2_0, f2_1, f2_2, f2_3⟩⟩ := (H4.get 2 rfl).c4
    go_upto_region 3 with fail
    clear c0_0 c0_1 c0_2 c0_3 f0_0 f0_1 f0_2 f0_3 c1_0 c1_1 c1_2 c1_3 f1_0 f1_1 f1_2 f1_3 c2_0 c2_1 c2_2 c2_3 f2_0 f2_1 f2_2 f2_3
    obtain ⟨⟨k0_0, k0_1, k0_2, k0_3⟩, ⟨k0_f0, k0_f1, k0_f2, k0_f3⟩⟩ := (H4.get 0 rfl).c4; obtain ⟨⟨k2_0, k2_1, k2_2, k2_3⟩, ⟨k2_f0, k2_f1, k2_f2, k2_f3⟩⟩ := (H4.get 2 rfl).c4
    refine wp_region_noPanic ?_
    refine wp_region_held_drew (S := fun wx => wx.cell? ⟨w.heap.size, 0, none⟩ = some (.int .i64 r.x) ∧ wx.cell? ⟨w.heap.size, 1, none⟩ = some (.int .i64 r.y) ∧ wx.cell? ⟨w.heap.size, 2, none⟩ = some (.int .i64 r.w) ∧ wx.cell? ⟨w.heap.size, 3, none⟩ = some (.int .i64 r.h) ∧ wx.cell? ⟨g2, 0, none⟩ = some (.int .i64 z.x) ∧ wx.cell? ⟨g2, 1, none⟩ = some (.int .i64 z.y) ∧ wx.cell? ⟨g2, 2, none⟩ = some (.int .i64 z.w) ∧ wx.cell? ⟨g2, 3, none⟩ = some (.int .i64 z.h)) (by kernel_rfl) (by exact ⟨k0_0, k0_1, k0_2, k0_3, k2_0, k2_1, k2_2, k2_3⟩) (fun hHeld => ?_)
    refine wpAnyH_take (i := 0) (v := ?vq9x0) rfl (by kernel_rfl) (by kernel_rfl) (by kernel_rfl) (fun _ _ _ h => h) (Or.inl ⟨by kernel_rfl, ?yq9x0⟩) (by assumption) ?rq9x0
    case yq9x0 => (intro wq hSw; (try dsimp only at hSw); go_simp; (try with_reducible rfl))
    (try simp only [Act.put, List.getElem_toArray, List.getElem_cons_zero, List.setIfInBounds_toArray, List.set_cons_zero, List.set_cons_succ])
    refine wpAnyH_take (i := 1) (v := ?vq9x1) rfl (by kernel_rfl) (by kernel_rfl) (by kernel_rfl) (fun _ _ _ h => h) (Or.inl ⟨by kernel_rfl, ?yq9x1⟩) (by assumption) ?rq9x1
    case yq9x1 => (intro wq hSw; (try dsimp only at hSw); go_simp; (try with_reducible rfl))
    (try simp only [Act.put, List.getElem_toArray, List.getElem_cons_succ, List.getElem_cons_zero, List.setIfInBounds_toArray, List.set_cons_zero, List.set_cons_succ])
    refine wpAnyH_take (i := 2) (v := ?vq9x2) rfl (by kernel_rfl) (by kernel_rfl) (by kernel_rfl) (fun _ _ _ h => h) (Or.inl ⟨by kernel_rfl, ?yq9x2⟩) (by assumption) ?rq9x2
    case yq9x2 => (intro wq hSw; (try dsimp only at hSw); go_simp; (try with_reducible rfl))
    (try simp only [Act.put, List.getElem_toArray, List.getElem_cons_succ, List.getElem_cons_zero, List.setIfInBounds_toArray, List.set_cons_zero, List.set_cons_succ])
    refine wpAnyH_take (i := 3) (v := ?vq9x3) rfl (by kernel_rfl) (by kernel_rfl) (by kernel_rfl) (fun _ _ _ h => h) (Or.inl ⟨by kernel_rfl, ?yq9x3⟩) (by assumption) ?rq9x3
    case yq9x3 => (intro wq hSw; (try dsimp only at hSw); go_simp; (try with_reducible rfl))
    (try simp only [Act.put, List.getElem_toArray, List.getElem_cons_succ, List.getElem_cons_zero, List.setIfInBounds_toArray, List.set_cons_zero, List.set_cons_succ])
    refine wpAnyH_ready (rs := [4]) (by kernel_rfl) (by simp) ?_
    refine AllReadyH.cons rfl (fun K hK => ?_) AllReadyH.nil
    go_simp
    refine (HS.out _).mono ?_
    rintro e w5 ⟨rfl, hb⟩; have H5 := H4.drew.next hb; clear hb H4 k0_0 k0_f0 k0_1 k0_f1 k0_2 k0_f2 k0_3 k0_f3 k2_0 k2_f0 k2_1 k2_f1 k2_2 k2_f2 k2_3 k2_f3; obtain ⟨⟨k0_0, k0_1, k0_2, k0_3⟩, ⟨k0_f0, k0_f1, k0_f2, k0_f3⟩⟩ := (H5.get 0 rfl).c4; obtain ⟨⟨k2_0, k2_1, k2_2, k2_3⟩, ⟨k2_f0, k2_f1, k2_f2, k2_f3⟩⟩ := (H5.get 2 rfl).c4
    (try dsimp only)
    refine hK.out _ _ (by exact ⟨k0_0, k0_1, k0_2, k0_3, k2_0, k2_1, k2_2, k2_3⟩) (fun hHeld => ?_)
    clear hK K
    (try simp only [Act.put, List.getElem_toArray, List.getElem_cons_succ, List.getElem_cons_zero, List.setIfInBounds_toArray, List.set_cons_zero, List.set_cons_succ])
    refine wpAnyH_take (i := 5) (v := ?vq9x5) rfl (by kernel_rfl) (by kernel_rfl) (by kernel_rfl) (fun _ _ _ h => h) (Or.inl ⟨by kernel_rfl, ?yq9x5⟩) (by assumption) ?rq9x5
    case yq9x5 => (intro wq hSw; (try dsimp only at hSw); go_simp; (try with_reducible rfl))
    (try simp only [Act.put, List.getElem_toArray, List.getElem_cons_succ, List.getElem_cons_zero, List.setIfInBounds_toArray, List.set_cons_zero, List.set_cons_succ])
    refine wpAnyH_take (i := 6) (v := ?vq9x6) rfl (by kernel_rfl) (by kernel_rfl) (by kernel_rfl) (fun _ _ _ h => h) (Or.inl ⟨by kernel_rfl, ?yq9x6⟩) (by assumption) ?rq9x6
    case yq9x6 => (intro wq hSw; (try dsimp only at hSw); go_simp; (try with_reducible rfl))
    (try simp only [Act.put, List.getElem_toArray, List.getElem_cons_succ, List.getElem_cons_zero, List.setIfInBounds_toArray, List.set_cons_zero, List.set_cons_succ])
    refine wpAnyH_ready (rs := [7]) (by kernel_rfl) (by simp) ?_
    refine AllReadyH.cons rfl (fun K hK => ?_) AllReadyH.nil
    go_simp
    refine (awake_c _).mono ?_
    rintro e w6 ⟨rfl, hb⟩; have H6 := H5.next hb; clear hb H5 k0_0 k0_f0 k0_1 k0_f1 k0_2 k0_f2 k0_3 k0_f3 k2_0 k2_f0 k2_1 k2_f1 k2_2 k2_f2 k2_3 k2_f3; obtain ⟨⟨k0_0, k0_1, k0_2, k0_3⟩, ⟨k0_f0, k0_f1, k0_f2, k0_f3⟩⟩ := (H6.get 0 rfl).c4; obtain ⟨⟨k2_0, k2_1, k2_2, k2_3⟩, ⟨k2_f0, k2_f1, k2_f2, k2_f3⟩⟩ := (H6.get 2 rfl).c4
    (try dsimp only)
    refine hK.out _ _ (by exact ⟨k0_0, k0_1, k0_2, k0_3, k2_0, k2_1, k2_2, k2_3⟩) (fun hHeld => ?_)
    clear hK K
    (try simp only [Act.put, List.getElem_toArray, List.getElem_cons_succ, List.getElem_cons_zero, List.setIfInBounds_toArray, List.set_cons_zero, List.set_cons_succ])
    refine wpAnyH_take (i := 8) (v := ?vq9x8) rfl (by kernel_rfl) (by kernel_rfl) (by kernel_rfl) (fun _ _ _ h => h) (Or.inl ⟨by kernel_rfl, ?yq9x8⟩) (by assumption) ?rq9x8
    case yq9x8 => (intro wq hSw; (try dsimp only at hSw); go_simp; (try with_reducible rfl))
    (try simp only [Act.put, List.getElem_toArray, List.getElem_cons_succ, List.getElem_cons_zero, List.setIfInBounds_toArray, List.set_cons_zero, List.set_cons_succ])
    refine wpAnyH_take (i := 9) (v := ?vq9x9) rfl (by kernel_rfl) (by kernel_rfl) (by kernel_rfl) (fun _ _ _ h => h) (Or.inl ⟨by kernel_rfl, ?yq9x9⟩) (by assumption) ?rq9x9
    case yq9x9 => (intro wq hSw; (try dsimp only at hSw); go_simp; (try with_reducible rfl))
    (try simp only [Act.put, List.getElem_toArray, List.getElem_cons_succ, List.getElem_cons_zero, List.setIfInBounds_toArray, List.set_cons_zero, List.set_cons_succ])
    refine wpAnyH_done (by kernel_rfl) ?_ _
    refine NoPanic.normal ?_
    go_wp2_with fail
    go_ret
    exact ⟨rfl, H6.below⟩
  · have H0 := ((Bk.start w).alloc #[.int .i64 r.x, .int .i64 r.y, .int .i64 r.w, .int .i64 r.h] 23).alloc #[.int .i64 v.x, .int .i64 v.y, .int .i64 v.w, .int .i64 v.h] 23
    simp only [World.size_alloc, List.nil_append, List.cons_append] at H0
    obtain ⟨z, hz⟩ : ∃ z, z = moveR r v x t := ⟨_, rfl⟩
    have HA := Lib.hid (fun W => move_c r v x t W)
    rw [← hz] at HA
    have HE := Lib.hid (fun W => empty_c r.x r.y r.w r.h W)
    rw [show emptyB r.x r.y r.w r.h = false from he] at HE
    have HV := Lib.hid (fun W => empty_c v.x v.y v.w v.h W)
    rw [show emptyB v.x v.y v.w v.h = false from hv] at HV
    have hs := (shift_empty r x t).trans he
    obtain ⟨-, sw, sh⟩ := shift_right (right_of_full he) x t
    have e : moveR r v x t = movedR (shiftRR r x t) v := by unfold moveR; exact if_neg (by rw [hs, hv]; simp)
    obtain ⟨k1, k2, k3, k4⟩ := seen_grip hs hv
    rw [← e, ← hz] at k1 k2 k3 k4
    rw [sw] at k2 k4
    rw [sh] at k3 k4
    have HR := Lib.hid (fun W => right_c z.x z.y z.w z.h W)
    rw [show rightB z.x z.y z.w z.h = true from k1] at HR
    obtain ⟨⟨x1, x2, x3, x4⟩, y1, y2, y3, y4⟩ := (rightR_iff z).1 k1
    have HK := Lib.hid k4
    have HI := Lib.hid (fun W => inter_c z.x z.y z.w z.h v.x v.y v.w v.h W)
    obtain ⟨i, hi⟩ : ∃ i, i = interR z.x z.y z.w z.h v.x v.y v.w v.h := ⟨_, rfl⟩
    rw [← hi] at HI HK
    rw [← k2, ← k3] at HK
    clear e k1 k4 hi hs sw sh
    have e2 : (z.w != r.w) = false := by rw [k2]; simp
    have e3 : (z.h != r.h) = false := by rw [k3]; simp
    rw [k2, k3] at HK
    have K2 := Lib.hid k2
    have K3 := Lib.hid k3
    clear k2 k3
    clear hz he hv
    go_enter Try.func8, Try.ntmps8
    obtain ⟨⟨c0_0, c0_1, c0_2, c0_3⟩, ⟨f0_0, f0_1, f0_2, f0_3⟩⟩ := (H0.get 0 rfl).c4
    obtain ⟨⟨c1_0, c1_1, c1_2, c1_3⟩, ⟨f1_0, f1_1, f1_2, f1_3⟩⟩ := (H0.get 1 rfl).c4
    go_wp2_with fail
    with_reducible refine (HA.out _).mono ?_
    rintro e w1 ⟨rfl, hb⟩
    have H1 := H0.next hb
    clear hb H0
    clear c0_0 c0_1 c0_2 c0_3 f0_0 f0_1 f0_2 f0_3 c1_0 c1_1 c1_2 c1_3 f1_0 f1_1 f1_2 f1_3
    obtain ⟨⟨c0_0, c0_1, c0_2, c0_3⟩, ⟨f0_0, f0_1, f0_2, f0_3⟩⟩ := (H1.get 0 rfl).c4
    obtain ⟨⟨c1_0, c1_1, c1_2, c1_3⟩, ⟨f1_0, f1_1, f1_2, f1_3⟩⟩ := (H1.get 1 rfl).c4
    go_upto_region 2 with fail
    have H2 := H1.alloc #[.int .i64 z.x, .int .i64 z.y, .int .i64 z.w, .int .i64 z.h] 23
    simp only [List.nil_append, List.cons_append] at H2
    obtain ⟨w2, hw2⟩ : ∃ wz, wz = w1.alloc (.cells #[.int .i64 z.x, .int .i64 z.y, .int .i64 z.w, .int .i64 z.h] 23) := ⟨_, rfl⟩
    rewrite [← hw2] at H2 ⊢
    obtain ⟨g2, hg2⟩ : ∃ gz, gz = w1.heap.size := ⟨_, rfl⟩
    rewrite [← hg2] at H2 ⊢
    have dg2_0 : w.heap.size ≠ g2 := by rw [hg2]; exact Nat.ne_of_lt (H1.get 0 rfl).lt
    have eg2_0 : g2 ≠ w.heap.size := dg2_0.symm
    have dg2_1 : w.heap.size + 1 ≠ g2 := by rw [hg2]; exact Nat.ne_of_lt (H1.get 1 rfl).lt
    have eg2_1 : g2 ≠ w.heap.size + 1 := dg2_1.symm
    clear hw2 hg2 H1 c0_0 c0_1 c0_2 c0_3 f0_0 f0_1 f0_2 f0_3 c1_0 c1_1 c1_2 c1_3 f1_0 f1_1 f1_2 f1_3
    obtain ⟨⟨c0_0, c0_1, c0_2, c0_3⟩, ⟨f0_0, f0_1, f0_2, f0_3⟩⟩ := (H2.get 0 rfl).c4
    obtain ⟨⟨c1_0, c1_1, c1_2, c1_3⟩, ⟨f1_0, f1_1, f1_2, f1_3⟩⟩ := (H2.get 1 rfl).c4
    obtain ⟨⟨c2_0, c2_1, c2_2, c2_3⟩, ⟨f2_0, f2_1, f2_2, f2_3⟩⟩ := (H2.get 2 rfl).c4
    go_wp2_with fail
    with_reducible refine (HE.out _).mono ?_
    rintro e w3 ⟨rfl, hb⟩
    have H3 := H2.next hb
    clear hb H2
    clear c0_0 c0_1 c0_2 c0_3 f0_0 f0_1 f0_2 f0_3 c1_0 c1_1 c1_2 c1_3 f1_0 f1_1 f1_2 f1_3 c2_0 c2_1 c2_2 c2_3 f2_0 f2_1 f2_2 f2_3
    obtain ⟨⟨c0_0, c0_1, c0_2, c0_3⟩, ⟨f0_0, f0_1, f0_2, f0_3⟩⟩ := (H3.get 0 rfl).c4
    obtain ⟨⟨c1_0, c1_1, c1_2, c1_3⟩, ⟨f1_0, f1_1, f1_2, f1_3⟩⟩ := (H3.get 1 rfl).c4
    obtain ⟨⟨c2_0, c2_1, c2_2, c2_3⟩, ⟨f2_0, f2_1, f2_2, f2_3⟩⟩ := (H3.get 2 rfl).c4
    go_wp2_with fail
    with_reducible refine (HV.out _).mono ?_
    rintro e w4 ⟨rfl, hb⟩
    have H4 := H3.next hb
    clear hb H3
    clear c0_0 c0_1 c0_2 c0_3 f0_0 f0_1 f0_2 f0_3 c1_0 c1_1 c1_2 c1_3 f1_0 f1_1 f1_2 f1_3 c2_0 c2_1 c2_2 c2_3 f2_0 f2_1 f2_2 f2_3
    obtain ⟨⟨c0_0, c0_1, c0_2, c0_3⟩, ⟨f0_0, f0_1, f0_2, f0_3⟩⟩ := (H4.get 0 rfl).c4
    obtain ⟨⟨c1_0, c1_1, c1_2, c1_3⟩, ⟨f1_0, f1_1, f1_2, f1_3⟩⟩ := (H4.get 1 rfl).c4
    obtain ⟨⟨c2_0, c2_1, c2_2, c2_3⟩, ⟨f2_0, f2_1, f2_2, f2_3⟩⟩ := (H4.get 2 rfl).c4
    go_wp2_with fail
    with_reducible refine (HR.out _).mono ?_
    rintro e w5 ⟨rfl, hb⟩
    have H5 := H4.next hb
    clear hb H4
    clear c0_0 c0_1 c0_2 c0_3 f0_0 f0_1 f0_2 f0_3 c1_0 c1_1 c1_2 c1_3 f1_0 f1_1 f1_2 f1_3 c2_0 c2_1 c2_2 c2_3 f2_0 f2_1 f2_2 f2_3
    obtain ⟨⟨c0_0, c0_1, c0_2, c0_3⟩, ⟨f0_0, f0_1, f0_2, f0_3⟩⟩ := (H5.get 0 rfl).c4
    obtain ⟨⟨c1_0, c1_1, c1_2, c1_3⟩, ⟨f1_0, f1_1, f1_2, f1_3⟩⟩ := (H5.get 1 rfl).c4
    obtain ⟨⟨c2_0, c2_1, c2_2, c2_3⟩, ⟨f2_0, f2_1, f2_2, f2_3⟩⟩ := (H5.get 2 rfl).c4
    by_cases q1 : z.x ≤ -32768
    · go_wp2_with fail
      with_reducible refine (awake_c _).mono ?_
      rintro e w9 ⟨rfl, hb⟩
      have H9 := H5.next hb
      clear hb
      go_wp2_with fail
      go_ret
      exact ⟨rfl, H9.below⟩
    by_cases q2 : z.y ≤ -32768
    · go_wp2_with fail
      with_reducible refine (awake_c _).mono ?_
      rintro e w9 ⟨rfl, hb⟩
      have H9 := H5.next hb
      clear hb
      go_wp2_with fail
      go_ret
      exact ⟨rfl, H9.below⟩
    by_cases q3 : 32767 - z.w < z.x
    · go_wp2_with fail
      with_reducible refine (awake_c _).mono ?_
      rintro e w9 ⟨rfl, hb⟩
      have H9 := H5.next hb
      clear hb
      go_wp2_with fail
      go_ret
      exact ⟨rfl, H9.below⟩
    by_cases q4 : 32767 - z.h < z.y
    · go_wp2_with fail
      with_reducible refine (awake_c _).mono ?_
      rintro e w9 ⟨rfl, hb⟩
      have H9 := H5.next hb
      clear hb
      go_wp2_with fail
      go_ret
      exact ⟨rfl, H9.below⟩
    obtain ⟨p1, p2⟩ := HK.out (by omega) (by omega) (by rw [← K2.out]; omega) (by rw [← K3.out]; omega)
    go_wp2_with fail
    with_reducible refine (HI.out _).mono ?_
    rintro e w6 ⟨rfl, hb⟩
    have H6 := H5.next hb
    clear hb H5
    clear c0_0 c0_1 c0_2 c0_3 f0_0 f0_1 f0_2 f0_3 c1_0 c1_1 c1_2 c1_3 f1_0 f1_1 f1_2 f1_3 c2_0 c2_1 c2_2 c2_3 f2_0 f2_1 f2_2 f2_3
    obtain ⟨⟨c0_0, c0_1, c0_2, c0_3⟩, ⟨f0_0, f0_1, f0_2, f0_3⟩⟩ := (H6.get 0 rfl).c4
    obtain ⟨⟨c1_0, c1_1, c1_2, c1_3⟩, ⟨f1_0, f1_1, f1_2, f1_3⟩⟩ := (H6.get 1 rfl).c4
    go_upto_region 9 with fail
    have H7 := H6.alloc #[.int .i64 i.x, .int .i64 i.y, .int .i64 i.w, .int .i64 i.h] 23
    simp only [List.nil_append, List.cons_append] at H7
    obtain ⟨w7, hw7⟩ : ∃ wz, wz = w6.alloc (.cells #[.int .i64 i.x, .int .i64 i.y, .int .i64 i.w, .int .i64 i.h] 23) := ⟨_, rfl⟩
    rewrite [← hw7] at H7 ⊢
    obtain ⟨g7, hg7⟩ : ∃ gz, gz = w6.heap.size := ⟨_, rfl⟩
    rewrite [← hg7] at H7 ⊢
    have dg7_0 : w.heap.size ≠ g7 := by rw [hg7]; exact Nat.ne_of_lt (H6.get 0 rfl).lt
    have eg7_0 : g7 ≠ w.heap.size := dg7_0.symm
    have dg7_1 : w.heap.size + 1 ≠ g7 := by rw [hg7]; exact Nat.ne_of_lt (H6.get 1 rfl).lt
    have eg7_1 : g7 ≠ w.heap.size + 1 := dg7_1.symm
    have dg7_2 : g2 ≠ g7 := by rw [hg7]; exact Nat.ne_of_lt (H6.get 2 rfl).lt
    have eg7_2 : g7 ≠ g2 := dg7_2.symm
    clear hw7 hg7 H6 c0_0 c0_1 c0_2 c0_3 f0_0 f0_1 f0_2 f0_3 c1_0 c1_1 c1_2 c1_3 f1_0 f1_1 f1_2 f1_3
    obtain ⟨⟨c0_0, c0_1, c0_2, c0_3⟩, ⟨f0_0, f0_1, f0_2, f0_3⟩⟩ := (H7.get 0 rfl).c4
    obtain ⟨⟨c1_0, c1_1, c1_2, c1_3⟩, ⟨f1_0, f1_1, f1_2, f1_3⟩⟩ := (H7.get 1 rfl).c4
    obtain ⟨⟨c3_0, c3_1, c3_2, c3_3⟩, ⟨f3_0, f3_1, f3_2, f3_3⟩⟩ := (H7.get 3 rfl).c4
    go_wp2_with fail
    with_reducible refine (awake_c _).mono ?_
    rintro e w8 ⟨rfl, hb⟩
    have H8 := H7.next hb
    clear hb H7
    go_wp2_with fail
    go_ret
    exact ⟨rfl, H8.below⟩
end Go.Proofs.Ytdmoncpeoaoppaa.Fl
