/- does: Destroy. -/
import Derived.Test.YtphmlfklmleafaaJbb
section
namespace Go.Proofs.Ytphmlfklmleafaa
open Go.RowKit Go.Shelf Go.Maps
theorem rd_at {w w' : World} {v : Value} {xs : List Int} (h : RdI w v xs) (hk : ∀ b j, v.ownBlock = some b → (w.cell? ⟨b, j, none⟩).isSome = true → w'.cell? ⟨b, j, none⟩ = w.cell? ⟨b, j, none⟩) : RdI w' v xs := by
  obtain ⟨p, c, rfl, h2⟩ := h
  exact ⟨p, c, rfl, fun j x hx => by
    obtain ⟨g, h3, h4⟩ := h2 j x hx
    exact ⟨g, h3, (hk g j (by rw [h3]; rfl) (by rw [h4]; rfl)).trans h4⟩⟩
theorem rd6 {w : World} {g : Nat} {v : Value} {xs : List Int} (h : RdI w v xs) (hg : ∀ b, v.ownBlock = some b → b ≠ g) (v0 v1 v2 v3 v4 v5 : Value) : RdI ((((((w.setCell ⟨g, 0, none⟩ v0).setCell ⟨g, 1, none⟩ v1).setCell ⟨g, 2, none⟩ v2).setCell ⟨g, 3, none⟩ v3).setCell ⟨g, 4, none⟩ v4).setCell ⟨g, 5, none⟩ v5) v xs :=
  rd_at h fun b j hb _ => cell6 (p := ⟨b, j, none⟩) (hg b hb) _ _ _ _ _ _
theorem rd_turn {w w' : World} {t : Nat} {l : Lay} {R' : RT} {L' : List Win} {v : Value} {xs : List Int} (h : RdI w v xs) (hg : ∀ b, v.ownBlock = some b → ¬ l.foot t b) (hc : CT R' L' t l w w') : RdI w' v xs := by
  obtain ⟨l', _, k⟩ := hc
  refine rd_at h fun b j hb hs => World.cell?_of_block (k.block b ?_ (hg b hb))
  obtain ⟨u, hu⟩ := Option.isSome_iff_exists.1 hs
  exact World.block_lt_of_cell? _ _ hu
section
variable {w0 w : World} {t rb : Nat} {R : RT} {L : List Win} {k : Nat}
set_option maxRecDepth 100000 in
set_option maxHeartbeats 2000000 in
theorem does_6 (S : Sane R L k) (hB : Bo w0 t rb R L w) {win oth x y a e : Int} (hi : I64 win) (_ho : I64 oth) : Calls Try.prog 12 #[treeP t, .pointer (some ⟨rb, 0, none⟩), .agg #[.int .i64 6, .int .i64 win, .int .i64 oth, .int .i64 x, .int .i64 y, .int .i64 a, .int .i64 e]] w fun ex w' => DoR w0 t rb R k ex w' := by
  obtain ⟨l, sv, hT, hR, hO, h4, h5, h6⟩ := hB
  obtain ⟨p, n, c, rfl⟩ := own_sl hO
  obtain ⟨L', err, xs, S', hxl, hRef, -, hCode⟩ := both_destroy S hi
  obtain ⟨wc, hwc⟩ : ∃ wc, wc = ((w.alloc (.cells #[.int .i64 6, .int .i64 win, .int .i64 oth, .int .i64 x, .int .i64 y, .int .i64 a, .int .i64 e] 39)).alloc (.cells #[.int .i64 x, .int .i64 y] 26)).alloc (.cells (refA R (.slice p n c)) 36) := ⟨_, rfl⟩
  have hbel : Below w.heap.size w wc := by rw [hwc]; exact (((Below.refl _ _).alloc (Nat.le_refl _) _).alloc (by simp) _).alloc (by simp; omega) _
  have B0 : Blk wc w.heap.size 39 #[.int .i64 6, .int .i64 win, .int .i64 oth, .int .i64 x, .int .i64 y, .int .i64 a, .int .i64 e] := by rw [hwc]; exact ((Blk.new w _ _).alloc _).alloc _
  have B1 : Blk wc (w.heap.size + 1) 26 #[.int .i64 x, .int .i64 y] := by
    rw [hwc]
    have := (Blk.new (w.alloc (.cells #[.int .i64 6, .int .i64 win, .int .i64 oth, .int .i64 x, .int .i64 y, .int .i64 a, .int .i64 e] 39)) 26 #[.int .i64 x, .int .i64 y]).alloc (.cells (refA R (.slice p n c)) 36)
    rwa [World.size_alloc] at this
  have B2 : Blk wc (w.heap.size + 1 + 1) 36 (refA R (.slice p n c)) := by
    rw [hwc]
    have := Blk.new ((w.alloc (.cells #[.int .i64 6, .int .i64 win, .int .i64 oth, .int .i64 x, .int .i64 y, .int .i64 a, .int .i64 e] 39)).alloc (.cells #[.int .i64 x, .int .i64 y] 26)) 36 (refA R (.slice p n c))
    rwa [World.size_alloc, World.size_alloc] at this
  have hrb : rb < w.heap.size := hR.lt
  obtain ⟨⟨i0, i1, i2, i3, i4, i5, i6⟩, -⟩ := (Blk.new w 39 #[.int .i64 6, .int .i64 win, .int .i64 oth, .int .i64 x, .int .i64 y, .int .i64 a, .int .i64 e]).c7
  obtain ⟨⟨j0, j1, j2, j3, j4, j5⟩, -⟩ := ((hR.alloc (.cells #[.int .i64 6, .int .i64 win, .int .i64 oth, .int .i64 x, .int .i64 y, .int .i64 a, .int .i64 e] 39)).alloc (.cells #[.int .i64 x, .int .i64 y] 26)).at6
  obtain ⟨⟨a0, a1, a2, a3, a4, a5, a6⟩, -⟩ := B0.c7
  have HS := Lib.hid (fun W (hW : Below wc.heap.size wc W) => (show (((W.cell? ⟨rb, 0, none⟩ = some (.int .i64 R.x) ∧ W.cell? ⟨rb, 1, none⟩ = some (.int .i64 R.y) ∧ W.cell? ⟨rb, 2, none⟩ = some (.int .i64 R.w) ∧ W.cell? ⟨rb, 3, none⟩ = some (.int .i64 R.h) ∧ W.cell? ⟨rb, 4, none⟩ = some (.int .i64 R.last) ∧ W.cell? ⟨rb, 5, none⟩ = some (.slice p n c)) ∧ W.cell? ⟨w.heap.size, 0, none⟩ = some (.int .i64 6) ∧ W.cell? ⟨w.heap.size, 1, none⟩ = some (.int .i64 win) ∧ W.cell? ⟨w.heap.size, 2, none⟩ = some (.int .i64 oth) ∧ W.cell? ⟨w.heap.size, 3, none⟩ = some (.int .i64 x) ∧ W.cell? ⟨w.heap.size, 4, none⟩ = some (.int .i64 y) ∧ W.cell? ⟨w.heap.size, 5, none⟩ = some (.int .i64 a) ∧ W.cell? ⟨w.heap.size, 6, none⟩ = some (.int .i64 e)) ∧ W.cell? ⟨w.heap.size + 1, 0, none⟩ = some (.int .i64 x) ∧ W.cell? ⟨w.heap.size + 1, 1, none⟩ = some (.int .i64 y)) from ⟨⟨((hR.next hbel).next hW).at6.1, (B0.next hW).c7.1⟩, (B1.next hW).c2.1⟩))
  have HSX := Lib.hid (fun W (hW : Below wc.heap.size wc W) (v0 v1 v2 v3 v4 v5 : Value) => (show (fun W => ((W.cell? ⟨rb, 0, none⟩ = some (.int .i64 R.x) ∧ W.cell? ⟨rb, 1, none⟩ = some (.int .i64 R.y) ∧ W.cell? ⟨rb, 2, none⟩ = some (.int .i64 R.w) ∧ W.cell? ⟨rb, 3, none⟩ = some (.int .i64 R.h) ∧ W.cell? ⟨rb, 4, none⟩ = some (.int .i64 R.last) ∧ W.cell? ⟨rb, 5, none⟩ = some (.slice p n c)) ∧ W.cell? ⟨w.heap.size, 0, none⟩ = some (.int .i64 6) ∧ W.cell? ⟨w.heap.size, 1, none⟩ = some (.int .i64 win) ∧ W.cell? ⟨w.heap.size, 2, none⟩ = some (.int .i64 oth) ∧ W.cell? ⟨w.heap.size, 3, none⟩ = some (.int .i64 x) ∧ W.cell? ⟨w.heap.size, 4, none⟩ = some (.int .i64 y) ∧ W.cell? ⟨w.heap.size, 5, none⟩ = some (.int .i64 a) ∧ W.cell? ⟨w.heap.size, 6, none⟩ = some (.int .i64 e)) ∧ W.cell? ⟨w.heap.size + 1, 0, none⟩ = some (.int .i64 x) ∧ W.cell? ⟨w.heap.size + 1, 1, none⟩ = some (.int .i64 y)) ((((((W.setCell ⟨w.heap.size + 1 + 1, 0, none⟩ v0).setCell ⟨w.heap.size + 1 + 1, 1, none⟩ v1).setCell ⟨w.heap.size + 1 + 1, 2, none⟩ v2).setCell ⟨w.heap.size + 1 + 1, 3, none⟩ v3).setCell ⟨w.heap.size + 1 + 1, 4, none⟩ v4).setCell ⟨w.heap.size + 1 + 1, 5, none⟩ v5) from
    ⟨⟨(far6 ((hR.next hbel).next hW) (by omega) v0 v1 v2 v3 v4 v5).at6.1, (far6 (B0.next hW) (by omega) v0 v1 v2 v3 v4 v5).c7.1⟩, (far6 (B1.next hW) (by omega) v0 v1 v2 v3 v4 v5).c2.1⟩))
  have HOC := Lib.hid (fun W (hW : Below wc.heap.size wc W) => (show RO W (.slice p n c) L from OwK.below (OwK.below hO hbel) hW))
  have HTC := Lib.hid (hT.next hbel)
  have HRC := Lib.hid (hR.next hbel)
  have HZ := Lib.hid B2
  have HA := Lib.hid B0
  have HP := Lib.hid B1
  have HBL := Lib.hid (hbel.on h4 h4.size)
  have HREF := Lib.hid hRef
  have HCODE := Lib.hid hCode
  have HSN := Lib.hid S'
  have HF := Lib.hid h6
  have HW := Lib.hid hwc
  have H5 := Lib.hid h5
  have HXL := Lib.hid hxl
  have HFT := Lib.hid (fun b (hb : l.foot t b) => (hT.next hbel).foot_lt hb)
  have hee : (err == err) = true := by simp
  have hbl := hbel.size
  clear hbel
  clear hT hR hO h4 h5 h6 hRef hCode B0 B1 B2 hwc S' S hxl
  go_enter Try.func12, Try.ntmps12
  go_upto_region 3 with fail
  rw [← HW.out]
  clear i0 i1 i2 i3 i4 i5 i6 j0 j1 j2 j3 j4 j5
  go_upto_region 23 with fail
  go_cut [16, 17, 18] (fun s16 s17 s18 wx => ∃ g p2 n2 c2 gv, s16 = .pointer (some ⟨g, 0, none⟩) ∧ s17 = gv ∧ s18 = .int .i64 err ∧ Blk wx g 36 (refA R (.slice p2 n2 c2)) ∧ RO wx (.slice p2 n2 c2) L' ∧ RdI wx gv xs ∧ (∀ b, gv.ownBlock = some b → wc.heap.size ≤ b) ∧ Below wc.heap.size wc wx ∧ wc.heap.size ≤ g)
  case first =>
    refine wp_region_noPanic ?_
    refine wp_region_held_drew (S := fun wx => ((wx.cell? ⟨rb, 0, none⟩ = some (.int .i64 R.x) ∧ wx.cell? ⟨rb, 1, none⟩ = some (.int .i64 R.y) ∧ wx.cell? ⟨rb, 2, none⟩ = some (.int .i64 R.w) ∧ wx.cell? ⟨rb, 3, none⟩ = some (.int .i64 R.h) ∧ wx.cell? ⟨rb, 4, none⟩ = some (.int .i64 R.last) ∧ wx.cell? ⟨rb, 5, none⟩ = some (.slice p n c)) ∧ wx.cell? ⟨w.heap.size, 0, none⟩ = some (.int .i64 6) ∧ wx.cell? ⟨w.heap.size, 1, none⟩ = some (.int .i64 win) ∧ wx.cell? ⟨w.heap.size, 2, none⟩ = some (.int .i64 oth) ∧ wx.cell? ⟨w.heap.size, 3, none⟩ = some (.int .i64 x) ∧ wx.cell? ⟨w.heap.size, 4, none⟩ = some (.int .i64 y) ∧ wx.cell? ⟨w.heap.size, 5, none⟩ = some (.int .i64 a) ∧ wx.cell? ⟨w.heap.size, 6, none⟩ = some (.int .i64 e)) ∧ wx.cell? ⟨w.heap.size + 1, 0, none⟩ = some (.int .i64 x) ∧ wx.cell? ⟨w.heap.size + 1, 1, none⟩ = some (.int .i64 y)) (by kernel_rfl) (by exact HS.out _ (Below.refl _ _).drew) (fun hHeld => ?_)
    refine wpAnyH_take (i := 0) (v := ?va0) rfl (by kernel_rfl) (by kernel_rfl) (by kernel_rfl) (fun _ _ _ h => h) (Or.inl ⟨by kernel_rfl, ?ya0⟩) (by assumption) ?ra0
    case ya0 => (intro wq hSw; (try dsimp only at hSw); go_simp; (try with_reducible rfl))
    (try simp only [Act.put, List.getElem_toArray, List.getElem_cons_zero, List.setIfInBounds_toArray, List.set_cons_zero, List.set_cons_succ])
    refine wpAnyH_take (i := 1) (v := ?va1) rfl (by kernel_rfl) (by kernel_rfl) (by kernel_rfl) (fun _ _ _ h => h) (Or.inl ⟨by kernel_rfl, ?ya1⟩) (by assumption) ?ra1
    case ya1 => (intro wq hSw; (try dsimp only at hSw); go_simp; (try with_reducible rfl))
    (try simp only [Act.put, List.getElem_toArray, List.getElem_cons_succ, List.getElem_cons_zero, List.setIfInBounds_toArray, List.set_cons_zero, List.set_cons_succ])
    refine wpAnyH_take (i := 2) (v := ?va2) rfl (by kernel_rfl) (by kernel_rfl) (by kernel_rfl) (fun _ _ _ h => h) (Or.inl ⟨by kernel_rfl, ?ya2⟩) (by assumption) ?ra2
    case ya2 => (intro wq hSw; (try dsimp only at hSw); go_simp; (try with_reducible rfl))
    (try simp only [Act.put, List.getElem_toArray, List.getElem_cons_succ, List.getElem_cons_zero, List.setIfInBounds_toArray, List.set_cons_zero, List.set_cons_succ])
    refine wpAnyH_take (i := 3) (v := ?va3) rfl (by kernel_rfl) (by kernel_rfl) (by kernel_rfl) (fun _ _ _ h => h) (Or.inl ⟨by kernel_rfl, ?ya3⟩) (by assumption) ?ra3
    case ya3 => (intro wq hSw; (try dsimp only at hSw); go_simp; (try with_reducible rfl))
    (try simp only [Act.put, List.getElem_toArray, List.getElem_cons_succ, List.getElem_cons_zero, List.setIfInBounds_toArray, List.set_cons_zero, List.set_cons_succ])
    refine wpAnyH_take (i := 4) (v := ?va4) rfl (by kernel_rfl) (by kernel_rfl) (by kernel_rfl) (fun _ _ _ h => h) (Or.inl ⟨by kernel_rfl, ?ya4⟩) (by assumption) ?ra4
    case ya4 => (intro wq hSw; (try dsimp only at hSw); go_simp; (try with_reducible rfl))
    (try simp only [Act.put, List.getElem_toArray, List.getElem_cons_succ, List.getElem_cons_zero, List.setIfInBounds_toArray, List.set_cons_zero, List.set_cons_succ])
    refine wpAnyH_ready (rs := [5, 10]) (by kernel_rfl) (by simp) ?_
    refine AllReadyH.cons rfl (fun K hK => ?_) (AllReadyH.cons rfl (fun K hK => ?_) AllReadyH.nil)
    · go_simp
      refine (HREF.out _ _ (HOC.out _ (Below.refl wc.heap.size wc).drew)).mono ?_
      rintro ex w2 ⟨sv2, gv, rfl, ho2, ⟨hrd, hgb⟩, hb0⟩; have hb2 : Below wc.heap.size wc w2 := ((Below.refl _ wc).drew).trans hb0; obtain ⟨p2, n2, c2, rfl⟩ := own_sl ho2; clear hb0
      (try dsimp only)
      refine hK.out _ _ (by exact HS.out _ hb2) (fun hHeld => ?_)
      clear hK K
      (try simp only [Act.put, List.getElem_toArray, List.getElem_cons_succ, List.getElem_cons_zero, List.setIfInBounds_toArray, List.set_cons_zero, List.set_cons_succ])
      refine wpAnyH_take (i := 6) (v := ?vb6) rfl (by kernel_rfl) (by kernel_rfl) (by kernel_rfl) (fun _ _ _ h => h) (Or.inl ⟨by kernel_rfl, ?yb6⟩) (by assumption) ?rb6
      case yb6 => (intro wq hSw; (try dsimp only at hSw); go_simp; (try with_reducible rfl))
      (try simp only [Act.put, List.getElem_toArray, List.getElem_cons_succ, List.getElem_cons_zero, List.setIfInBounds_toArray, List.set_cons_zero, List.set_cons_succ])
      refine wpAnyH_take (i := 7) (v := ?vb7) rfl (by kernel_rfl) (by kernel_rfl) (by kernel_rfl) (fun _ _ _ h => h) (Or.inl ⟨by kernel_rfl, ?yb7⟩) (by assumption) ?rb7
      case yb7 => (intro wq hSw; (try dsimp only at hSw); go_simp; (try with_reducible rfl))
      (try simp only [Act.put, List.getElem_toArray, List.getElem_cons_succ, List.getElem_cons_zero, List.setIfInBounds_toArray, List.set_cons_zero, List.set_cons_succ])
      refine wpAnyH_take (i := 8) (v := ?vb8) rfl (by kernel_rfl) (by kernel_rfl) (by kernel_rfl) (fun _ _ _ h => h) (Or.inl ⟨by kernel_rfl, ?yb8⟩) (by assumption) ?rb8
      case yb8 => (intro wq hSw; (try dsimp only at hSw); go_simp; (try with_reducible rfl))
      (try simp only [Act.put, List.getElem_toArray, List.getElem_cons_succ, List.getElem_cons_zero, List.setIfInBounds_toArray, List.set_cons_zero, List.set_cons_succ])
      refine wpAnyH_take (i := 9) (v := ?vb9) rfl (by kernel_rfl) (by kernel_rfl) (by kernel_rfl) (fun _ _ _ h => h) (Or.inl ⟨by kernel_rfl, ?yb9⟩) (by assumption) ?rb9
      case yb9 => (intro wq hSw; (try dsimp only at hSw); go_simp; (try with_reducible rfl))
      (try simp only [Act.put, List.getElem_toArray, List.getElem_cons_succ, List.getElem_cons_zero, List.setIfInBounds_toArray, List.set_cons_zero, List.set_cons_succ])
      refine wpAnyH_ready (rs := [10]) (by kernel_rfl) (by simp) ?_
      refine AllReadyH.cons rfl (fun K hK => ?_) AllReadyH.nil
      go_simp
      have hb3 := hb2.alloc hb2.size (.cells zeroT 36)
      have Z := Blk.new w2 36 zeroT
      refine hK.out _ _ (by exact HS.out _ hb3) (fun hHeld => ?_)
      clear hK K
      (try simp only [Act.put, List.getElem_toArray, List.getElem_cons_succ, List.getElem_cons_zero, List.setIfInBounds_toArray, List.set_cons_zero, List.set_cons_succ])
      obtain ⟨⟨z0, z1, z2, z3, z4, z5⟩, ⟨f0, f1, f2, f3, f4, f5⟩⟩ := Z.at6
      refine wpAnyH_ready (rs := [11]) (by kernel_rfl) (by simp) ?_
      refine AllReadyH.cons rfl (fun K hK => ?_) AllReadyH.nil
      go_simp
      have hb4 := hb2.alloc hb2.size (.cells (refA R (.slice p2 n2 c2)) 36)
      refine hK.out _ _ (by exact HS.out _ hb4) (fun hHeld => ?_)
      clear hK K
      (try simp only [Act.put, List.getElem_toArray, List.getElem_cons_succ, List.getElem_cons_zero, List.setIfInBounds_toArray, List.set_cons_zero, List.set_cons_succ])
      refine wpAnyH_take (i := 12) (v := ?vb12) rfl (by kernel_rfl) (by kernel_rfl) (by kernel_rfl) (fun _ _ _ h => h) (Or.inl ⟨by kernel_rfl, ?yb12⟩) (by assumption) ?rb12
      case yb12 => (intro wq hSw; (try dsimp only at hSw); go_simp; (try with_reducible rfl))
      (try simp only [Act.put, List.getElem_toArray, List.getElem_cons_succ, List.getElem_cons_zero, List.setIfInBounds_toArray, List.set_cons_zero, List.set_cons_succ])
      refine wpAnyH_take (i := 13) (v := ?vb13) rfl (by kernel_rfl) (by kernel_rfl) (by kernel_rfl) (fun _ _ _ h => h) (Or.inl ⟨by kernel_rfl, ?yb13⟩) (by assumption) ?rb13
      case yb13 => (intro wq hSw; (try dsimp only at hSw); go_simp; (try with_reducible rfl))
      (try simp only [Act.put, List.getElem_toArray, List.getElem_cons_succ, List.getElem_cons_zero, List.setIfInBounds_toArray, List.set_cons_zero, List.set_cons_succ])
      refine wpAnyH_done (by kernel_rfl) ?_ _
      refine NoPanic.normal ?_
      go_wp2_with fail
      go_meet
      exact ⟨_, p2, n2, c2, gv, rfl, rfl, rfl, Blk.new w2 _ _, World.ownsRow.alloc ho2 _, hrd.next ((Below.refl _ _).alloc (Nat.le_refl _) _), hgb, hb4, hb2.size⟩
    · go_simp
      have hb2 := (Below.refl wc.heap.size wc).alloc (Nat.le_refl _) (.cells zeroT 36)
      have Z0 := Blk.new wc 36 zeroT
      refine hK.out _ _ (by exact HS.out _ hb2.drew) (fun hHeld => ?_)
      clear hK K
      (try simp only [Act.put, List.getElem_toArray, List.getElem_cons_succ, List.getElem_cons_zero, List.setIfInBounds_toArray, List.set_cons_zero, List.set_cons_succ])
      refine wpAnyH_ready (rs := [5]) (by kernel_rfl) (by simp) ?_
      refine AllReadyH.cons rfl (fun K hK => ?_) AllReadyH.nil
      go_simp
      refine (HREF.out _ _ (HOC.out _ hb2.drew)).mono ?_
      rintro ex w2 ⟨sv2, gv, rfl, ho2, ⟨hrd, hgb⟩, hb0⟩; have hb3 : Below wc.heap.size wc w2 := hb0.on hb2.drew hb2.size; have Z := Z0.drew.next hb0; obtain ⟨p2, n2, c2, rfl⟩ := own_sl ho2; clear hb0
      (try dsimp only)
      refine hK.out _ _ (by exact HS.out _ hb3) (fun hHeld => ?_)
      clear hK K
      (try simp only [Act.put, List.getElem_toArray, List.getElem_cons_succ, List.getElem_cons_zero, List.setIfInBounds_toArray, List.set_cons_zero, List.set_cons_succ])
      refine wpAnyH_take (i := 6) (v := ?vc6) rfl (by kernel_rfl) (by kernel_rfl) (by kernel_rfl) (fun _ _ _ h => h) (Or.inl ⟨by kernel_rfl, ?yc6⟩) (by assumption) ?rc6
      case yc6 => (intro wq hSw; (try dsimp only at hSw); go_simp; (try with_reducible rfl))
      (try simp only [Act.put, List.getElem_toArray, List.getElem_cons_succ, List.getElem_cons_zero, List.setIfInBounds_toArray, List.set_cons_zero, List.set_cons_succ])
      refine wpAnyH_take (i := 7) (v := ?vc7) rfl (by kernel_rfl) (by kernel_rfl) (by kernel_rfl) (fun _ _ _ h => h) (Or.inl ⟨by kernel_rfl, ?yc7⟩) (by assumption) ?rc7
      case yc7 => (intro wq hSw; (try dsimp only at hSw); go_simp; (try with_reducible rfl))
      (try simp only [Act.put, List.getElem_toArray, List.getElem_cons_succ, List.getElem_cons_zero, List.setIfInBounds_toArray, List.set_cons_zero, List.set_cons_succ])
      refine wpAnyH_take (i := 8) (v := ?vc8) rfl (by kernel_rfl) (by kernel_rfl) (by kernel_rfl) (fun _ _ _ h => h) (Or.inl ⟨by kernel_rfl, ?yc8⟩) (by assumption) ?rc8
      case yc8 => (intro wq hSw; (try dsimp only at hSw); go_simp; (try with_reducible rfl))
      (try simp only [Act.put, List.getElem_toArray, List.getElem_cons_succ, List.getElem_cons_zero, List.setIfInBounds_toArray, List.set_cons_zero, List.set_cons_succ])
      refine wpAnyH_take (i := 9) (v := ?vc9) rfl (by kernel_rfl) (by kernel_rfl) (by kernel_rfl) (fun _ _ _ h => h) (Or.inl ⟨by kernel_rfl, ?yc9⟩) (by assumption) ?rc9
      case yc9 => (intro wq hSw; (try dsimp only at hSw); go_simp; (try with_reducible rfl))
      (try simp only [Act.put, List.getElem_toArray, List.getElem_cons_succ, List.getElem_cons_zero, List.setIfInBounds_toArray, List.set_cons_zero, List.set_cons_succ])
      obtain ⟨⟨z0, z1, z2, z3, z4, z5⟩, ⟨f0, f1, f2, f3, f4, f5⟩⟩ := Z.at6
      refine wpAnyH_ready (rs := [11]) (by kernel_rfl) (by simp) ?_
      refine AllReadyH.cons rfl (fun K hK => ?_) AllReadyH.nil
      go_simp
      have hb4 := set6 hb3 (Nat.le_refl _) (.int .i64 R.x) (.int .i64 R.y) (.int .i64 R.w) (.int .i64 R.h) (.int .i64 R.last) (.slice p2 n2 c2)
      refine hK.out _ _ (by exact HS.out _ hb4) (fun hHeld => ?_)
      clear hK K
      (try simp only [Act.put, List.getElem_toArray, List.getElem_cons_succ, List.getElem_cons_zero, List.setIfInBounds_toArray, List.set_cons_zero, List.set_cons_succ])
      refine wpAnyH_take (i := 12) (v := ?vc12) rfl (by kernel_rfl) (by kernel_rfl) (by kernel_rfl) (fun _ _ _ h => h) (Or.inl ⟨by kernel_rfl, ?yc12⟩) (by assumption) ?rc12
      case yc12 => (intro wq hSw; (try dsimp only at hSw); go_simp; (try with_reducible rfl))
      (try simp only [Act.put, List.getElem_toArray, List.getElem_cons_succ, List.getElem_cons_zero, List.setIfInBounds_toArray, List.set_cons_zero, List.set_cons_succ])
      refine wpAnyH_take (i := 13) (v := ?vc13) rfl (by kernel_rfl) (by kernel_rfl) (by kernel_rfl) (fun _ _ _ h => h) (Or.inl ⟨by kernel_rfl, ?yc13⟩) (by assumption) ?rc13
      case yc13 => (intro wq hSw; (try dsimp only at hSw); go_simp; (try with_reducible rfl))
      (try simp only [Act.put, List.getElem_toArray, List.getElem_cons_succ, List.getElem_cons_zero, List.setIfInBounds_toArray, List.set_cons_zero, List.set_cons_succ])
      refine wpAnyH_done (by kernel_rfl) ?_ _
      refine NoPanic.normal ?_
      go_wp2_with fail
      go_meet
      have hlt : wc.heap.size < (wc.alloc (.cells zeroT 36)).drew.heap.size := Z0.drew.lt
      exact ⟨_, p2, n2, c2, gv, rfl, rfl, rfl, put6 Z _ _ _ _ _ _, rows6 ho2 Z _ _ _ _ _ _, rd6 hrd (fun b hb => by have := hgb b hb; omega) _ _ _ _ _ _, fun b hb => by have := hgb b hb; omega, hb4, Nat.le_refl _⟩
  case rest =>
    obtain ⟨g, p2, n2, c2, gv, rfl, rfl, rfl, hG, hO2, hrd, hgb, hb2, hg⟩ := hcut
    have T3 := Lib.hid (HTC.out.next hb2)
    have R3 := Lib.hid (HRC.out.next hb2)
    have Z3 := Lib.hid hG
    have O3 := Lib.hid hO2
    have L3 := Lib.hid (hb2.on HBL.out HBL.out.size)
    have RD3 := Lib.hid hrd
    have HGB := Lib.hid hgb
    have hws := hb2.size
    obtain ⟨⟨b0, b1, b2, b3, b4, b5, b6⟩, -⟩ := (HA.out.next hb2).c7
    clear hG hO2 hb2 hg a0 a1 a2 a3 a4 a5 a6 hrd hgb
    go_upto_region 26 with (go_at_call 20; ((with_reducible refine (HCODE.out _ _ _ T3.out).mono ?_); rintro ex w4 ⟨v4, rfl, hrk, hkb, hct⟩); have R4 := Lib.hid (CT.ref T3.out hct R3.out); have Z4 := Lib.hid (CT.ref T3.out hct Z3.out); have O4 := Lib.hid (CT.row T3.out hct O3.out); have CO := Lib.hid (CT.out hct L3.out HF.out); have RD4 := Lib.hid (rd_turn RD3.out (fun b hb hf => by have h1 := HGB.out b hb; have h2 := HFT.out b hf; omega) hct); have RK4 := Lib.hid hrk; have HKB := Lib.hid hkb; obtain ⟨q0, q1, q2, q3, q4, q5⟩ := Z4.out.at6.1; obtain ⟨⟨r0, r1, r2, r3, r4, r5⟩, ⟨g0, g1, g2, g3, g4, g5⟩⟩ := R4.out.at6; clear hct hrk hkb)
    have BO5 := Lib.hid (show Bo w0 t rb R L' ((((((w4.setCell ⟨rb, 0, none⟩ (.int .i64 R.x)).setCell ⟨rb, 1, none⟩ (.int .i64 R.y)).setCell ⟨rb, 2, none⟩ (.int .i64 R.w)).setCell ⟨rb, 3, none⟩ (.int .i64 R.h)).setCell ⟨rb, 4, none⟩ (.int .i64 R.last)).setCell ⟨rb, 5, none⟩ (.slice p2 n2 c2)) from by obtain ⟨l', T4, L4, F4⟩ := CO.out; exact Bo.put (sv' := .slice p2 n2 c2) T4 R4.out O4.out L4 H5.out F4)
    have RD5 := Lib.hid (rd6 RD4.out (g := rb) (fun b hb => by have := HGB.out b hb; omega) (.int .i64 R.x) (.int .i64 R.y) (.int .i64 R.w) (.int .i64 R.h) (.int .i64 R.last) (.slice p2 n2 c2))
    have RK5 := Lib.hid (rd6 RK4.out (g := rb) (fun b hb => by have := HKB.out b hb; omega) (.int .i64 R.x) (.int .i64 R.y) (.int .i64 R.w) (.int .i64 R.h) (.int .i64 R.last) (.slice p2 n2 c2))
    generalize ((((((w4.setCell ⟨rb, 0, none⟩ (.int .i64 R.x)).setCell ⟨rb, 1, none⟩ (.int .i64 R.y)).setCell ⟨rb, 2, none⟩ (.int .i64 R.w)).setCell ⟨rb, 3, none⟩ (.int .i64 R.h)).setCell ⟨rb, 4, none⟩ (.int .i64 R.last)).setCell ⟨rb, 5, none⟩ (.slice p2 n2 c2)) = w5 at BO5 RD5 RK5 ⊢
    have hx1 : (decide (xs = xs)) = true := by simp
    have HIN := Lib.hid (show Calls Try.prog 23 #[u17, v4] w5 fun ex w' => ex = .returned (.bool true) ∧ Below w5.heap.size w5 w' from by rw [← hx1]; exact ints_c _ _ xs xs w5 RD5.out RK5.out (Nat.le_trans HXL.out (by decide)) (Nat.le_trans HXL.out (by decide)))
    clear hx1
    go_wp2_with (go_at_call 23; ((with_reducible refine (HIN.out).mono ?_); rintro ex w6 ⟨rfl, hb6⟩); have B6 := Lib.hid (BO5.out.next hb6); clear hb6)
    go_ret
    exact ⟨ret_bool rfl, L', HSN.out, B6.out⟩
end
end Go.Proofs.Ytphmlfklmleafaa
end
