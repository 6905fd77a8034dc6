/- does: Create; what is no call. -/
import Derived.Test.YtphmlfklmleafaaJba
section
namespace Go.Proofs.Ytphmlfklmleafaa
open Go.RowKit Go.Shelf Go.Maps
/-- What does answers, and leaves, whatever the call. -/
def DoQ (w0 : World) (t rb : Nat) (R : RT) (k : Nat) (ex : Ending) (w' : World) : Prop := ex = .returned (.bool true) ∧ ∃ R' L', (R'.x = R.x ∧ R'.y = R.y ∧ R'.w = R.w ∧ R'.h = R.h) ∧ Sane R' L' k ∧ Bo w0 t rb R' L' w'
theorem CT.any {w w' : World} {t : Nat} {l : Lay} {R R' : RT} {L L' : List Win} (hT : TB w t l R L) (h : CT R' L' t l w w') {g : Nat} {cs : Array Value} (hb : Blk w g 36 cs) : Blk w' g 36 cs := by
  obtain ⟨l', _, k⟩ := h
  exact k.blk hb (foot_ne hT hb ty2.1 ty2.2.1 ty2.2.2.1)
theorem DoR.q {w0 w' : World} {t rb : Nat} {R : RT} {k : Nat} {ex : Ending} (h : DoR w0 t rb R k ex w') (hk : k + 1 ≤ 1000) : DoQ w0 t rb R (k + 1) ex w' := by
  obtain ⟨h1, L', h2, h3⟩ := h
  exact ⟨h1, R, L', ⟨rfl, rfl, rfl, rfl⟩, h2.le (Nat.le_succ k) hk, h3⟩
section
variable {w0 w : World} {t rb : Nat} {R : RT} {L : List Win} {k : Nat}
set_option maxRecDepth 100000 in
set_option maxHeartbeats 2000000 in
theorem does_5 (S : Sane R L k) (hB : Bo w0 t rb R L w) {win oth x y a e : Int} (_hi : I64 win) (ho : I64 oth) (hk1 : k + 1 ≤ 1000) : Calls Try.prog 12 #[treeP t, .pointer (some ⟨rb, 0, none⟩), .agg #[.int .i64 5, .int .i64 win, .int .i64 oth, .int .i64 x, .int .i64 y, .int .i64 a, .int .i64 e]] w fun ex w' => DoQ w0 t rb R (k + 1) ex w' := by
  obtain ⟨l, sv, hT, hR, hO, h4, h5, h6⟩ := hB
  obtain ⟨p, n, c, rfl⟩ := own_sl hO
  obtain ⟨R', L', id, err, S', hRef, hsame, hCode⟩ := both_create S hk1 ho x y a e
  obtain ⟨wc, hwc⟩ : ∃ wc, wc = ((w.alloc (.cells #[.int .i64 5, .int .i64 win, .int .i64 oth, .int .i64 x, .int .i64 y, .int .i64 a, .int .i64 e] 39)).alloc (.cells #[.int .i64 x, .int .i64 y] 26)).alloc (.cells (refA R (.slice p n c)) 36) := ⟨_, rfl⟩
  have hbel : Below w.heap.size w wc := by rw [hwc]; exact (((Below.refl _ _).alloc (Nat.le_refl _) _).alloc (by simp) _).alloc (by simp; omega) _
  have B0 : Blk wc w.heap.size 39 #[.int .i64 5, .int .i64 win, .int .i64 oth, .int .i64 x, .int .i64 y, .int .i64 a, .int .i64 e] := by rw [hwc]; exact ((Blk.new w _ _).alloc _).alloc _
  have B1 : Blk wc (w.heap.size + 1) 26 #[.int .i64 x, .int .i64 y] := by
    rw [hwc]
    have := (Blk.new (w.alloc (.cells #[.int .i64 5, .int .i64 win, .int .i64 oth, .int .i64 x, .int .i64 y, .int .i64 a, .int .i64 e] 39)) 26 #[.int .i64 x, .int .i64 y]).alloc (.cells (refA R (.slice p n c)) 36)
    rwa [World.size_alloc] at this
  have B2 : Blk wc (w.heap.size + 1 + 1) 36 (refA R (.slice p n c)) := by
    rw [hwc]
    have := Blk.new ((w.alloc (.cells #[.int .i64 5, .int .i64 win, .int .i64 oth, .int .i64 x, .int .i64 y, .int .i64 a, .int .i64 e] 39)).alloc (.cells #[.int .i64 x, .int .i64 y] 26)) 36 (refA R (.slice p n c))
    rwa [World.size_alloc, World.size_alloc] at this
  have hrb : rb < w.heap.size := hR.lt
  obtain ⟨⟨i0, i1, i2, i3, i4, i5, i6⟩, -⟩ := (Blk.new w 39 #[.int .i64 5, .int .i64 win, .int .i64 oth, .int .i64 x, .int .i64 y, .int .i64 a, .int .i64 e]).c7
  obtain ⟨⟨j0, j1, j2, j3, j4, j5⟩, -⟩ := ((hR.alloc (.cells #[.int .i64 5, .int .i64 win, .int .i64 oth, .int .i64 x, .int .i64 y, .int .i64 a, .int .i64 e] 39)).alloc (.cells #[.int .i64 x, .int .i64 y] 26)).at6
  obtain ⟨⟨a0, a1, a2, a3, a4, a5, a6⟩, -⟩ := B0.c7
  have HS := Lib.hid (fun W (hW : Below wc.heap.size wc W) => (show (((W.cell? ⟨rb, 0, none⟩ = some (.int .i64 R.x) ∧ W.cell? ⟨rb, 1, none⟩ = some (.int .i64 R.y) ∧ W.cell? ⟨rb, 2, none⟩ = some (.int .i64 R.w) ∧ W.cell? ⟨rb, 3, none⟩ = some (.int .i64 R.h) ∧ W.cell? ⟨rb, 4, none⟩ = some (.int .i64 R.last) ∧ W.cell? ⟨rb, 5, none⟩ = some (.slice p n c)) ∧ W.cell? ⟨w.heap.size, 0, none⟩ = some (.int .i64 5) ∧ W.cell? ⟨w.heap.size, 1, none⟩ = some (.int .i64 win) ∧ W.cell? ⟨w.heap.size, 2, none⟩ = some (.int .i64 oth) ∧ W.cell? ⟨w.heap.size, 3, none⟩ = some (.int .i64 x) ∧ W.cell? ⟨w.heap.size, 4, none⟩ = some (.int .i64 y) ∧ W.cell? ⟨w.heap.size, 5, none⟩ = some (.int .i64 a) ∧ W.cell? ⟨w.heap.size, 6, none⟩ = some (.int .i64 e)) ∧ W.cell? ⟨w.heap.size + 1, 0, none⟩ = some (.int .i64 x) ∧ W.cell? ⟨w.heap.size + 1, 1, none⟩ = some (.int .i64 y)) from ⟨⟨((hR.next hbel).next hW).at6.1, (B0.next hW).c7.1⟩, (B1.next hW).c2.1⟩))
  have HSX := Lib.hid (fun W (hW : Below wc.heap.size wc W) (v0 v1 v2 v3 v4 v5 : Value) => (show (fun W => ((W.cell? ⟨rb, 0, none⟩ = some (.int .i64 R.x) ∧ W.cell? ⟨rb, 1, none⟩ = some (.int .i64 R.y) ∧ W.cell? ⟨rb, 2, none⟩ = some (.int .i64 R.w) ∧ W.cell? ⟨rb, 3, none⟩ = some (.int .i64 R.h) ∧ W.cell? ⟨rb, 4, none⟩ = some (.int .i64 R.last) ∧ W.cell? ⟨rb, 5, none⟩ = some (.slice p n c)) ∧ W.cell? ⟨w.heap.size, 0, none⟩ = some (.int .i64 5) ∧ W.cell? ⟨w.heap.size, 1, none⟩ = some (.int .i64 win) ∧ W.cell? ⟨w.heap.size, 2, none⟩ = some (.int .i64 oth) ∧ W.cell? ⟨w.heap.size, 3, none⟩ = some (.int .i64 x) ∧ W.cell? ⟨w.heap.size, 4, none⟩ = some (.int .i64 y) ∧ W.cell? ⟨w.heap.size, 5, none⟩ = some (.int .i64 a) ∧ W.cell? ⟨w.heap.size, 6, none⟩ = some (.int .i64 e)) ∧ W.cell? ⟨w.heap.size + 1, 0, none⟩ = some (.int .i64 x) ∧ W.cell? ⟨w.heap.size + 1, 1, none⟩ = some (.int .i64 y)) ((((((W.setCell ⟨w.heap.size + 1 + 1, 0, none⟩ v0).setCell ⟨w.heap.size + 1 + 1, 1, none⟩ v1).setCell ⟨w.heap.size + 1 + 1, 2, none⟩ v2).setCell ⟨w.heap.size + 1 + 1, 3, none⟩ v3).setCell ⟨w.heap.size + 1 + 1, 4, none⟩ v4).setCell ⟨w.heap.size + 1 + 1, 5, none⟩ v5) from
    ⟨⟨(far6 ((hR.next hbel).next hW) (by omega) v0 v1 v2 v3 v4 v5).at6.1, (far6 (B0.next hW) (by omega) v0 v1 v2 v3 v4 v5).c7.1⟩, (far6 (B1.next hW) (by omega) v0 v1 v2 v3 v4 v5).c2.1⟩))
  have HOC := Lib.hid (fun W (hW : Below wc.heap.size wc W) => (show RO W (.slice p n c) L from OwK.below (OwK.below hO hbel) hW))
  have HTC := Lib.hid (hT.next hbel)
  have HRC := Lib.hid (hR.next hbel)
  have HZ := Lib.hid B2
  have HA := Lib.hid B0
  have HP := Lib.hid B1
  have HBL := Lib.hid (hbel.on h4 h4.size)
  have HREF := Lib.hid hRef
  have HCODE := Lib.hid hCode
  have HSN := Lib.hid S'
  have HF := Lib.hid h6
  have HW := Lib.hid hwc
  have H5 := Lib.hid h5
  have HSM := Lib.hid hsame
  have hii : (id == id) = true := by simp
  have hee : (err == err) = true := by simp
  clear hT hR hO h4 h5 h6 hRef hCode hbel B0 B1 B2 hwc S' S hsame
  go_enter Try.func12, Try.ntmps12
  go_upto_region 3 with fail
  rw [← HW.out]
  clear i0 i1 i2 i3 i4 i5 i6 j0 j1 j2 j3 j4 j5
  go_upto_region 18 with fail
  go_cut [11, 12, 13] (fun s11 s12 s13 wx => ∃ g p2 n2 c2, s11 = .pointer (some ⟨g, 0, none⟩) ∧ s12 = .int .i64 id ∧ s13 = .int .i64 err ∧ Blk wx g 36 (refA R' (.slice p2 n2 c2)) ∧ RO wx (.slice p2 n2 c2) L' ∧ Below wc.heap.size wc wx ∧ wc.heap.size ≤ g)
  case first =>
    refine wp_region_noPanic ?_
    refine wp_region_held_drew (S := fun wx => ((wx.cell? ⟨rb, 0, none⟩ = some (.int .i64 R.x) ∧ wx.cell? ⟨rb, 1, none⟩ = some (.int .i64 R.y) ∧ wx.cell? ⟨rb, 2, none⟩ = some (.int .i64 R.w) ∧ wx.cell? ⟨rb, 3, none⟩ = some (.int .i64 R.h) ∧ wx.cell? ⟨rb, 4, none⟩ = some (.int .i64 R.last) ∧ wx.cell? ⟨rb, 5, none⟩ = some (.slice p n c)) ∧ wx.cell? ⟨w.heap.size, 0, none⟩ = some (.int .i64 5) ∧ wx.cell? ⟨w.heap.size, 1, none⟩ = some (.int .i64 win) ∧ wx.cell? ⟨w.heap.size, 2, none⟩ = some (.int .i64 oth) ∧ wx.cell? ⟨w.heap.size, 3, none⟩ = some (.int .i64 x) ∧ wx.cell? ⟨w.heap.size, 4, none⟩ = some (.int .i64 y) ∧ wx.cell? ⟨w.heap.size, 5, none⟩ = some (.int .i64 a) ∧ wx.cell? ⟨w.heap.size, 6, none⟩ = some (.int .i64 e)) ∧ wx.cell? ⟨w.heap.size + 1, 0, none⟩ = some (.int .i64 x) ∧ wx.cell? ⟨w.heap.size + 1, 1, none⟩ = some (.int .i64 y)) (by kernel_rfl) (by exact HS.out _ (Below.refl _ _).drew) (fun hHeld => ?_)
    refine wpAnyH_take (i := 0) (v := ?va0) rfl (by kernel_rfl) (by kernel_rfl) (by kernel_rfl) (fun _ _ _ h => h) (Or.inl ⟨by kernel_rfl, ?ya0⟩) (by assumption) ?ra0
    case ya0 => (intro wq hSw; (try dsimp only at hSw); go_simp; (try with_reducible rfl))
    (try simp only [Act.put, List.getElem_toArray, List.getElem_cons_zero, List.setIfInBounds_toArray, List.set_cons_zero, List.set_cons_succ])
    refine wpAnyH_take (i := 1) (v := ?va1) rfl (by kernel_rfl) (by kernel_rfl) (by kernel_rfl) (fun _ _ _ h => h) (Or.inl ⟨by kernel_rfl, ?ya1⟩) (by assumption) ?ra1
    case ya1 => (intro wq hSw; (try dsimp only at hSw); go_simp; (try with_reducible rfl))
    (try simp only [Act.put, List.getElem_toArray, List.getElem_cons_succ, List.getElem_cons_zero, List.setIfInBounds_toArray, List.set_cons_zero, List.set_cons_succ])
    refine wpAnyH_take (i := 2) (v := ?va2) rfl (by kernel_rfl) (by kernel_rfl) (by kernel_rfl) (fun _ _ _ h => h) (Or.inl ⟨by kernel_rfl, ?ya2⟩) (by assumption) ?ra2
    case ya2 => (intro wq hSw; (try dsimp only at hSw); go_simp; (try with_reducible rfl))
    (try simp only [Act.put, List.getElem_toArray, List.getElem_cons_succ, List.getElem_cons_zero, List.setIfInBounds_toArray, List.set_cons_zero, List.set_cons_succ])
    refine wpAnyH_take (i := 3) (v := ?va3) rfl (by kernel_rfl) (by kernel_rfl) (by kernel_rfl) (fun _ _ _ h => h) (Or.inl ⟨by kernel_rfl, ?ya3⟩) (by assumption) ?ra3
    case ya3 => (intro wq hSw; (try dsimp only at hSw); go_simp; (try with_reducible rfl))
    (try simp only [Act.put, List.getElem_toArray, List.getElem_cons_succ, List.getElem_cons_zero, List.setIfInBounds_toArray, List.set_cons_zero, List.set_cons_succ])
    refine wpAnyH_take (i := 4) (v := ?va4) rfl (by kernel_rfl) (by kernel_rfl) (by kernel_rfl) (fun _ _ _ h => h) (Or.inl ⟨by kernel_rfl, ?ya4⟩) (by assumption) ?ra4
    case ya4 => (intro wq hSw; (try dsimp only at hSw); go_simp; (try with_reducible rfl))
    (try simp only [Act.put, List.getElem_toArray, List.getElem_cons_succ, List.getElem_cons_zero, List.setIfInBounds_toArray, List.set_cons_zero, List.set_cons_succ])
    refine wpAnyH_take (i := 5) (v := ?va5) rfl (by kernel_rfl) (by kernel_rfl) (by kernel_rfl) (fun _ _ _ h => h) (Or.inl ⟨by kernel_rfl, ?ya5⟩) (by assumption) ?ra5
    case ya5 => (intro wq hSw; (try dsimp only at hSw); go_simp; (try with_reducible rfl))
    (try simp only [Act.put, List.getElem_toArray, List.getElem_cons_succ, List.getElem_cons_zero, List.setIfInBounds_toArray, List.set_cons_zero, List.set_cons_succ])
    refine wpAnyH_take (i := 6) (v := ?va6) rfl (by kernel_rfl) (by kernel_rfl) (by kernel_rfl) (fun _ _ _ h => h) (Or.inl ⟨by kernel_rfl, ?ya6⟩) (by assumption) ?ra6
    case ya6 => (intro wq hSw; (try dsimp only at hSw); go_simp; (try with_reducible rfl))
    (try simp only [Act.put, List.getElem_toArray, List.getElem_cons_succ, List.getElem_cons_zero, List.setIfInBounds_toArray, List.set_cons_zero, List.set_cons_succ])
    refine wpAnyH_ready (rs := [7, 12]) (by kernel_rfl) (by simp) ?_
    refine AllReadyH.cons rfl (fun K hK => ?_) (AllReadyH.cons rfl (fun K hK => ?_) AllReadyH.nil)
    · go_simp
      refine (HREF.out _ _ (HOC.out _ (Below.refl wc.heap.size wc).drew)).mono ?_
      rintro ex w2 ⟨sv2, rfl, ho2, hb0⟩; have hb2 : Below wc.heap.size wc w2 := ((Below.refl _ wc).drew).trans hb0; obtain ⟨p2, n2, c2, rfl⟩ := own_sl ho2; clear hb0
      (try dsimp only)
      refine hK.out _ _ (by exact HS.out _ hb2) (fun hHeld => ?_)
      clear hK K
      (try simp only [Act.put, List.getElem_toArray, List.getElem_cons_succ, List.getElem_cons_zero, List.setIfInBounds_toArray, List.set_cons_zero, List.set_cons_succ])
      refine wpAnyH_take (i := 8) (v := ?vb8) rfl (by kernel_rfl) (by kernel_rfl) (by kernel_rfl) (fun _ _ _ h => h) (Or.inl ⟨by kernel_rfl, ?yb8⟩) (by assumption) ?rb8
      case yb8 => (intro wq hSw; (try dsimp only at hSw); go_simp; (try with_reducible rfl))
      (try simp only [Act.put, List.getElem_toArray, List.getElem_cons_succ, List.getElem_cons_zero, List.setIfInBounds_toArray, List.set_cons_zero, List.set_cons_succ])
      refine wpAnyH_take (i := 9) (v := ?vb9) rfl (by kernel_rfl) (by kernel_rfl) (by kernel_rfl) (fun _ _ _ h => h) (Or.inl ⟨by kernel_rfl, ?yb9⟩) (by assumption) ?rb9
      case yb9 => (intro wq hSw; (try dsimp only at hSw); go_simp; (try with_reducible rfl))
      (try simp only [Act.put, List.getElem_toArray, List.getElem_cons_succ, List.getElem_cons_zero, List.setIfInBounds_toArray, List.set_cons_zero, List.set_cons_succ])
      refine wpAnyH_take (i := 10) (v := ?vb10) rfl (by kernel_rfl) (by kernel_rfl) (by kernel_rfl) (fun _ _ _ h => h) (Or.inl ⟨by kernel_rfl, ?yb10⟩) (by assumption) ?rb10
      case yb10 => (intro wq hSw; (try dsimp only at hSw); go_simp; (try with_reducible rfl))
      (try simp only [Act.put, List.getElem_toArray, List.getElem_cons_succ, List.getElem_cons_zero, List.setIfInBounds_toArray, List.set_cons_zero, List.set_cons_succ])
      refine wpAnyH_take (i := 11) (v := ?vb11) rfl (by kernel_rfl) (by kernel_rfl) (by kernel_rfl) (fun _ _ _ h => h) (Or.inl ⟨by kernel_rfl, ?yb11⟩) (by assumption) ?rb11
      case yb11 => (intro wq hSw; (try dsimp only at hSw); go_simp; (try with_reducible rfl))
      (try simp only [Act.put, List.getElem_toArray, List.getElem_cons_succ, List.getElem_cons_zero, List.setIfInBounds_toArray, List.set_cons_zero, List.set_cons_succ])
      refine wpAnyH_ready (rs := [12]) (by kernel_rfl) (by simp) ?_
      refine AllReadyH.cons rfl (fun K hK => ?_) AllReadyH.nil
      go_simp
      have hb3 := hb2.alloc hb2.size (.cells zeroT 36)
      have Z := Blk.new w2 36 zeroT
      refine hK.out _ _ (by exact HS.out _ hb3) (fun hHeld => ?_)
      clear hK K
      (try simp only [Act.put, List.getElem_toArray, List.getElem_cons_succ, List.getElem_cons_zero, List.setIfInBounds_toArray, List.set_cons_zero, List.set_cons_succ])
      obtain ⟨⟨z0, z1, z2, z3, z4, z5⟩, ⟨f0, f1, f2, f3, f4, f5⟩⟩ := Z.at6
      refine wpAnyH_ready (rs := [13]) (by kernel_rfl) (by simp) ?_
      refine AllReadyH.cons rfl (fun K hK => ?_) AllReadyH.nil
      go_simp
      have hb4 := hb2.alloc hb2.size (.cells (refA R' (.slice p2 n2 c2)) 36)
      refine hK.out _ _ (by exact HS.out _ hb4) (fun hHeld => ?_)
      clear hK K
      (try simp only [Act.put, List.getElem_toArray, List.getElem_cons_succ, List.getElem_cons_zero, List.setIfInBounds_toArray, List.set_cons_zero, List.set_cons_succ])
      refine wpAnyH_take (i := 14) (v := ?vb14) rfl (by kernel_rfl) (by kernel_rfl) (by kernel_rfl) (fun _ _ _ h => h) (Or.inl ⟨by kernel_rfl, ?yb14⟩) (by assumption) ?rb14
      case yb14 => (intro wq hSw; (try dsimp only at hSw); go_simp; (try with_reducible rfl))
      (try simp only [Act.put, List.getElem_toArray, List.getElem_cons_succ, List.getElem_cons_zero, List.setIfInBounds_toArray, List.set_cons_zero, List.set_cons_succ])
      refine wpAnyH_take (i := 15) (v := ?vb15) rfl (by kernel_rfl) (by kernel_rfl) (by kernel_rfl) (fun _ _ _ h => h) (Or.inl ⟨by kernel_rfl, ?yb15⟩) (by assumption) ?rb15
      case yb15 => (intro wq hSw; (try dsimp only at hSw); go_simp; (try with_reducible rfl))
      (try simp only [Act.put, List.getElem_toArray, List.getElem_cons_succ, List.getElem_cons_zero, List.setIfInBounds_toArray, List.set_cons_zero, List.set_cons_succ])
      refine wpAnyH_done (by kernel_rfl) ?_ _
      refine NoPanic.normal ?_
      go_wp2_with fail
      go_meet
      exact ⟨_, p2, n2, c2, rfl, rfl, rfl, Blk.new w2 _ _, World.ownsRow.alloc ho2 _, hb4, hb2.size⟩
    · go_simp
      have hb2 := (Below.refl wc.heap.size wc).alloc (Nat.le_refl _) (.cells zeroT 36)
      have Z0 := Blk.new wc 36 zeroT
      refine hK.out _ _ (by exact HS.out _ hb2.drew) (fun hHeld => ?_)
      clear hK K
      (try simp only [Act.put, List.getElem_toArray, List.getElem_cons_succ, List.getElem_cons_zero, List.setIfInBounds_toArray, List.set_cons_zero, List.set_cons_succ])
      refine wpAnyH_ready (rs := [7]) (by kernel_rfl) (by simp) ?_
      refine AllReadyH.cons rfl (fun K hK => ?_) AllReadyH.nil
      go_simp
      refine (HREF.out _ _ (HOC.out _ hb2.drew)).mono ?_
      rintro ex w2 ⟨sv2, rfl, ho2, hb0⟩; have hb3 : Below wc.heap.size wc w2 := hb0.on hb2.drew hb2.size; have Z := Z0.drew.next hb0; obtain ⟨p2, n2, c2, rfl⟩ := own_sl ho2; clear hb0
      (try dsimp only)
      refine hK.out _ _ (by exact HS.out _ hb3) (fun hHeld => ?_)
      clear hK K
      (try simp only [Act.put, List.getElem_toArray, List.getElem_cons_succ, List.getElem_cons_zero, List.setIfInBounds_toArray, List.set_cons_zero, List.set_cons_succ])
      refine wpAnyH_take (i := 8) (v := ?vc8) rfl (by kernel_rfl) (by kernel_rfl) (by kernel_rfl) (fun _ _ _ h => h) (Or.inl ⟨by kernel_rfl, ?yc8⟩) (by assumption) ?rc8
      case yc8 => (intro wq hSw; (try dsimp only at hSw); go_simp; (try with_reducible rfl))
      (try simp only [Act.put, List.getElem_toArray, List.getElem_cons_succ, List.getElem_cons_zero, List.setIfInBounds_toArray, List.set_cons_zero, List.set_cons_succ])
      refine wpAnyH_take (i := 9) (v := ?vc9) rfl (by kernel_rfl) (by kernel_rfl) (by kernel_rfl) (fun _ _ _ h => h) (Or.inl ⟨by kernel_rfl, ?yc9⟩) (by assumption) ?rc9
      case yc9 => (intro wq hSw; (try dsimp only at hSw); go_simp; (try with_reducible rfl))
      (try simp only [Act.put, List.getElem_toArray, List.getElem_cons_succ, List.getElem_cons_zero, List.setIfInBounds_toArray, List.set_cons_zero, List.set_cons_succ])
      refine wpAnyH_take (i := 10) (v := ?vc10) rfl (by kernel_rfl) (by kernel_rfl) (by kernel_rfl) (fun _ _ _ h => h) (Or.inl ⟨by kernel_rfl, ?yc10⟩) (by assumption) ?rc10
      case yc10 => (intro wq hSw; (try dsimp only at hSw); go_simp; (try with_reducible rfl))
      (try simp only [Act.put, List.getElem_toArray, List.getElem_cons_succ, List.getElem_cons_zero, List.setIfInBounds_toArray, List.set_cons_zero, List.set_cons_succ])
      refine wpAnyH_take (i := 11) (v := ?vc11) rfl (by kernel_rfl) (by kernel_rfl) (by kernel_rfl) (fun _ _ _ h => h) (Or.inl ⟨by kernel_rfl, ?yc11⟩) (by assumption) ?rc11
      case yc11 => (intro wq hSw; (try dsimp only at hSw); go_simp; (try with_reducible rfl))
      (try simp only [Act.put, List.getElem_toArray, List.getElem_cons_succ, List.getElem_cons_zero, List.setIfInBounds_toArray, List.set_cons_zero, List.set_cons_succ])
      obtain ⟨⟨z0, z1, z2, z3, z4, z5⟩, ⟨f0, f1, f2, f3, f4, f5⟩⟩ := Z.at6
      refine wpAnyH_ready (rs := [13]) (by kernel_rfl) (by simp) ?_
      refine AllReadyH.cons rfl (fun K hK => ?_) AllReadyH.nil
      go_simp
      have hb4 := set6 hb3 (Nat.le_refl _) (.int .i64 R'.x) (.int .i64 R'.y) (.int .i64 R'.w) (.int .i64 R'.h) (.int .i64 R'.last) (.slice p2 n2 c2)
      refine hK.out _ _ (by exact HS.out _ hb4) (fun hHeld => ?_)
      clear hK K
      (try simp only [Act.put, List.getElem_toArray, List.getElem_cons_succ, List.getElem_cons_zero, List.setIfInBounds_toArray, List.set_cons_zero, List.set_cons_succ])
      refine wpAnyH_take (i := 14) (v := ?vc14) rfl (by kernel_rfl) (by kernel_rfl) (by kernel_rfl) (fun _ _ _ h => h) (Or.inl ⟨by kernel_rfl, ?yc14⟩) (by assumption) ?rc14
      case yc14 => (intro wq hSw; (try dsimp only at hSw); go_simp; (try with_reducible rfl))
      (try simp only [Act.put, List.getElem_toArray, List.getElem_cons_succ, List.getElem_cons_zero, List.setIfInBounds_toArray, List.set_cons_zero, List.set_cons_succ])
      refine wpAnyH_take (i := 15) (v := ?vc15) rfl (by kernel_rfl) (by kernel_rfl) (by kernel_rfl) (fun _ _ _ h => h) (Or.inl ⟨by kernel_rfl, ?yc15⟩) (by assumption) ?rc15
      case yc15 => (intro wq hSw; (try dsimp only at hSw); go_simp; (try with_reducible rfl))
      (try simp only [Act.put, List.getElem_toArray, List.getElem_cons_succ, List.getElem_cons_zero, List.setIfInBounds_toArray, List.set_cons_zero, List.set_cons_succ])
      refine wpAnyH_done (by kernel_rfl) ?_ _
      refine NoPanic.normal ?_
      go_wp2_with fail
      go_meet
      exact ⟨_, p2, n2, c2, rfl, rfl, rfl, put6 Z _ _ _ _ _ _, rows6 ho2 Z _ _ _ _ _ _, hb4, Nat.le_refl _⟩
  case rest =>
    obtain ⟨g, p2, n2, c2, rfl, rfl, rfl, hG, hO2, hb2, hg⟩ := hcut
    have HB2 := Lib.hid hb2
    have T3 := Lib.hid (HTC.out.next hb2)
    have R3 := Lib.hid (HRC.out.next hb2)
    have Z3 := Lib.hid hG
    have O3 := Lib.hid hO2
    have L3 := Lib.hid (hb2.on HBL.out HBL.out.size)
    obtain ⟨⟨b0, b1, b2, b3, b4, b5, b6⟩, -⟩ := (HA.out.next hb2).c7
    clear hG hO2 hb2 hg a0 a1 a2 a3 a4 a5 a6
    go_wp2_with (go_at_call 26; ((with_reducible refine (HCODE.out _ _ _ T3.out).mono ?_); rintro ex w4 ⟨rfl, hct⟩); have R4 := Lib.hid (CT.ref T3.out hct R3.out); have Z4 := Lib.hid (CT.any T3.out hct Z3.out); have O4 := Lib.hid (CT.row T3.out hct O3.out); have CO := Lib.hid (CT.out hct L3.out HF.out); obtain ⟨q0, q1, q2, q3, q4, q5⟩ := Z4.out.at6.1; obtain ⟨⟨r0, r1, r2, r3, r4, r5⟩, ⟨g0, g1, g2, g3, g4, g5⟩⟩ := R4.out.at6; clear hct)
    go_ret
    obtain ⟨l', T4, L4, F4⟩ := CO.out
    exact ⟨ret_bool rfl, R', L', HSM.out, HSN.out, Bo.put T4 R4.out O4.out L4 H5.out F4⟩
end
end Go.Proofs.Ytphmlfklmleafaa
end
