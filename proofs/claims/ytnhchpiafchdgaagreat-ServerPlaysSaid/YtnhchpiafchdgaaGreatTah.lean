/- Texts Sap. -/
import Derived.Test.YtnhchpiafchdgaaGreatTag
import Derived.Test.YtnhchpiafchdgaaGreatTaa
section
namespace Go.Proofs.YtnhchpiafchdgaaGreat
open Go.RowKit Go.Shelf Go.Maps
theorem box6 {w : World} {g g' : Nat} {R : RT} {sv : Value} (h : Blk w g 54 (refA R sv)) (hn : g ≠ g') (v0 v1 v2 v3 v4 v5 : Value) : (fun w => w.cell? ⟨g, 0, none⟩ = some (.int .i64 R.x) ∧ w.cell? ⟨g, 1, none⟩ = some (.int .i64 R.y) ∧ w.cell? ⟨g, 2, none⟩ = some (.int .i64 R.w) ∧ w.cell? ⟨g, 3, none⟩ = some (.int .i64 R.h) ∧ w.cell? ⟨g, 4, none⟩ = some (.int .i64 R.last) ∧ w.cell? ⟨g, 5, none⟩ = some sv) ((((((w.setCell ⟨g', 0, none⟩ v0).setCell ⟨g', 1, none⟩ v1).setCell ⟨g', 2, none⟩ v2).setCell ⟨g', 3, none⟩ v3).setCell ⟨g', 4, none⟩ v4).setCell ⟨g', 5, none⟩ v5) := by
 dsimp only
 rw [cell6 hn, cell6 hn, cell6 hn, cell6 hn, cell6 hn, cell6 hn]
 exact h.at6.1
theorem chain7 {w : World} {g : Nat} {T : TypeId} {z0 z1 z2 z3 z4 z5 z6 : Value} (h : Blk w g T #[z0, z1, z2, z3, z4, z5, z6]) (v0 v1 v2 v3 v4 v5 v6 : Value) : Blk (((((((w.setCell ⟨g, 0, none⟩ v0).setCell ⟨g, 1, none⟩ v1).setCell ⟨g, 2, none⟩ v2).setCell ⟨g, 3, none⟩ v3).setCell ⟨g, 4, none⟩ v4).setCell ⟨g, 5, none⟩ v5).setCell ⟨g, 6, none⟩ v6) g T #[v0, v1, v2, v3, v4, v5, v6] := by
 have := ((((((h.set_ 0 v0).set_ 1 v1).set_ 2 v2).set_ 3 v3).set_ 4 v4).set_ 5 v5).set_ 6 v6
 simpa using this
def ChR (w : World) (R' : RT) (L' : List Win) (err : Int) (ex : Ending) (w' : World) : Prop := ∃ sv', ex = .returned (.tuple #[refV R' sv', .int .i64 err]) ∧ RO w' sv' L' ∧ Below w.heap.size w w'
section
variable {w : World} {R : RT} {sv : Value} {L : List Win}
set_option maxRecDepth 100000 in
set_option maxHeartbeats 600000 in
theorem rchange_no (h : RO w sv L) (hL : L.length ≤ 1048570) {i x y a e : Int} {kind k : Int} (hk : askL L i = k) (hk0 : k ≠ 0) :
  Calls Tryz.prog 117 #[refV R sv, .int .i64 kind, .int .i64 i, .agg #[.int .i64 x, .int .i64 y, .int .i64 a, .int .i64 e]] w fun ex w' => ChR w R L k ex w' := by
 have hL := Nat.le_trans hL (show 1048570 ≤ 1048576 by decide)
 obtain ⟨wb, hwb⟩ : ∃ wb, wb = ((w.alloc (.cells (refA R sv) 54)).alloc (.cells #[.int .i64 x, .int .i64 y, .int .i64 a, .int .i64 e] 23)).alloc (.cells zeroT 54) := ⟨_, rfl⟩
 have hbel : Below w.heap.size w wb := by rw [hwb]; exact (((Below.refl _ _).alloc (Nat.le_refl _) _).alloc (by simp) _).alloc (by simp; omega) _
 have hbx : CbX R sv x y a e w.heap.size wb wb := by
  refine ⟨by rw [hwb]; exact ((Blk.new w _ _).alloc _).alloc _, ?_, ?_, Below.refl _ _⟩
  · rw [hwb]
    have := (Blk.new (w.alloc (.cells (refA R sv) 54)) 23 #[.int .i64 x, .int .i64 y, .int .i64 a, .int .i64 e]).alloc (.cells zeroT 54)
    rwa [World.size_alloc] at this
  · rw [hwb]
    have := Blk.new ((w.alloc (.cells (refA R sv) 54)).alloc (.cells #[.int .i64 x, .int .i64 y, .int .i64 a, .int .i64 e] 23)) 54 zeroT
    rwa [World.size_alloc, World.size_alloc] at this
 obtain ⟨p, c, hsv⟩ := OwK.slice h
 obtain ⟨n, hn⟩ : ∃ n, n = L.length := ⟨_, rfl⟩
 rw [← hn] at hsv
 subst hsv
 have HF := Lib.hid (fun W (hW : Below wb.heap.size wb W) => (show RO W (.slice p n c) L from OwK.below (OwK.below h hbel) hW))
 have HO := Lib.hid h
 have HN := Lib.hid hn
 have HL := Lib.hid hL
 obtain ⟨⟨x0, x1, x2, x3, x4, x5⟩, -⟩ := hbx.1.at6
 have H0 := Lib.hid hbx
 have HB := Lib.hid hbel
 have HW := Lib.hid hwb
 have hn0 : (n : Int) ≤ 1048576 := by omega
 have HA := Lib.hid (fun W (hW : Below wb.heap.size wb W) => (show Calls Tryz.prog 83 #[refV R (.slice p n c), .int .i64 i] W fun ex w' => ex = .returned (.int .i64 k) ∧ Below W.heap.size W w' from by rw [← hk]; exact asked_c (R := R) (HF.out W hW).rd hL i))
 have h1 : (k == 0) = false := by simpa using hk0
 have h2 : (k != 0) = true := by simp [bne, h1]
 clear h hbel hbx hn hk hk0
 go_enter Tryz.func117, Tryz.ntmps117
 go_upto_region 1 with fail
 rw [← HW.out]
 clear hwb
 go_upto_region 2 with (go_at_call 83; ((with_reducible refine (HA.out _ (Below.refl _ _)).mono ?_); rintro ex w1 ⟨rfl, hb⟩); have H1 := Lib.hid (H0.out.next hb); obtain ⟨⟨x0, x1, x2, x3, x4, x5⟩, -⟩ := H1.out.1.at6; clear hb)
 refine wp_region_noPanic ?_
 refine wp_region_held_drew (S := fun wx => wx.cell? ⟨w.heap.size, 0, none⟩ = some (.int .i64 R.x) ∧ wx.cell? ⟨w.heap.size, 1, none⟩ = some (.int .i64 R.y) ∧ wx.cell? ⟨w.heap.size, 2, none⟩ = some (.int .i64 R.w) ∧ wx.cell? ⟨w.heap.size, 3, none⟩ = some (.int .i64 R.h) ∧ wx.cell? ⟨w.heap.size, 4, none⟩ = some (.int .i64 R.last) ∧ wx.cell? ⟨w.heap.size, 5, none⟩ = some (.slice p n c)) (by kernel_rfl) (by exact H1.out.1.at6.1) (fun hHeld => ?_)
 refine tk 0 ?va0 rfl ?ya0 ?ra0
 case ya0 => (intro q h; (try dsimp only at h); go_simp; (try with_reducible rfl))
 (try simp only [Act.put, p1, p3, p4, p5, p6])
 refine tk 1 ?va1 rfl ?ya1 ?ra1
 case ya1 => (intro q h; (try dsimp only at h); go_simp; (try with_reducible rfl))
 (try simp only [Act.put, p1, p2, p3, p4, p5, p6])
 refine tk 2 ?va2 rfl ?ya2 ?ra2
 case ya2 => (intro q h; (try dsimp only at h); go_simp; (try with_reducible rfl))
 (try simp only [Act.put, p1, p2, p3, p4, p5, p6])
 refine wpAnyH_ready (rs := [3]) (by kernel_rfl) (by simp) ?_
 refine AllReadyH.cons rfl (fun K hK => ?_) AllReadyH.nil
 go_simp
 refine (HA.out _ H1.out.2.2.2.drew).mono ?_
 rintro ex w2 ⟨rfl, hb0⟩; have hb1 : Below w1.heap.size w1 w2 := ((Below.refl _ w1).drew).trans hb0; have H2 := Lib.hid (H1.out.next hb1); clear hb0 hb1
 (try dsimp only)
 refine hK.out _ _ (by exact H2.out.1.at6.1) (fun hHeld => ?_)
 clear hK K
 (try simp only [Act.put, p1, p2, p3, p4, p5, p6])
 obtain ⟨⟨z0, z1, z2, z3, z4, z5⟩, ⟨f0, f1, f2, f3, f4, f5⟩⟩ := H2.out.2.2.1.at6
 refine wpAnyH_ready (rs := [4]) (by kernel_rfl) (by simp) ?_
 refine AllReadyH.cons rfl (fun K hK => ?_) AllReadyH.nil
 go_simp
 refine hK.out _ _ (by exact box6 H2.out.1 (by omega) _ _ _ _ _ _) (fun hHeld => ?_)
 clear hK K
 (try simp only [Act.put, p1, p2, p3, p4, p5, p6])
 refine tk 5 ?va5 rfl ?ya5 ?ra5
 case ya5 => (intro q h; (try dsimp only at h); go_simp; (try with_reducible rfl))
 (try simp only [Act.put, p1, p2, p3, p4, p5, p6])
 refine wpAnyH_done (by kernel_rfl) ?_ _
 refine NoPanic.normal ?_
 go_wp2_with fail
 refine bodyPost_ret (v := .tuple #[refV R (.slice p n c), .int .i64 k]) (by simp [results, Tryz.results117, go_sem, z0, z1, z2, z3, z4, z5]) rfl ?_
 have hb := set6 (H2.out.2.2.2.on HB.out HB.out.size) (g := w.heap.size + 1 + 1) (by omega) (.int .i64 R.x) (.int .i64 R.y) (.int .i64 R.w) (.int .i64 R.h) (.int .i64 R.last) (.slice p n c)
 exact ⟨_, rfl, row6 (HF.out _ H2.out.2.2.2) H2.out.2.2.1 (fun k hk e => by have h1 := (World.ownsRow.lt HO.out k hk).2; omega) _ _ _ _ _ _, hb⟩
set_option maxRecDepth 100000 in
set_option maxHeartbeats 600000 in
theorem rchange_raise (h : RO w sv L) (hL : L.length ≤ 1048570) {i x y a e : Int} {k : Nat} {v : Win} (hk : placeN i L = some k) (hv : L[k]? = some v) (hi : i ≠ 0) :
  Calls Tryz.prog 117 #[refV R sv, .int .i64 1, .int .i64 i, .agg #[.int .i64 x, .int .i64 y, .int .i64 a, .int .i64 e]] w fun ex w' => ChR w R (dropL i L ++ [v]) 0 ex w' := by
 have hL := Nat.le_trans hL (show 1048570 ≤ 1048576 by decide)
 obtain ⟨wb, hwb⟩ : ∃ wb, wb = ((w.alloc (.cells (refA R sv) 54)).alloc (.cells #[.int .i64 x, .int .i64 y, .int .i64 a, .int .i64 e] 23)).alloc (.cells zeroT 54) := ⟨_, rfl⟩
 have hbel : Below w.heap.size w wb := by rw [hwb]; exact (((Below.refl _ _).alloc (Nat.le_refl _) _).alloc (by simp) _).alloc (by simp; omega) _
 have hbx : CbX R sv x y a e w.heap.size wb wb := by
  refine ⟨by rw [hwb]; exact ((Blk.new w _ _).alloc _).alloc _, ?_, ?_, Below.refl _ _⟩
  · rw [hwb]
    have := (Blk.new (w.alloc (.cells (refA R sv) 54)) 23 #[.int .i64 x, .int .i64 y, .int .i64 a, .int .i64 e]).alloc (.cells zeroT 54)
    rwa [World.size_alloc] at this
  · rw [hwb]
    have := Blk.new ((w.alloc (.cells (refA R sv) 54)).alloc (.cells #[.int .i64 x, .int .i64 y, .int .i64 a, .int .i64 e] 23)) 54 zeroT
    rwa [World.size_alloc, World.size_alloc] at this
 obtain ⟨p, c, hsv⟩ := OwK.slice h
 obtain ⟨n, hn⟩ : ∃ n, n = L.length := ⟨_, rfl⟩
 rw [← hn] at hsv
 subst hsv
 have HF := Lib.hid (fun W (hW : Below wb.heap.size wb W) => (show RO W (.slice p n c) L from OwK.below (OwK.below h hbel) hW))
 have HO := Lib.hid h
 have HN := Lib.hid hn
 have HL := Lib.hid hL
 obtain ⟨⟨x0, x1, x2, x3, x4, x5⟩, -⟩ := hbx.1.at6
 have H0 := Lib.hid hbx
 have HB := Lib.hid hbel
 have HW := Lib.hid hwb
 have hn0 : (n : Int) ≤ 1048576 := by omega
 obtain ⟨i0, hi0, hz0, hz1, hz2⟩ := info_parts winInfo
 have hvv := placeN_get L k hk
 obtain ⟨v', hv', hvi, hkl⟩ := hvv
 obtain rfl : v' = v := by rw [hv] at hv'; injection hv' with h1; exact h1.symm
 have hask : askL L i = 0 := by
  have h1 : isL L i = true := by unfold isL; rw [hk]; simp
  unfold askL; rw [if_neg (by rw [h1]; simp), if_neg hi]
 have HA := Lib.hid (show Calls Tryz.prog 83 #[refV R (.slice p n c), .int .i64 i] wb fun ex w' => ex = .returned (.int .i64 0) ∧ Below wb.heap.size wb w' from by rw [← hask]; exact asked_c (R := R) (HF.out wb (Below.refl _ _)).rd hL i)
 have HP := Lib.hid (fun W (hW : Below wb.heap.size wb W) => (show Calls Tryz.prog 64 #[refV R (.slice p n c), .int .i64 i] W fun ex w' => ex = .returned (.int .i64 (k : Int)) ∧ Below W.heap.size W w' from by
  have h1 := place_c (R := R) (HF.out W hW).rd hL i
  rw [hk] at h1; exact h1))
 have hcell : ∃ b o, p = some ⟨b, o, none⟩ ∧ b < wb.heap.size ∧ ∀ (i : Nat) (u : Value), (encW v')[i]? = some u → wb.cell? ⟨b, o + k * 7 + i, none⟩ = some u := by
  obtain ⟨p0, c0, e0, hcell⟩ := (HF.out wb (Below.refl _ _)).rd
  injection e0 with e0 _ _
  subst e0
  exact hcell k v' hv
 obtain ⟨b, o, hpb, hb1, hb2⟩ := hcell
 have HPB := Lib.hid hpb
 clear hpb
 obtain ⟨vid, vpar, vx, vy, vw, vh, von⟩ := v'
 have HV := Lib.hid (fun W (hW : Below wb.heap.size wb W) => (show ((W.cell? ⟨w.heap.size, 0, none⟩ = some (.int .i64 R.x) ∧ W.cell? ⟨w.heap.size, 1, none⟩ = some (.int .i64 R.y) ∧ W.cell? ⟨w.heap.size, 2, none⟩ = some (.int .i64 R.w) ∧ W.cell? ⟨w.heap.size, 3, none⟩ = some (.int .i64 R.h) ∧ W.cell? ⟨w.heap.size, 4, none⟩ = some (.int .i64 R.last) ∧ W.cell? ⟨w.heap.size, 5, none⟩ = some (.slice p n c)) ∧ W.cell? ⟨b, o + k * 7, none⟩ = some (.int .i64 vid) ∧ W.cell? ⟨b, o + k * 7 + 1, none⟩ = some (.int .i64 vpar) ∧ W.cell? ⟨b, o + k * 7 + 2, none⟩ = some (.int .i64 vx) ∧ W.cell? ⟨b, o + k * 7 + 3, none⟩ = some (.int .i64 vy) ∧ W.cell? ⟨b, o + k * 7 + 4, none⟩ = some (.int .i64 vw) ∧ W.cell? ⟨b, o + k * 7 + 5, none⟩ = some (.int .i64 vh) ∧ W.cell? ⟨b, o + k * 7 + 6, none⟩ = some (.bool von)) from by
  have hx := (H0.out.next hW).1.at6.1
  have hr := RW.cells (w := W) (v := ⟨vid, vpar, vx, vy, vw, vh, von⟩) (fun i u hu => (hW.cell (p := ⟨b, o + k * 7 + i, none⟩) hb1).trans (hb2 i u hu))
  exact ⟨hx, hr⟩))
 have hk0 : (0 : Int) ≤ (k : Int) := by omega
 have hk1 : (k : Int) < (n : Int) := by omega
 have HI := Lib.hid hi
 have HKP := Lib.hid hk
 have HVV := Lib.hid hv
 clear h hbel hbx hn hask hb1 hb2 hv hv' hk hi hvi
 go_enter Tryz.func117, Tryz.ntmps117
 go_upto_region 1 with fail
 rw [← HW.out]
 clear hwb
 have hpb := HPB.out
 clear HPB
 subst hpb
 go_upto_region 3 with (go_at_call 83; ((with_reducible refine (HA.out).mono ?_); rintro ex w1 ⟨rfl, hb⟩); have H1 := Lib.hid (H0.out.next hb); obtain ⟨⟨x0, x1, x2, x3, x4, x5⟩, -⟩ := H1.out.1.at6; clear hb)
 go_cut [10] (fun s10 wx => ∃ g, s10 = .pointer (some ⟨g, 0, none⟩) ∧ Blk wx g 61 #[.int .i64 vid, .int .i64 vpar, .int .i64 vx, .int .i64 vy, .int .i64 vw, .int .i64 vh, .bool von] ∧ wb.heap.size ≤ g ∧ Below wb.heap.size wb wx)
 case first =>
  refine wp_region_noPanic ?_
  refine wp_region_held_drew (S := fun wx => (wx.cell? ⟨w.heap.size, 0, none⟩ = some (.int .i64 R.x) ∧ wx.cell? ⟨w.heap.size, 1, none⟩ = some (.int .i64 R.y) ∧ wx.cell? ⟨w.heap.size, 2, none⟩ = some (.int .i64 R.w) ∧ wx.cell? ⟨w.heap.size, 3, none⟩ = some (.int .i64 R.h) ∧ wx.cell? ⟨w.heap.size, 4, none⟩ = some (.int .i64 R.last) ∧ wx.cell? ⟨w.heap.size, 5, none⟩ = some (.slice (some ⟨b, o, none⟩) n c)) ∧ wx.cell? ⟨b, o + k * 7, none⟩ = some (.int .i64 vid) ∧ wx.cell? ⟨b, o + k * 7 + 1, none⟩ = some (.int .i64 vpar) ∧ wx.cell? ⟨b, o + k * 7 + 2, none⟩ = some (.int .i64 vx) ∧ wx.cell? ⟨b, o + k * 7 + 3, none⟩ = some (.int .i64 vy) ∧ wx.cell? ⟨b, o + k * 7 + 4, none⟩ = some (.int .i64 vw) ∧ wx.cell? ⟨b, o + k * 7 + 5, none⟩ = some (.int .i64 vh) ∧ wx.cell? ⟨b, o + k * 7 + 6, none⟩ = some (.bool von)) (by kernel_rfl) (by exact HV.out _ H1.out.2.2.2.drew) (fun hHeld => ?_)
  refine tk 0 ?vp0 rfl ?yp0 ?rp0
  case yp0 => (intro q h; (try dsimp only at h); go_simp; (try with_reducible rfl))
  (try simp only [Act.put, p1, p3, p4, p5, p6])
  refine tk 1 ?vp1 rfl ?yp1 ?rp1
  case yp1 => (intro q h; (try dsimp only at h); go_simp; (try with_reducible rfl))
  (try simp only [Act.put, p1, p2, p3, p4, p5, p6])
  refine tk 2 ?vp2 rfl ?yp2 ?rp2
  case yp2 => (intro q h; (try dsimp only at h); go_simp; (try with_reducible rfl))
  (try simp only [Act.put, p1, p2, p3, p4, p5, p6])
  refine tk 3 ?vp3 rfl ?yp3 ?rp3
  case yp3 => (intro q h; (try dsimp only at h); go_simp; (try with_reducible rfl))
  (try simp only [Act.put, p1, p2, p3, p4, p5, p6])
  refine wpAnyH_ready (rs := [4, 7]) (by kernel_rfl) (by simp) ?_
  refine AllReadyH.cons rfl (fun K hK => ?_) (AllReadyH.cons rfl (fun K hK => ?_) AllReadyH.nil)
  · go_simp
    refine (HP.out _ H1.out.2.2.2.drew).mono ?_
    rintro ex w2 ⟨rfl, hb0⟩; have hb1 : Below w1.heap.size w1 w2 := ((Below.refl _ w1).drew).trans hb0; have hb2 := hb1.on H1.out.2.2.2 H1.out.2.2.2.size; clear hb0
    (try dsimp only)
    refine hK.out _ _ (by exact HV.out _ hb2) (fun hHeld => ?_)
    clear hK K
    (try simp only [Act.put, p1, p2, p3, p4, p5, p6])
    refine tk 5 ?vq5 rfl ?yq5 ?rq5
    case yq5 => (intro q h; (try dsimp only at h); go_simp; (try with_reducible rfl))
    (try simp only [Act.put, p1, p2, p3, p4, p5, p6])
    refine tk 6 ?vq6 rfl ?yq6 ?rq6
    case yq6 => (intro q h; (try dsimp only at h); go_simp; (try with_reducible rfl))
    (try simp only [Act.put, p1, p2, p3, p4, p5, p6])
    refine wpAnyH_ready (rs := [7]) (by kernel_rfl) (by simp) ?_
    refine AllReadyH.cons rfl (fun K hK => ?_) AllReadyH.nil
    go_simp
    have hB := Blk.new w2 61 #[.int .i64 0, .int .i64 0, .int .i64 0, .int .i64 0, .int .i64 0, .int .i64 0, .bool false]
    have hb3 := hb2.alloc hb2.size (.cells #[.int .i64 0, .int .i64 0, .int .i64 0, .int .i64 0, .int .i64 0, .int .i64 0, .bool false] 61)
    refine hK.out _ _ (by exact HV.out _ hb3) (fun hHeld => ?_)
    clear hK K
    (try simp only [Act.put, p1, p2, p3, p4, p5, p6])
    obtain ⟨⟨z0, z1, z2, z3, z4, z5, z6⟩, ⟨f0, f1, f2, f3, f4, f5, f6⟩⟩ := hB.c7
    refine wpAnyH_ready (rs := [8]) (by kernel_rfl) (by simp) ?_
    refine AllReadyH.cons rfl (fun K hK => ?_) AllReadyH.nil
    go_simp
    have hB4 := Blk.new w2 61 #[.int .i64 vid, .int .i64 vpar, .int .i64 vx, .int .i64 vy, .int .i64 vw, .int .i64 vh, .bool von]
    have hb4 := hb2.alloc hb2.size (.cells #[.int .i64 vid, .int .i64 vpar, .int .i64 vx, .int .i64 vy, .int .i64 vw, .int .i64 vh, .bool von] 61)
    refine hK.out _ _ (by exact HV.out _ hb4) (fun hHeld => ?_)
    clear hK K
    (try simp only [Act.put, p1, p2, p3, p4, p5, p6])
    refine wpAnyH_done (by kernel_rfl) ?_ _
    refine NoPanic.normal ?_
    go_wp2_with fail
    go_meet
    exact ⟨_, rfl, hB4, hb2.size, hb4⟩
  · go_simp
    have hb2 := H1.out.2.2.2.alloc H1.out.2.2.2.size (.cells #[.int .i64 0, .int .i64 0, .int .i64 0, .int .i64 0, .int .i64 0, .int .i64 0, .bool false] 61)
    have hB0 := Blk.new w1 61 #[.int .i64 0, .int .i64 0, .int .i64 0, .int .i64 0, .int .i64 0, .int .i64 0, .bool false]
    refine hK.out _ _ (by exact HV.out _ hb2.drew) (fun hHeld => ?_)
    clear hK K
    (try simp only [Act.put, p1, p2, p3, p4, p5, p6])
    refine wpAnyH_ready (rs := [4]) (by kernel_rfl) (by simp) ?_
    refine AllReadyH.cons rfl (fun K hK => ?_) AllReadyH.nil
    go_simp
    refine (HP.out _ hb2.drew).mono ?_
    rintro ex w2 ⟨rfl, hb0⟩; have hb3 := hb0.on hb2.drew hb2.size; have hB := hB0.drew.next hb0; clear hb0
    (try dsimp only)
    refine hK.out _ _ (by exact HV.out _ hb3) (fun hHeld => ?_)
    clear hK K
    (try simp only [Act.put, p1, p2, p3, p4, p5, p6])
    refine tk 5 ?vr5 rfl ?yr5 ?rr5
    case yr5 => (intro q h; (try dsimp only at h); go_simp; (try with_reducible rfl))
    (try simp only [Act.put, p1, p2, p3, p4, p5, p6])
    refine tk 6 ?vr6 rfl ?yr6 ?rr6
    case yr6 => (intro q h; (try dsimp only at h); go_simp; (try with_reducible rfl))
    (try simp only [Act.put, p1, p2, p3, p4, p5, p6])
    obtain ⟨⟨z0, z1, z2, z3, z4, z5, z6⟩, ⟨f0, f1, f2, f3, f4, f5, f6⟩⟩ := hB.c7
    refine wpAnyH_ready (rs := [8]) (by kernel_rfl) (by simp) ?_
    refine AllReadyH.cons rfl (fun K hK => ?_) AllReadyH.nil
    go_simp
    refine hK.out _ _ (by exact HV.out _ (set7 hb3 H1.out.2.2.2.size _ _ _ _ _ _ _)) (fun hHeld => ?_)
    clear hK K
    (try simp only [Act.put, p1, p2, p3, p4, p5, p6])
    refine wpAnyH_done (by kernel_rfl) ?_ _
    refine NoPanic.normal ?_
    go_wp2_with fail
    go_meet
    exact ⟨_, rfl, chain7 hB _ _ _ _ _ _ _, H1.out.2.2.2.size, set7 hb3 H1.out.2.2.2.size _ _ _ _ _ _ _⟩
 case rest =>
  obtain ⟨g, rfl, hB, hg, hbc⟩ := hcut
  have H3 := Lib.hid (H0.out.next hbc)
  have HSR := Lib.hid (fun W (hW : Below wc.heap.size wc W) => (show ((W.cell? ⟨w.heap.size, 0, none⟩ = some (.int .i64 R.x) ∧ W.cell? ⟨w.heap.size, 1, none⟩ = some (.int .i64 R.y) ∧ W.cell? ⟨w.heap.size, 2, none⟩ = some (.int .i64 R.w) ∧ W.cell? ⟨w.heap.size, 3, none⟩ = some (.int .i64 R.h) ∧ W.cell? ⟨w.heap.size, 4, none⟩ = some (.int .i64 R.last) ∧ W.cell? ⟨w.heap.size, 5, none⟩ = some (.slice (some ⟨b, o, none⟩) n c)) ∧ W.cell? ⟨g, 0, none⟩ = some (.int .i64 vid) ∧ W.cell? ⟨g, 1, none⟩ = some (.int .i64 vpar) ∧ W.cell? ⟨g, 2, none⟩ = some (.int .i64 vx) ∧ W.cell? ⟨g, 3, none⟩ = some (.int .i64 vy) ∧ W.cell? ⟨g, 4, none⟩ = some (.int .i64 vw) ∧ W.cell? ⟨g, 5, none⟩ = some (.int .i64 vh) ∧ W.cell? ⟨g, 6, none⟩ = some (.bool von)) from ⟨(H3.out.next hW).1.at6.1, (hB.next hW).c7.1⟩))
  have hne1 : w.heap.size ≠ w.heap.size + 1 + 1 := by omega
  have hne2 : g ≠ w.heap.size + 1 + 1 := fun e => by have := H0.out.2.2.1.lt; omega
  have HS6 := Lib.hid (fun W (hW : Below wc.heap.size wc W) (v0 v1 v2 v3 v4 v5 : Value) => (show (fun W => (W.cell? ⟨w.heap.size, 0, none⟩ = some (.int .i64 R.x) ∧ W.cell? ⟨w.heap.size, 1, none⟩ = some (.int .i64 R.y) ∧ W.cell? ⟨w.heap.size, 2, none⟩ = some (.int .i64 R.w) ∧ W.cell? ⟨w.heap.size, 3, none⟩ = some (.int .i64 R.h) ∧ W.cell? ⟨w.heap.size, 4, none⟩ = some (.int .i64 R.last) ∧ W.cell? ⟨w.heap.size, 5, none⟩ = some (.slice (some ⟨b, o, none⟩) n c)) ∧ W.cell? ⟨g, 0, none⟩ = some (.int .i64 vid) ∧ W.cell? ⟨g, 1, none⟩ = some (.int .i64 vpar) ∧ W.cell? ⟨g, 2, none⟩ = some (.int .i64 vx) ∧ W.cell? ⟨g, 3, none⟩ = some (.int .i64 vy) ∧ W.cell? ⟨g, 4, none⟩ = some (.int .i64 vw) ∧ W.cell? ⟨g, 5, none⟩ = some (.int .i64 vh) ∧ W.cell? ⟨g, 6, none⟩ = some (.bool von)) ((((((W.setCell ⟨w.heap.size + 1 + 1, 0, none⟩ v0).setCell ⟨w.heap.size + 1 + 1, 1, none⟩ v1).setCell ⟨w.heap.size + 1 + 1, 2, none⟩ v2).setCell ⟨w.heap.size + 1 + 1, 3, none⟩ v3).setCell ⟨w.heap.size + 1 + 1, 4, none⟩ v4).setCell ⟨w.heap.size + 1 + 1, 5, none⟩ v5) from by
    have hh := HSR.out W hW
    dsimp only
    rw [cell6 hne1, cell6 hne1, cell6 hne1, cell6 hne1, cell6 hne1, cell6 hne1, cell6 hne2, cell6 hne2, cell6 hne2, cell6 hne2, cell6 hne2, cell6 hne2, cell6 hne2]
    exact hh))
  have HFC := Lib.hid (fun W (hW : Below wc.heap.size wc W) => HF.out W (hW.on hbc hbc.size))
  have HWI := Lib.hid (fun W (hW : Below wc.heap.size wc W) => without_c (R := R) (HFC.out W hW).rd HL.out i)
  have HDL := Lib.hid (show (dropL i L).length ≤ 1048576 from by
    have h1 := dropL_len i L L.length
    rw [List.take_length] at h1
    have := HL.out; omega)
  obtain ⟨x0, x1, x2, x3, x4, x5⟩ := H3.out.1.at6.1
  have HBC := Lib.hid hbc
  have HBB := Lib.hid hB
  clear hbc hB hne1 hne2
  go_wp2_with fail
  refine wp_region_noPanic ?_
  refine wp_region_held_drew (S := fun wx => (wx.cell? ⟨w.heap.size, 0, none⟩ = some (.int .i64 R.x) ∧ wx.cell? ⟨w.heap.size, 1, none⟩ = some (.int .i64 R.y) ∧ wx.cell? ⟨w.heap.size, 2, none⟩ = some (.int .i64 R.w) ∧ wx.cell? ⟨w.heap.size, 3, none⟩ = some (.int .i64 R.h) ∧ wx.cell? ⟨w.heap.size, 4, none⟩ = some (.int .i64 R.last) ∧ wx.cell? ⟨w.heap.size, 5, none⟩ = some (.slice (some ⟨b, o, none⟩) n c)) ∧ wx.cell? ⟨g, 0, none⟩ = some (.int .i64 vid) ∧ wx.cell? ⟨g, 1, none⟩ = some (.int .i64 vpar) ∧ wx.cell? ⟨g, 2, none⟩ = some (.int .i64 vx) ∧ wx.cell? ⟨g, 3, none⟩ = some (.int .i64 vy) ∧ wx.cell? ⟨g, 4, none⟩ = some (.int .i64 vw) ∧ wx.cell? ⟨g, 5, none⟩ = some (.int .i64 vh) ∧ wx.cell? ⟨g, 6, none⟩ = some (.bool von)) (by kernel_rfl) (by exact HSR.out _ (Below.refl _ _).drew) (fun hHeld => ?_)
  refine tk 0 ?vs0 rfl ?ys0 ?rs0
  case ys0 => (intro q h; (try dsimp only at h); go_simp; (try with_reducible rfl))
  (try simp only [Act.put, p1, p3, p4, p5, p6])
  refine tk 1 ?vs1 rfl ?ys1 ?rs1
  case ys1 => (intro q h; (try dsimp only at h); go_simp; (try with_reducible rfl))
  (try simp only [Act.put, p1, p2, p3, p4, p5, p6])
  refine tk 2 ?vs2 rfl ?ys2 ?rs2
  case ys2 => (intro q h; (try dsimp only at h); go_simp; (try with_reducible rfl))
  (try simp only [Act.put, p1, p2, p3, p4, p5, p6])
  refine tk 4 ?vs4 rfl ?ys4 ?rs4
  case ys4 => (intro q h; (try dsimp only at h); go_simp; (try with_reducible rfl))
  (try simp only [Act.put, p1, p2, p3, p4, p5, p6])
  refine wpAnyH_ready (rs := [3, 5]) (by kernel_rfl) (by simp) ?_
  refine AllReadyH.cons rfl (fun K hK => ?_) (AllReadyH.cons rfl (fun K hK => ?_) AllReadyH.nil)
  · go_simp
    refine (HWI.out _ (Below.refl _ wc).drew).mono ?_
    rintro ex w5 ⟨v5, rfl, ho5, hb0⟩; have b5 : Below wc.heap.size wc w5 := ((Below.refl _ wc).drew).trans hb0; clear hb0
    (try dsimp only)
    refine hK.out _ _ (by exact HSR.out _ b5) (fun hHeld => ?_)
    clear hK K
    (try simp only [Act.put, p1, p2, p3, p4, p5, p6])
    refine wpAnyH_ready (rs := [5]) (by kernel_rfl) (by simp) ?_
    refine AllReadyH.cons rfl (fun K hK => ?_) AllReadyH.nil
    go_simp
    have b6 := b5.alloc b5.size (.cells #[.int .i64 vid, .int .i64 vpar, .int .i64 vx, .int .i64 vy, .int .i64 vw, .int .i64 vh, .bool von] 61)
    have o6 := own_one (v := ⟨vid, vpar, vx, vy, vw, vh, von⟩) (Blk.new w5 61 #[.int .i64 vid, .int .i64 vpar, .int .i64 vx, .int .i64 vy, .int .i64 vw, .int .i64 vh, .bool von])
    have v6 := World.ownsRow.alloc (OwK.less ho5 (Nat.le_refl wc.heap.size)) (.cells #[.int .i64 vid, .int .i64 vpar, .int .i64 vx, .int .i64 vy, .int .i64 vw, .int .i64 vh, .bool von] 61)
    refine hK.out _ _ (by exact HSR.out _ b6) (fun hHeld => ?_)
    clear hK K
    (try simp only [Act.put, p1, p2, p3, p4, p5, p6])
    refine wpAnyH_ready (rs := [6]) (by kernel_rfl) (by simp) ?_
    refine AllReadyH.cons rfl (fun K hK => ?_) AllReadyH.nil
    refine step_app rfl (.tmp 32) (.tmp 34) 52 rfl wc.heap.size 61 i0 (.agg #[.int .i64 0, .int .i64 0, .int .i64 0, .int .i64 0, .int .i64 0, .int .i64 0, .bool false]) 7 56 Tryz.underlying52 hi0 hz0 hz1 hz2 rfl (by decide) _ _ _ (by rfl) v6 _ _ _ _ (by rfl) o6 (flatW_one _) (by unfold maxLen; have := HDL.out; simp; omega) (by have := HDL.out; simp; omega) b6.size ?_
    intro v7 w7 ho7 hg7
    have of7 := OwK.app (L := dropL i L) (M := [⟨vid, vpar, vx, vy, vw, vh, von⟩]) ho7
    obtain ⟨p7, m7, c7, rfl⟩ := own_sl of7
    have OF := Lib.hid of7
    have b7 := below_only b6 hg7 b6.size (fun k hk => (World.ownsRow.lt v6 k hk).1)
    have B7 := Lib.hid b7
    refine hK.out _ _ (by exact HSR.out _ b7) (fun hHeld => ?_)
    clear hK K
    (try simp only [Act.put, p1, p2, p3, p4, p5, p6])
    clear b7 ho7 hg7 of7
    refine wpAnyH_ready (rs := [7]) (by kernel_rfl) (by simp) ?_
    refine AllReadyH.cons rfl (fun K hK => ?_) AllReadyH.nil
    go_simp
    refine (with_c R _ _ _ _ _ _ w7).mono ?_
    rintro ex w8 ⟨rfl, hb8⟩; have H8 := Lib.hid ((H3.out.next B7.out).next hb8); have B8 := Lib.hid (hb8.on B7.out B7.out.size); have OF8 := Lib.hid (OwK.below OF.out hb8); clear hb8
    (try dsimp only)
    refine hK.out _ _ (by exact HSR.out _ B8.out) (fun hHeld => ?_)
    clear hK K
    (try simp only [Act.put, p1, p2, p3, p4, p5, p6])
    obtain ⟨⟨z0, z1, z2, z3, z4, z5⟩, ⟨f0, f1, f2, f3, f4, f5⟩⟩ := H8.out.2.2.1.at6
    refine wpAnyH_ready (rs := [8]) (by kernel_rfl) (by simp) ?_
    refine AllReadyH.cons rfl (fun K hK => ?_) AllReadyH.nil
    go_simp
    refine hK.out _ _ (by exact HS6.out _ B8.out _ _ _ _ _ _) (fun hHeld => ?_)
    clear hK K
    (try simp only [Act.put, p1, p2, p3, p4, p5, p6])
    refine tk 9 ?vt9 rfl ?yt9 ?rt9
    case yt9 => (intro q h; (try dsimp only at h); go_simp; (try with_reducible rfl))
    (try simp only [Act.put, p1, p2, p3, p4, p5, p6])
    refine wpAnyH_done (by kernel_rfl) ?_ _
    refine NoPanic.normal ?_
    go_wp2_with fail
    refine bodyPost_ret (v := .tuple #[refV R (.slice p7 m7 c7), .int .i64 0]) (by simp [results, Tryz.results117, go_sem, z0, z1, z2, z3, z4, z5]) rfl ?_
    have hb := set6 (H8.out.2.2.2.on HB.out HB.out.size) (g := w.heap.size + 1 + 1) (by omega) (.int .i64 R.x) (.int .i64 R.y) (.int .i64 R.w) (.int .i64 R.h) (.int .i64 R.last) (.slice p7 m7 c7)
    exact ⟨_, rfl, row6 (OwK.less OF8.out (Nat.zero_le _)) H8.out.2.2.1 (fun k hk => by have h1 := (World.ownsRow.lt OF8.out k hk).1; have h2 := H3.out.2.2.1.lt; omega) _ _ _ _ _ _, hb⟩
  · go_simp
    have b5 := (Below.refl wc.heap.size wc).alloc (Nat.le_refl _) (.cells #[.int .i64 vid, .int .i64 vpar, .int .i64 vx, .int .i64 vy, .int .i64 vw, .int .i64 vh, .bool von] 61)
    have o5 := own_one (v := ⟨vid, vpar, vx, vy, vw, vh, von⟩) (Blk.new wc 61 #[.int .i64 vid, .int .i64 vpar, .int .i64 vx, .int .i64 vy, .int .i64 vw, .int .i64 vh, .bool von])
    refine hK.out _ _ (by exact HSR.out _ b5.drew) (fun hHeld => ?_)
    clear hK K
    (try simp only [Act.put, p1, p2, p3, p4, p5, p6])
    refine wpAnyH_ready (rs := [3]) (by kernel_rfl) (by simp) ?_
    refine AllReadyH.cons rfl (fun K hK => ?_) AllReadyH.nil
    go_simp
    refine (HWI.out _ b5.drew).mono ?_
    rintro ex w6 ⟨v5, rfl, ho6, hb0⟩; have b6 : Below wc.heap.size wc w6 := hb0.on b5.drew b5.size; have o6 := OwK.below (World.ownsRow.drew o5) hb0; have v6 := OwK.less ho6 (show wc.heap.size ≤ _ from b5.size); clear hb0
    (try dsimp only)
    refine hK.out _ _ (by exact HSR.out _ b6) (fun hHeld => ?_)
    clear hK K
    (try simp only [Act.put, p1, p2, p3, p4, p5, p6])
    refine wpAnyH_ready (rs := [6]) (by kernel_rfl) (by simp) ?_
    refine AllReadyH.cons rfl (fun K hK => ?_) AllReadyH.nil
    refine step_app rfl (.tmp 32) (.tmp 34) 52 rfl wc.heap.size 61 i0 (.agg #[.int .i64 0, .int .i64 0, .int .i64 0, .int .i64 0, .int .i64 0, .int .i64 0, .bool false]) 7 56 Tryz.underlying52 hi0 hz0 hz1 hz2 rfl (by decide) _ _ _ (by rfl) v6 _ _ _ _ (by rfl) o6 (flatW_one _) (by unfold maxLen; have := HDL.out; simp; omega) (by have := HDL.out; simp; omega) b6.size ?_
    intro v7 w7 ho7 hg7
    have of7 := OwK.app (L := dropL i L) (M := [⟨vid, vpar, vx, vy, vw, vh, von⟩]) ho7
    obtain ⟨p7, m7, c7, rfl⟩ := own_sl of7
    have OF := Lib.hid of7
    have b7 := below_only b6 hg7 b6.size (fun k hk => (World.ownsRow.lt v6 k hk).1)
    have B7 := Lib.hid b7
    refine hK.out _ _ (by exact HSR.out _ b7) (fun hHeld => ?_)
    clear hK K
    (try simp only [Act.put, p1, p2, p3, p4, p5, p6])
    clear b7 ho7 hg7 of7
    refine wpAnyH_ready (rs := [7]) (by kernel_rfl) (by simp) ?_
    refine AllReadyH.cons rfl (fun K hK => ?_) AllReadyH.nil
    go_simp
    refine (with_c R _ _ _ _ _ _ w7).mono ?_
    rintro ex w8 ⟨rfl, hb8⟩; have H8 := Lib.hid ((H3.out.next B7.out).next hb8); have B8 := Lib.hid (hb8.on B7.out B7.out.size); have OF8 := Lib.hid (OwK.below OF.out hb8); clear hb8
    (try dsimp only)
    refine hK.out _ _ (by exact HSR.out _ B8.out) (fun hHeld => ?_)
    clear hK K
    (try simp only [Act.put, p1, p2, p3, p4, p5, p6])
    obtain ⟨⟨z0, z1, z2, z3, z4, z5⟩, ⟨f0, f1, f2, f3, f4, f5⟩⟩ := H8.out.2.2.1.at6
    refine wpAnyH_ready (rs := [8]) (by kernel_rfl) (by simp) ?_
    refine AllReadyH.cons rfl (fun K hK => ?_) AllReadyH.nil
    go_simp
    refine hK.out _ _ (by exact HS6.out _ B8.out _ _ _ _ _ _) (fun hHeld => ?_)
    clear hK K
    (try simp only [Act.put, p1, p2, p3, p4, p5, p6])
    refine tk 9 ?vu9 rfl ?yu9 ?ru9
    case yu9 => (intro q h; (try dsimp only at h); go_simp; (try with_reducible rfl))
    (try simp only [Act.put, p1, p2, p3, p4, p5, p6])
    refine wpAnyH_done (by kernel_rfl) ?_ _
    refine NoPanic.normal ?_
    go_wp2_with fail
    refine bodyPost_ret (v := .tuple #[refV R (.slice p7 m7 c7), .int .i64 0]) (by simp [results, Tryz.results117, go_sem, z0, z1, z2, z3, z4, z5]) rfl ?_
    have hb := set6 (H8.out.2.2.2.on HB.out HB.out.size) (g := w.heap.size + 1 + 1) (by omega) (.int .i64 R.x) (.int .i64 R.y) (.int .i64 R.w) (.int .i64 R.h) (.int .i64 R.last) (.slice p7 m7 c7)
    exact ⟨_, rfl, row6 (OwK.less OF8.out (Nat.zero_le _)) H8.out.2.2.1 (fun k hk => by have h1 := (World.ownsRow.lt OF8.out k hk).1; have h2 := H3.out.2.2.1.lt; omega) _ _ _ _ _ _, hb⟩
set_option maxRecDepth 100000 in
set_option maxHeartbeats 600000 in
theorem rchange_lower (h : RO w sv L) (hL : L.length ≤ 1048570) {i x y a e : Int} {k : Nat} {v : Win} (hk : placeN i L = some k) (hv : L[k]? = some v) (hi : i ≠ 0) :
  Calls Tryz.prog 117 #[refV R sv, .int .i64 2, .int .i64 i, .agg #[.int .i64 x, .int .i64 y, .int .i64 a, .int .i64 e]] w fun ex w' => ChR w R (v :: dropL i L) 0 ex w' := by
 have hL := Nat.le_trans hL (show 1048570 ≤ 1048576 by decide)
 obtain ⟨wb, hwb⟩ : ∃ wb, wb = ((w.alloc (.cells (refA R sv) 54)).alloc (.cells #[.int .i64 x, .int .i64 y, .int .i64 a, .int .i64 e] 23)).alloc (.cells zeroT 54) := ⟨_, rfl⟩
 have hbel : Below w.heap.size w wb := by rw [hwb]; exact (((Below.refl _ _).alloc (Nat.le_refl _) _).alloc (by simp) _).alloc (by simp; omega) _
 have hbx : CbX R sv x y a e w.heap.size wb wb := by
  refine ⟨by rw [hwb]; exact ((Blk.new w _ _).alloc _).alloc _, ?_, ?_, Below.refl _ _⟩
  · rw [hwb]
    have := (Blk.new (w.alloc (.cells (refA R sv) 54)) 23 #[.int .i64 x, .int .i64 y, .int .i64 a, .int .i64 e]).alloc (.cells zeroT 54)
    rwa [World.size_alloc] at this
  · rw [hwb]
    have := Blk.new ((w.alloc (.cells (refA R sv) 54)).alloc (.cells #[.int .i64 x, .int .i64 y, .int .i64 a, .int .i64 e] 23)) 54 zeroT
    rwa [World.size_alloc, World.size_alloc] at this
 obtain ⟨p, c, hsv⟩ := OwK.slice h
 obtain ⟨n, hn⟩ : ∃ n, n = L.length := ⟨_, rfl⟩
 rw [← hn] at hsv
 subst hsv
 have HF := Lib.hid (fun W (hW : Below wb.heap.size wb W) => (show RO W (.slice p n c) L from OwK.below (OwK.below h hbel) hW))
 have HO := Lib.hid h
 have HN := Lib.hid hn
 have HL := Lib.hid hL
 obtain ⟨⟨x0, x1, x2, x3, x4, x5⟩, -⟩ := hbx.1.at6
 have H0 := Lib.hid hbx
 have HB := Lib.hid hbel
 have HW := Lib.hid hwb
 have hn0 : (n : Int) ≤ 1048576 := by omega
 obtain ⟨i0, hi0, hz0, hz1, hz2⟩ := info_parts winInfo
 have hvv := placeN_get L k hk
 obtain ⟨v', hv', hvi, hkl⟩ := hvv
 obtain rfl : v' = v := by rw [hv] at hv'; injection hv' with h1; exact h1.symm
 have hask : askL L i = 0 := by
  have h1 : isL L i = true := by unfold isL; rw [hk]; simp
  unfold askL; rw [if_neg (by rw [h1]; simp), if_neg hi]
 have HA := Lib.hid (show Calls Tryz.prog 83 #[refV R (.slice p n c), .int .i64 i] wb fun ex w' => ex = .returned (.int .i64 0) ∧ Below wb.heap.size wb w' from by rw [← hask]; exact asked_c (R := R) (HF.out wb (Below.refl _ _)).rd hL i)
 have HP := Lib.hid (fun W (hW : Below wb.heap.size wb W) => (show Calls Tryz.prog 64 #[refV R (.slice p n c), .int .i64 i] W fun ex w' => ex = .returned (.int .i64 (k : Int)) ∧ Below W.heap.size W w' from by
  have h1 := place_c (R := R) (HF.out W hW).rd hL i
  rw [hk] at h1; exact h1))
 have hcell : ∃ b o, p = some ⟨b, o, none⟩ ∧ b < wb.heap.size ∧ ∀ (i : Nat) (u : Value), (encW v')[i]? = some u → wb.cell? ⟨b, o + k * 7 + i, none⟩ = some u := by
  obtain ⟨p0, c0, e0, hcell⟩ := (HF.out wb (Below.refl _ _)).rd
  injection e0 with e0 _ _
  subst e0
  exact hcell k v' hv
 obtain ⟨b, o, hpb, hb1, hb2⟩ := hcell
 have HPB := Lib.hid hpb
 clear hpb
 obtain ⟨vid, vpar, vx, vy, vw, vh, von⟩ := v'
 have HV := Lib.hid (fun W (hW : Below wb.heap.size wb W) => (show ((W.cell? ⟨w.heap.size, 0, none⟩ = some (.int .i64 R.x) ∧ W.cell? ⟨w.heap.size, 1, none⟩ = some (.int .i64 R.y) ∧ W.cell? ⟨w.heap.size, 2, none⟩ = some (.int .i64 R.w) ∧ W.cell? ⟨w.heap.size, 3, none⟩ = some (.int .i64 R.h) ∧ W.cell? ⟨w.heap.size, 4, none⟩ = some (.int .i64 R.last) ∧ W.cell? ⟨w.heap.size, 5, none⟩ = some (.slice p n c)) ∧ W.cell? ⟨b, o + k * 7, none⟩ = some (.int .i64 vid) ∧ W.cell? ⟨b, o + k * 7 + 1, none⟩ = some (.int .i64 vpar) ∧ W.cell? ⟨b, o + k * 7 + 2, none⟩ = some (.int .i64 vx) ∧ W.cell? ⟨b, o + k * 7 + 3, none⟩ = some (.int .i64 vy) ∧ W.cell? ⟨b, o + k * 7 + 4, none⟩ = some (.int .i64 vw) ∧ W.cell? ⟨b, o + k * 7 + 5, none⟩ = some (.int .i64 vh) ∧ W.cell? ⟨b, o + k * 7 + 6, none⟩ = some (.bool von)) from by
  have hx := (H0.out.next hW).1.at6.1
  have hr := RW.cells (w := W) (v := ⟨vid, vpar, vx, vy, vw, vh, von⟩) (fun i u hu => (hW.cell (p := ⟨b, o + k * 7 + i, none⟩) hb1).trans (hb2 i u hu))
  exact ⟨hx, hr⟩))
 have hk0 : (0 : Int) ≤ (k : Int) := by omega
 have hk1 : (k : Int) < (n : Int) := by omega
 have HI := Lib.hid hi
 have HKP := Lib.hid hk
 have HVV := Lib.hid hv
 clear h hbel hbx hn hask hb1 hb2 hv hv' hk hi hvi
 go_enter Tryz.func117, Tryz.ntmps117
 go_upto_region 1 with fail
 rw [← HW.out]
 clear hwb
 have hpb := HPB.out
 clear HPB
 subst hpb
 go_upto_region 3 with (go_at_call 83; ((with_reducible refine (HA.out).mono ?_); rintro ex w1 ⟨rfl, hb⟩); have H1 := Lib.hid (H0.out.next hb); obtain ⟨⟨x0, x1, x2, x3, x4, x5⟩, -⟩ := H1.out.1.at6; clear hb)
 go_cut [10] (fun s10 wx => ∃ g, s10 = .pointer (some ⟨g, 0, none⟩) ∧ Blk wx g 61 #[.int .i64 vid, .int .i64 vpar, .int .i64 vx, .int .i64 vy, .int .i64 vw, .int .i64 vh, .bool von] ∧ wb.heap.size ≤ g ∧ Below wb.heap.size wb wx)
 case first =>
  refine wp_region_noPanic ?_
  refine wp_region_held_drew (S := fun wx => (wx.cell? ⟨w.heap.size, 0, none⟩ = some (.int .i64 R.x) ∧ wx.cell? ⟨w.heap.size, 1, none⟩ = some (.int .i64 R.y) ∧ wx.cell? ⟨w.heap.size, 2, none⟩ = some (.int .i64 R.w) ∧ wx.cell? ⟨w.heap.size, 3, none⟩ = some (.int .i64 R.h) ∧ wx.cell? ⟨w.heap.size, 4, none⟩ = some (.int .i64 R.last) ∧ wx.cell? ⟨w.heap.size, 5, none⟩ = some (.slice (some ⟨b, o, none⟩) n c)) ∧ wx.cell? ⟨b, o + k * 7, none⟩ = some (.int .i64 vid) ∧ wx.cell? ⟨b, o + k * 7 + 1, none⟩ = some (.int .i64 vpar) ∧ wx.cell? ⟨b, o + k * 7 + 2, none⟩ = some (.int .i64 vx) ∧ wx.cell? ⟨b, o + k * 7 + 3, none⟩ = some (.int .i64 vy) ∧ wx.cell? ⟨b, o + k * 7 + 4, none⟩ = some (.int .i64 vw) ∧ wx.cell? ⟨b, o + k * 7 + 5, none⟩ = some (.int .i64 vh) ∧ wx.cell? ⟨b, o + k * 7 + 6, none⟩ = some (.bool von)) (by kernel_rfl) (by exact HV.out _ H1.out.2.2.2.drew) (fun hHeld => ?_)
  refine tk 0 ?vp0 rfl ?yp0 ?rp0
  case yp0 => (intro q h; (try dsimp only at h); go_simp; (try with_reducible rfl))
  (try simp only [Act.put, p1, p3, p4, p5, p6])
  refine tk 1 ?vp1 rfl ?yp1 ?rp1
  case yp1 => (intro q h; (try dsimp only at h); go_simp; (try with_reducible rfl))
  (try simp only [Act.put, p1, p2, p3, p4, p5, p6])
  refine tk 2 ?vp2 rfl ?yp2 ?rp2
  case yp2 => (intro q h; (try dsimp only at h); go_simp; (try with_reducible rfl))
  (try simp only [Act.put, p1, p2, p3, p4, p5, p6])
  refine tk 3 ?vp3 rfl ?yp3 ?rp3
  case yp3 => (intro q h; (try dsimp only at h); go_simp; (try with_reducible rfl))
  (try simp only [Act.put, p1, p2, p3, p4, p5, p6])
  refine wpAnyH_ready (rs := [4, 7]) (by kernel_rfl) (by simp) ?_
  refine AllReadyH.cons rfl (fun K hK => ?_) (AllReadyH.cons rfl (fun K hK => ?_) AllReadyH.nil)
  · go_simp
    refine (HP.out _ H1.out.2.2.2.drew).mono ?_
    rintro ex w2 ⟨rfl, hb0⟩; have hb1 : Below w1.heap.size w1 w2 := ((Below.refl _ w1).drew).trans hb0; have hb2 := hb1.on H1.out.2.2.2 H1.out.2.2.2.size; clear hb0
    (try dsimp only)
    refine hK.out _ _ (by exact HV.out _ hb2) (fun hHeld => ?_)
    clear hK K
    (try simp only [Act.put, p1, p2, p3, p4, p5, p6])
    refine tk 5 ?vq5 rfl ?yq5 ?rq5
    case yq5 => (intro q h; (try dsimp only at h); go_simp; (try with_reducible rfl))
    (try simp only [Act.put, p1, p2, p3, p4, p5, p6])
    refine tk 6 ?vq6 rfl ?yq6 ?rq6
    case yq6 => (intro q h; (try dsimp only at h); go_simp; (try with_reducible rfl))
    (try simp only [Act.put, p1, p2, p3, p4, p5, p6])
    refine wpAnyH_ready (rs := [7]) (by kernel_rfl) (by simp) ?_
    refine AllReadyH.cons rfl (fun K hK => ?_) AllReadyH.nil
    go_simp
    have hB := Blk.new w2 61 #[.int .i64 0, .int .i64 0, .int .i64 0, .int .i64 0, .int .i64 0, .int .i64 0, .bool false]
    have hb3 := hb2.alloc hb2.size (.cells #[.int .i64 0, .int .i64 0, .int .i64 0, .int .i64 0, .int .i64 0, .int .i64 0, .bool false] 61)
    refine hK.out _ _ (by exact HV.out _ hb3) (fun hHeld => ?_)
    clear hK K
    (try simp only [Act.put, p1, p2, p3, p4, p5, p6])
    obtain ⟨⟨z0, z1, z2, z3, z4, z5, z6⟩, ⟨f0, f1, f2, f3, f4, f5, f6⟩⟩ := hB.c7
    refine wpAnyH_ready (rs := [8]) (by kernel_rfl) (by simp) ?_
    refine AllReadyH.cons rfl (fun K hK => ?_) AllReadyH.nil
    go_simp
    have hB4 := Blk.new w2 61 #[.int .i64 vid, .int .i64 vpar, .int .i64 vx, .int .i64 vy, .int .i64 vw, .int .i64 vh, .bool von]
    have hb4 := hb2.alloc hb2.size (.cells #[.int .i64 vid, .int .i64 vpar, .int .i64 vx, .int .i64 vy, .int .i64 vw, .int .i64 vh, .bool von] 61)
    refine hK.out _ _ (by exact HV.out _ hb4) (fun hHeld => ?_)
    clear hK K
    (try simp only [Act.put, p1, p2, p3, p4, p5, p6])
    refine wpAnyH_done (by kernel_rfl) ?_ _
    refine NoPanic.normal ?_
    go_wp2_with fail
    go_meet
    exact ⟨_, rfl, hB4, hb2.size, hb4⟩
  · go_simp
    have hb2 := H1.out.2.2.2.alloc H1.out.2.2.2.size (.cells #[.int .i64 0, .int .i64 0, .int .i64 0, .int .i64 0, .int .i64 0, .int .i64 0, .bool false] 61)
    have hB0 := Blk.new w1 61 #[.int .i64 0, .int .i64 0, .int .i64 0, .int .i64 0, .int .i64 0, .int .i64 0, .bool false]
    refine hK.out _ _ (by exact HV.out _ hb2.drew) (fun hHeld => ?_)
    clear hK K
    (try simp only [Act.put, p1, p2, p3, p4, p5, p6])
    refine wpAnyH_ready (rs := [4]) (by kernel_rfl) (by simp) ?_
    refine AllReadyH.cons rfl (fun K hK => ?_) AllReadyH.nil
    go_simp
    refine (HP.out _ hb2.drew).mono ?_
    rintro ex w2 ⟨rfl, hb0⟩; have hb3 := hb0.on hb2.drew hb2.size; have hB := hB0.drew.next hb0; clear hb0
    (try dsimp only)
    refine hK.out _ _ (by exact HV.out _ hb3) (fun hHeld => ?_)
    clear hK K
    (try simp only [Act.put, p1, p2, p3, p4, p5, p6])
    refine tk 5 ?vr5 rfl ?yr5 ?rr5
    case yr5 => (intro q h; (try dsimp only at h); go_simp; (try with_reducible rfl))
    (try simp only [Act.put, p1, p2, p3, p4, p5, p6])
    refine tk 6 ?vr6 rfl ?yr6 ?rr6
    case yr6 => (intro q h; (try dsimp only at h); go_simp; (try with_reducible rfl))
    (try simp only [Act.put, p1, p2, p3, p4, p5, p6])
    obtain ⟨⟨z0, z1, z2, z3, z4, z5, z6⟩, ⟨f0, f1, f2, f3, f4, f5, f6⟩⟩ := hB.c7
    refine wpAnyH_ready (rs := [8]) (by kernel_rfl) (by simp) ?_
    refine AllReadyH.cons rfl (fun K hK => ?_) AllReadyH.nil
    go_simp
    refine hK.out _ _ (by exact HV.out _ (set7 hb3 H1.out.2.2.2.size _ _ _ _ _ _ _)) (fun hHeld => ?_)
    clear hK K
    (try simp only [Act.put, p1, p2, p3, p4, p5, p6])
    refine wpAnyH_done (by kernel_rfl) ?_ _
    refine NoPanic.normal ?_
    go_wp2_with fail
    go_meet
    exact ⟨_, rfl, chain7 hB _ _ _ _ _ _ _, H1.out.2.2.2.size, set7 hb3 H1.out.2.2.2.size _ _ _ _ _ _ _⟩
 case rest =>
  obtain ⟨g, rfl, hB, hg, hbc⟩ := hcut
  have H3 := Lib.hid (H0.out.next hbc)
  have HSR := Lib.hid (fun W (hW : Below wc.heap.size wc W) => (show ((W.cell? ⟨w.heap.size, 0, none⟩ = some (.int .i64 R.x) ∧ W.cell? ⟨w.heap.size, 1, none⟩ = some (.int .i64 R.y) ∧ W.cell? ⟨w.heap.size, 2, none⟩ = some (.int .i64 R.w) ∧ W.cell? ⟨w.heap.size, 3, none⟩ = some (.int .i64 R.h) ∧ W.cell? ⟨w.heap.size, 4, none⟩ = some (.int .i64 R.last) ∧ W.cell? ⟨w.heap.size, 5, none⟩ = some (.slice (some ⟨b, o, none⟩) n c)) ∧ W.cell? ⟨g, 0, none⟩ = some (.int .i64 vid) ∧ W.cell? ⟨g, 1, none⟩ = some (.int .i64 vpar) ∧ W.cell? ⟨g, 2, none⟩ = some (.int .i64 vx) ∧ W.cell? ⟨g, 3, none⟩ = some (.int .i64 vy) ∧ W.cell? ⟨g, 4, none⟩ = some (.int .i64 vw) ∧ W.cell? ⟨g, 5, none⟩ = some (.int .i64 vh) ∧ W.cell? ⟨g, 6, none⟩ = some (.bool von)) from ⟨(H3.out.next hW).1.at6.1, (hB.next hW).c7.1⟩))
  have hne1 : w.heap.size ≠ w.heap.size + 1 + 1 := by omega
  have hne2 : g ≠ w.heap.size + 1 + 1 := fun e => by have := H0.out.2.2.1.lt; omega
  have HS6 := Lib.hid (fun W (hW : Below wc.heap.size wc W) (v0 v1 v2 v3 v4 v5 : Value) => (show (fun W => (W.cell? ⟨w.heap.size, 0, none⟩ = some (.int .i64 R.x) ∧ W.cell? ⟨w.heap.size, 1, none⟩ = some (.int .i64 R.y) ∧ W.cell? ⟨w.heap.size, 2, none⟩ = some (.int .i64 R.w) ∧ W.cell? ⟨w.heap.size, 3, none⟩ = some (.int .i64 R.h) ∧ W.cell? ⟨w.heap.size, 4, none⟩ = some (.int .i64 R.last) ∧ W.cell? ⟨w.heap.size, 5, none⟩ = some (.slice (some ⟨b, o, none⟩) n c)) ∧ W.cell? ⟨g, 0, none⟩ = some (.int .i64 vid) ∧ W.cell? ⟨g, 1, none⟩ = some (.int .i64 vpar) ∧ W.cell? ⟨g, 2, none⟩ = some (.int .i64 vx) ∧ W.cell? ⟨g, 3, none⟩ = some (.int .i64 vy) ∧ W.cell? ⟨g, 4, none⟩ = some (.int .i64 vw) ∧ W.cell? ⟨g, 5, none⟩ = some (.int .i64 vh) ∧ W.cell? ⟨g, 6, none⟩ = some (.bool von)) ((((((W.setCell ⟨w.heap.size + 1 + 1, 0, none⟩ v0).setCell ⟨w.heap.size + 1 + 1, 1, none⟩ v1).setCell ⟨w.heap.size + 1 + 1, 2, none⟩ v2).setCell ⟨w.heap.size + 1 + 1, 3, none⟩ v3).setCell ⟨w.heap.size + 1 + 1, 4, none⟩ v4).setCell ⟨w.heap.size + 1 + 1, 5, none⟩ v5) from by
    have hh := HSR.out W hW
    dsimp only
    rw [cell6 hne1, cell6 hne1, cell6 hne1, cell6 hne1, cell6 hne1, cell6 hne1, cell6 hne2, cell6 hne2, cell6 hne2, cell6 hne2, cell6 hne2, cell6 hne2, cell6 hne2]
    exact hh))
  have HFC := Lib.hid (fun W (hW : Below wc.heap.size wc W) => HF.out W (hW.on hbc hbc.size))
  have HWI := Lib.hid (fun W (hW : Below wc.heap.size wc W) => without_c (R := R) (HFC.out W hW).rd HL.out i)
  have HDL := Lib.hid (show (dropL i L).length ≤ 1048576 from by
    have h1 := dropL_len i L L.length
    rw [List.take_length] at h1
    have := HL.out; omega)
  obtain ⟨x0, x1, x2, x3, x4, x5⟩ := H3.out.1.at6.1
  have HBC := Lib.hid hbc
  have HBB := Lib.hid hB
  clear hbc hB hne1 hne2
  go_wp2_with fail
  refine wp_region_noPanic ?_
  refine wp_region_held_drew (S := fun wx => (wx.cell? ⟨w.heap.size, 0, none⟩ = some (.int .i64 R.x) ∧ wx.cell? ⟨w.heap.size, 1, none⟩ = some (.int .i64 R.y) ∧ wx.cell? ⟨w.heap.size, 2, none⟩ = some (.int .i64 R.w) ∧ wx.cell? ⟨w.heap.size, 3, none⟩ = some (.int .i64 R.h) ∧ wx.cell? ⟨w.heap.size, 4, none⟩ = some (.int .i64 R.last) ∧ wx.cell? ⟨w.heap.size, 5, none⟩ = some (.slice (some ⟨b, o, none⟩) n c)) ∧ wx.cell? ⟨g, 0, none⟩ = some (.int .i64 vid) ∧ wx.cell? ⟨g, 1, none⟩ = some (.int .i64 vpar) ∧ wx.cell? ⟨g, 2, none⟩ = some (.int .i64 vx) ∧ wx.cell? ⟨g, 3, none⟩ = some (.int .i64 vy) ∧ wx.cell? ⟨g, 4, none⟩ = some (.int .i64 vw) ∧ wx.cell? ⟨g, 5, none⟩ = some (.int .i64 vh) ∧ wx.cell? ⟨g, 6, none⟩ = some (.bool von)) (by kernel_rfl) (by exact HSR.out _ (Below.refl _ _).drew) (fun hHeld => ?_)
  refine tk 0 ?vs0 rfl ?ys0 ?rs0
  case ys0 => (intro q h; (try dsimp only at h); go_simp; (try with_reducible rfl))
  (try simp only [Act.put, p1, p3, p4, p5, p6])
  refine tk 1 ?vs1 rfl ?ys1 ?rs1
  case ys1 => (intro q h; (try dsimp only at h); go_simp; (try with_reducible rfl))
  (try simp only [Act.put, p1, p2, p3, p4, p5, p6])
  refine tk 3 ?vs3 rfl ?ys3 ?rs3
  case ys3 => (intro q h; (try dsimp only at h); go_simp; (try with_reducible rfl))
  (try simp only [Act.put, p1, p2, p3, p4, p5, p6])
  refine tk 4 ?vs4 rfl ?ys4 ?rs4
  case ys4 => (intro q h; (try dsimp only at h); go_simp; (try with_reducible rfl))
  (try simp only [Act.put, p1, p2, p3, p4, p5, p6])
  refine wpAnyH_ready (rs := [2, 5]) (by kernel_rfl) (by simp) ?_
  refine AllReadyH.cons rfl (fun K hK => ?_) (AllReadyH.cons rfl (fun K hK => ?_) AllReadyH.nil)
  · go_simp
    have b5 := (Below.refl wc.heap.size wc).alloc (Nat.le_refl _) (.cells #[.int .i64 vid, .int .i64 vpar, .int .i64 vx, .int .i64 vy, .int .i64 vw, .int .i64 vh, .bool von] 61)
    have o5 := own_one (v := ⟨vid, vpar, vx, vy, vw, vh, von⟩) (Blk.new wc 61 #[.int .i64 vid, .int .i64 vpar, .int .i64 vx, .int .i64 vy, .int .i64 vw, .int .i64 vh, .bool von])
    refine hK.out _ _ (by exact HSR.out _ b5.drew) (fun hHeld => ?_)
    clear hK K
    (try simp only [Act.put, p1, p2, p3, p4, p5, p6])
    refine wpAnyH_ready (rs := [5]) (by kernel_rfl) (by simp) ?_
    refine AllReadyH.cons rfl (fun K hK => ?_) AllReadyH.nil
    go_simp
    refine (HWI.out _ b5.drew).mono ?_
    rintro ex w6 ⟨v5, rfl, ho6, hb0⟩; have b6 : Below wc.heap.size wc w6 := hb0.on b5.drew b5.size; have o6 := OwK.below (World.ownsRow.drew o5) hb0; have v6 := OwK.less ho6 (show wc.heap.size ≤ _ from b5.size); clear hb0
    (try dsimp only)
    refine hK.out _ _ (by exact HSR.out _ b6) (fun hHeld => ?_)
    clear hK K
    (try simp only [Act.put, p1, p2, p3, p4, p5, p6])
    refine wpAnyH_ready (rs := [6]) (by kernel_rfl) (by simp) ?_
    refine AllReadyH.cons rfl (fun K hK => ?_) AllReadyH.nil
    refine step_app rfl (.tmp 41) (.tmp 44) 52 rfl wc.heap.size 61 i0 (.agg #[.int .i64 0, .int .i64 0, .int .i64 0, .int .i64 0, .int .i64 0, .int .i64 0, .bool false]) 7 56 Tryz.underlying52 hi0 hz0 hz1 hz2 rfl (by decide) _ _ _ (by rfl) o6 _ _ _ _ (by rfl) v6 (flatW_one _) (by unfold maxLen; have := HDL.out; simp; omega) (by have := HDL.out; simp; omega) b6.size ?_
    intro v7 w7 ho7 hg7
    have of7 := OwK.app (L := [⟨vid, vpar, vx, vy, vw, vh, von⟩]) (M := dropL i L) ho7
    obtain ⟨p7, m7, c7, rfl⟩ := own_sl of7
    have OF := Lib.hid of7
    have b7 := below_only b6 hg7 b6.size (fun k hk => (World.ownsRow.lt o6 k hk).1)
    have B7 := Lib.hid b7
    refine hK.out _ _ (by exact HSR.out _ b7) (fun hHeld => ?_)
    clear hK K
    (try simp only [Act.put, p1, p2, p3, p4, p5, p6])
    clear b7 ho7 hg7 of7
    refine wpAnyH_ready (rs := [7]) (by kernel_rfl) (by simp) ?_
    refine AllReadyH.cons rfl (fun K hK => ?_) AllReadyH.nil
    go_simp
    refine (with_c R _ _ _ _ _ _ w7).mono ?_
    rintro ex w8 ⟨rfl, hb8⟩; have H8 := Lib.hid ((H3.out.next B7.out).next hb8); have B8 := Lib.hid (hb8.on B7.out B7.out.size); have OF8 := Lib.hid (OwK.below OF.out hb8); clear hb8
    (try dsimp only)
    refine hK.out _ _ (by exact HSR.out _ B8.out) (fun hHeld => ?_)
    clear hK K
    (try simp only [Act.put, p1, p2, p3, p4, p5, p6])
    obtain ⟨⟨z0, z1, z2, z3, z4, z5⟩, ⟨f0, f1, f2, f3, f4, f5⟩⟩ := H8.out.2.2.1.at6
    refine wpAnyH_ready (rs := [8]) (by kernel_rfl) (by simp) ?_
    refine AllReadyH.cons rfl (fun K hK => ?_) AllReadyH.nil
    go_simp
    refine hK.out _ _ (by exact HS6.out _ B8.out _ _ _ _ _ _) (fun hHeld => ?_)
    clear hK K
    (try simp only [Act.put, p1, p2, p3, p4, p5, p6])
    refine tk 9 ?vt9 rfl ?yt9 ?rt9
    case yt9 => (intro q h; (try dsimp only at h); go_simp; (try with_reducible rfl))
    (try simp only [Act.put, p1, p2, p3, p4, p5, p6])
    refine wpAnyH_done (by kernel_rfl) ?_ _
    refine NoPanic.normal ?_
    go_wp2_with fail
    refine bodyPost_ret (v := .tuple #[refV R (.slice p7 m7 c7), .int .i64 0]) (by simp [results, Tryz.results117, go_sem, z0, z1, z2, z3, z4, z5]) rfl ?_
    have hb := set6 (H8.out.2.2.2.on HB.out HB.out.size) (g := w.heap.size + 1 + 1) (by omega) (.int .i64 R.x) (.int .i64 R.y) (.int .i64 R.w) (.int .i64 R.h) (.int .i64 R.last) (.slice p7 m7 c7)
    exact ⟨_, rfl, row6 (OwK.less OF8.out (Nat.zero_le _)) H8.out.2.2.1 (fun k hk => by have h1 := (World.ownsRow.lt OF8.out k hk).1; have h2 := H3.out.2.2.1.lt; omega) _ _ _ _ _ _, hb⟩
  · go_simp
    refine (HWI.out _ (Below.refl _ wc).drew).mono ?_
    rintro ex w5 ⟨v5, rfl, ho5, hb0⟩; have b5 : Below wc.heap.size wc w5 := ((Below.refl _ wc).drew).trans hb0; clear hb0
    (try dsimp only)
    refine hK.out _ _ (by exact HSR.out _ b5) (fun hHeld => ?_)
    clear hK K
    (try simp only [Act.put, p1, p2, p3, p4, p5, p6])
    refine wpAnyH_ready (rs := [2]) (by kernel_rfl) (by simp) ?_
    refine AllReadyH.cons rfl (fun K hK => ?_) AllReadyH.nil
    go_simp
    have b6 := b5.alloc b5.size (.cells #[.int .i64 vid, .int .i64 vpar, .int .i64 vx, .int .i64 vy, .int .i64 vw, .int .i64 vh, .bool von] 61)
    have o6 := OwK.less (own_one (v := ⟨vid, vpar, vx, vy, vw, vh, von⟩) (Blk.new w5 61 #[.int .i64 vid, .int .i64 vpar, .int .i64 vx, .int .i64 vy, .int .i64 vw, .int .i64 vh, .bool von])) b5.size
    have v6 := World.ownsRow.alloc (OwK.less ho5 (Nat.le_refl wc.heap.size)) (.cells #[.int .i64 vid, .int .i64 vpar, .int .i64 vx, .int .i64 vy, .int .i64 vw, .int .i64 vh, .bool von] 61)
    refine hK.out _ _ (by exact HSR.out _ b6) (fun hHeld => ?_)
    clear hK K
    (try simp only [Act.put, p1, p2, p3, p4, p5, p6])
    refine wpAnyH_ready (rs := [6]) (by kernel_rfl) (by simp) ?_
    refine AllReadyH.cons rfl (fun K hK => ?_) AllReadyH.nil
    refine step_app rfl (.tmp 41) (.tmp 44) 52 rfl wc.heap.size 61 i0 (.agg #[.int .i64 0, .int .i64 0, .int .i64 0, .int .i64 0, .int .i64 0, .int .i64 0, .bool false]) 7 56 Tryz.underlying52 hi0 hz0 hz1 hz2 rfl (by decide) _ _ _ (by rfl) o6 _ _ _ _ (by rfl) v6 (flatW_one _) (by unfold maxLen; have := HDL.out; simp; omega) (by have := HDL.out; simp; omega) b6.size ?_
    intro v7 w7 ho7 hg7
    have of7 := OwK.app (L := [⟨vid, vpar, vx, vy, vw, vh, von⟩]) (M := dropL i L) ho7
    obtain ⟨p7, m7, c7, rfl⟩ := own_sl of7
    have OF := Lib.hid of7
    have b7 := below_only b6 hg7 b6.size (fun k hk => (World.ownsRow.lt o6 k hk).1)
    have B7 := Lib.hid b7
    refine hK.out _ _ (by exact HSR.out _ b7) (fun hHeld => ?_)
    clear hK K
    (try simp only [Act.put, p1, p2, p3, p4, p5, p6])
    clear b7 ho7 hg7 of7
    refine wpAnyH_ready (rs := [7]) (by kernel_rfl) (by simp) ?_
    refine AllReadyH.cons rfl (fun K hK => ?_) AllReadyH.nil
    go_simp
    refine (with_c R _ _ _ _ _ _ w7).mono ?_
    rintro ex w8 ⟨rfl, hb8⟩; have H8 := Lib.hid ((H3.out.next B7.out).next hb8); have B8 := Lib.hid (hb8.on B7.out B7.out.size); have OF8 := Lib.hid (OwK.below OF.out hb8); clear hb8
    (try dsimp only)
    refine hK.out _ _ (by exact HSR.out _ B8.out) (fun hHeld => ?_)
    clear hK K
    (try simp only [Act.put, p1, p2, p3, p4, p5, p6])
    obtain ⟨⟨z0, z1, z2, z3, z4, z5⟩, ⟨f0, f1, f2, f3, f4, f5⟩⟩ := H8.out.2.2.1.at6
    refine wpAnyH_ready (rs := [8]) (by kernel_rfl) (by simp) ?_
    refine AllReadyH.cons rfl (fun K hK => ?_) AllReadyH.nil
    go_simp
    refine hK.out _ _ (by exact HS6.out _ B8.out _ _ _ _ _ _) (fun hHeld => ?_)
    clear hK K
    (try simp only [Act.put, p1, p2, p3, p4, p5, p6])
    refine tk 9 ?vu9 rfl ?yu9 ?ru9
    case yu9 => (intro q h; (try dsimp only at h); go_simp; (try with_reducible rfl))
    (try simp only [Act.put, p1, p2, p3, p4, p5, p6])
    refine wpAnyH_done (by kernel_rfl) ?_ _
    refine NoPanic.normal ?_
    go_wp2_with fail
    refine bodyPost_ret (v := .tuple #[refV R (.slice p7 m7 c7), .int .i64 0]) (by simp [results, Tryz.results117, go_sem, z0, z1, z2, z3, z4, z5]) rfl ?_
    have hb := set6 (H8.out.2.2.2.on HB.out HB.out.size) (g := w.heap.size + 1 + 1) (by omega) (.int .i64 R.x) (.int .i64 R.y) (.int .i64 R.w) (.int .i64 R.h) (.int .i64 R.last) (.slice p7 m7 c7)
    exact ⟨_, rfl, row6 (OwK.less OF8.out (Nat.zero_le _)) H8.out.2.2.1 (fun k hk => by have h1 := (World.ownsRow.lt OF8.out k hk).1; have h2 := H3.out.2.2.1.lt; omega) _ _ _ _ _ _, hb⟩
end
end Go.Proofs.YtnhchpiafchdgaaGreat
end
