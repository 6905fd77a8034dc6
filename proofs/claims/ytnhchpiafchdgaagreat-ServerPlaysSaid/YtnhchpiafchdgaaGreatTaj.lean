/- Texts Sas. -/
import Derived.Test.YtnhchpiafchdgaaGreatTah
import Derived.Test.YtnhchpiafchdgaaGreatTaa
section
namespace Go.Proofs.YtnhchpiafchdgaaGreat
open Go.RowKit Go.Shelf Go.Maps
theorem flatW_set (rs : List Win) (j : Nat) (r : Win) (hj : j < rs.length) :
  (((((((rs.flatMap encW).set (j * 7) (.int .i64 r.id)).set (j * 7 + 1) (.int .i64 r.par)).set (j * 7 + 2) (.int .i64 r.x)).set (j * 7 + 3) (.int .i64 r.y)).set (j * 7 + 4) (.int .i64 r.w)).set (j * 7 + 5) (.int .i64 r.h)).set (j * 7 + 6) (.bool r.on) = (rs.set j r).flatMap encW := by
 induction rs generalizing j with
 | nil => simp at hj
 | cons a t ih =>
  cases j with
  | zero => simp [List.flatMap_cons, encW]
  | succ j =>
   have h := ih j (by simpa using hj)
   rw [List.set_cons_succ, List.flatMap_cons, List.flatMap_cons, ← h]
   have e : ∀ (l : List Value) (m : Nat) (u : Value), (encW a ++ l).set (7 + m) u = encW a ++ l.set m u := fun l m u => by
    rw [List.set_append_right _ _ (by rw [encW_len]; omega), encW_len]; congr 2; omega
   rw [show (j + 1) * 7 = 7 + j * 7 by omega, e, show 7 + j * 7 + 1 = 7 + (j * 7 + 1) by omega, e, show 7 + j * 7 + 2 = 7 + (j * 7 + 2) by omega, e, show 7 + j * 7 + 3 = 7 + (j * 7 + 3) by omega, e, show 7 + j * 7 + 4 = 7 + (j * 7 + 4) by omega, e, show 7 + j * 7 + 5 = 7 + (j * 7 + 5) by omega, e, show 7 + j * 7 + 6 = 7 + (j * 7 + 6) by omega, e]
theorem OwK.win_set {w : World} {base g cap : Nat} {rs : List Win} {j : Nat} (r : Win) (hj : j < rs.length) (h : OwK encW 61 7 w base (.slice (some ⟨g, 0, none⟩) rs.length cap) rs) :
  OwK encW 61 7 (((((((w.setCell ⟨g, j * 7, none⟩ (.int .i64 r.id)).setCell ⟨g, j * 7 + 1, none⟩ (.int .i64 r.par)).setCell ⟨g, j * 7 + 2, none⟩ (.int .i64 r.x)).setCell ⟨g, j * 7 + 3, none⟩ (.int .i64 r.y)).setCell ⟨g, j * 7 + 4, none⟩ (.int .i64 r.w)).setCell ⟨g, j * 7 + 5, none⟩ (.int .i64 r.h)).setCell ⟨g, j * 7 + 6, none⟩ (.bool r.on)) base (.slice (some ⟨g, 0, none⟩) rs.length cap) (rs.set j r) := by
 obtain ⟨h1, -⟩ := World.ownsRow.stored h (j * 7) (.int .i64 r.id)
 obtain ⟨h2, -⟩ := World.ownsRow.stored h1 (j * 7 + 1) (.int .i64 r.par)
 obtain ⟨h3, -⟩ := World.ownsRow.stored h2 (j * 7 + 2) (.int .i64 r.x)
 obtain ⟨h4, -⟩ := World.ownsRow.stored h3 (j * 7 + 3) (.int .i64 r.y)
 obtain ⟨h5, -⟩ := World.ownsRow.stored h4 (j * 7 + 4) (.int .i64 r.w)
 obtain ⟨h6, -⟩ := World.ownsRow.stored h5 (j * 7 + 5) (.int .i64 r.h)
 obtain ⟨h7, -⟩ := World.ownsRow.stored h6 (j * 7 + 6) (.bool r.on)
 unfold OwK
 rw [List.length_set, ← flatW_set rs j r hj]
 exact h7
theorem set7k {B g k : Nat} {a w : World} (h : Below B a w) (hg : B ≤ g) (v0 v1 v2 v3 v4 v5 v6 : Value) : Below B a (((((((w.setCell ⟨g, k * 7, none⟩ v0).setCell ⟨g, k * 7 + 1, none⟩ v1).setCell ⟨g, k * 7 + 2, none⟩ v2).setCell ⟨g, k * 7 + 3, none⟩ v3).setCell ⟨g, k * 7 + 4, none⟩ v4).setCell ⟨g, k * 7 + 5, none⟩ v5).setCell ⟨g, k * 7 + 6, none⟩ v6) :=
 ((((((h.setCell hg _).setCell hg _).setCell hg _).setCell hg _).setCell hg _).setCell hg _).setCell hg _
theorem win_cells {w : World} {B g cap k : Nat} {L : List Win} {v : Win} (h : OwK encW 61 7 w B (.slice (some ⟨g, 0, none⟩) L.length cap) L) (hv : L[k]? = some v) :
  w.cell? ⟨g, k * 7, none⟩ = some (.int .i64 v.id) ∧ w.cell? ⟨g, k * 7 + 1, none⟩ = some (.int .i64 v.par) ∧ w.cell? ⟨g, k * 7 + 2, none⟩ = some (.int .i64 v.x) ∧ w.cell? ⟨g, k * 7 + 3, none⟩ = some (.int .i64 v.y) ∧ w.cell? ⟨g, k * 7 + 4, none⟩ = some (.int .i64 v.w) ∧ w.cell? ⟨g, k * 7 + 5, none⟩ = some (.int .i64 v.h) ∧ w.cell? ⟨g, k * 7 + 6, none⟩ = some (.bool v.on) ∧
   w.frozen? ⟨g, k * 7, none⟩ = false ∧ w.frozen? ⟨g, k * 7 + 1, none⟩ = false ∧ w.frozen? ⟨g, k * 7 + 2, none⟩ = false ∧ w.frozen? ⟨g, k * 7 + 3, none⟩ = false ∧ w.frozen? ⟨g, k * 7 + 4, none⟩ = false ∧ w.frozen? ⟨g, k * 7 + 5, none⟩ = false ∧ w.frozen? ⟨g, k * 7 + 6, none⟩ = false := by
 obtain ⟨g', cap', e, -, -, hc, hf⟩ := OwK.form encW_len h (fun h => by rw [h] at hv; simp at hv)
 injection e with e1 _ _
 injection e1 with e1
 injection e1 with e1 _ _
 subst e1
 exact ⟨hc k v 0 _ hv rfl, hc k v 1 _ hv rfl, hc k v 2 _ hv rfl, hc k v 3 _ hv rfl, hc k v 4 _ hv rfl, hc k v 5 _ hv rfl, hc k v 6 _ hv rfl, hf _, hf _, hf _, hf _, hf _, hf _, hf _⟩
section
variable {w : World} {R : RT} {sv : Value} {L : List Win}
set_option maxRecDepth 100000 in
set_option maxHeartbeats 600000 in
theorem rchange_wrong (h : RO w sv L) (hL : L.length ≤ 1048570) {i x y a e : Int} {k : Nat} {v : Win} (hk : placeN i L = some k) (hv : L[k]? = some v) (hi : i ≠ 0) (hq : rightB x y a e = false) :
  Calls Tryz.prog 117 #[refV R sv, .int .i64 0, .int .i64 i, .agg #[.int .i64 x, .int .i64 y, .int .i64 a, .int .i64 e]] w fun ex w' => ChR w R L 10 ex w' := by
 have hL := Nat.le_trans hL (show 1048570 ≤ 1048576 by decide)
 obtain ⟨wb, hwb⟩ : ∃ wb, wb = ((w.alloc (.cells (refA R sv) 54)).alloc (.cells #[.int .i64 x, .int .i64 y, .int .i64 a, .int .i64 e] 23)).alloc (.cells zeroT 54) := ⟨_, rfl⟩
 have hbel : Below w.heap.size w wb := by rw [hwb]; exact (((Below.refl _ _).alloc (Nat.le_refl _) _).alloc (by simp) _).alloc (by simp; omega) _
 have hbx : CbX R sv x y a e w.heap.size wb wb := by
  refine ⟨by rw [hwb]; exact ((Blk.new w _ _).alloc _).alloc _, ?_, ?_, Below.refl _ _⟩
  · rw [hwb]
    have := (Blk.new (w.alloc (.cells (refA R sv) 54)) 23 #[.int .i64 x, .int .i64 y, .int .i64 a, .int .i64 e]).alloc (.cells zeroT 54)
    rwa [World.size_alloc] at this
  · rw [hwb]
    have := Blk.new ((w.alloc (.cells (refA R sv) 54)).alloc (.cells #[.int .i64 x, .int .i64 y, .int .i64 a, .int .i64 e] 23)) 54 zeroT
    rwa [World.size_alloc, World.size_alloc] at this
 obtain ⟨p, c, hsv⟩ := OwK.slice h
 obtain ⟨n, hn⟩ : ∃ n, n = L.length := ⟨_, rfl⟩
 rw [← hn] at hsv
 subst hsv
 have HF := Lib.hid (fun W (hW : Below wb.heap.size wb W) => (show RO W (.slice p n c) L from OwK.below (OwK.below h hbel) hW))
 have HO := Lib.hid h
 have HN := Lib.hid hn
 have HL := Lib.hid hL
 obtain ⟨⟨x0, x1, x2, x3, x4, x5⟩, -⟩ := hbx.1.at6
 have H0 := Lib.hid hbx
 have HB := Lib.hid hbel
 have HW := Lib.hid hwb
 have hn0 : (n : Int) ≤ 1048576 := by omega
 obtain ⟨i0, hi0, hz0, hz1, hz2⟩ := info_parts winInfo
 have HQ := Lib.hid (fun W => (show Calls Tryz.prog 35 #[.agg #[.int .i64 x, .int .i64 y, .int .i64 a, .int .i64 e]] W fun ex w' => ex = .returned (.bool false) ∧ Below W.heap.size W w' from by rw [← hq]; exact rright_c _ _ _ _ W))
 clear hq
 have hvv := placeN_get L k hk
 obtain ⟨v', hv', hvi, hkl⟩ := hvv
 obtain rfl : v' = v := by rw [hv] at hv'; injection hv' with h1; exact h1.symm
 have hask : askL L i = 0 := by
  have h1 : isL L i = true := by unfold isL; rw [hk]; simp
  unfold askL; rw [if_neg (by rw [h1]; simp), if_neg hi]
 have HA := Lib.hid (show Calls Tryz.prog 83 #[refV R (.slice p n c), .int .i64 i] wb fun ex w' => ex = .returned (.int .i64 0) ∧ Below wb.heap.size wb w' from by rw [← hask]; exact asked_c (R := R) (HF.out wb (Below.refl _ _)).rd hL i)
 have HP := Lib.hid (fun W (hW : Below wb.heap.size wb W) => (show Calls Tryz.prog 64 #[refV R (.slice p n c), .int .i64 i] W fun ex w' => ex = .returned (.int .i64 (k : Int)) ∧ Below W.heap.size W w' from by
  have h1 := place_c (R := R) (HF.out W hW).rd hL i
  rw [hk] at h1; exact h1))
 have hcell : ∃ b o, p = some ⟨b, o, none⟩ ∧ b < wb.heap.size ∧ ∀ (i : Nat) (u : Value), (encW v')[i]? = some u → wb.cell? ⟨b, o + k * 7 + i, none⟩ = some u := by
  obtain ⟨p0, c0, e0, hcell⟩ := (HF.out wb (Below.refl _ _)).rd
  injection e0 with e0 _ _
  subst e0
  exact hcell k v' hv
 obtain ⟨b, o, hpb, hb1, hb2⟩ := hcell
 have HPB := Lib.hid hpb
 clear hpb
 obtain ⟨vid, vpar, vx, vy, vw, vh, von⟩ := v'
 have HV := Lib.hid (fun W (hW : Below wb.heap.size wb W) => (show ((W.cell? ⟨w.heap.size, 0, none⟩ = some (.int .i64 R.x) ∧ W.cell? ⟨w.heap.size, 1, none⟩ = some (.int .i64 R.y) ∧ W.cell? ⟨w.heap.size, 2, none⟩ = some (.int .i64 R.w) ∧ W.cell? ⟨w.heap.size, 3, none⟩ = some (.int .i64 R.h) ∧ W.cell? ⟨w.heap.size, 4, none⟩ = some (.int .i64 R.last) ∧ W.cell? ⟨w.heap.size, 5, none⟩ = some (.slice p n c)) ∧ W.cell? ⟨b, o + k * 7, none⟩ = some (.int .i64 vid) ∧ W.cell? ⟨b, o + k * 7 + 1, none⟩ = some (.int .i64 vpar) ∧ W.cell? ⟨b, o + k * 7 + 2, none⟩ = some (.int .i64 vx) ∧ W.cell? ⟨b, o + k * 7 + 3, none⟩ = some (.int .i64 vy) ∧ W.cell? ⟨b, o + k * 7 + 4, none⟩ = some (.int .i64 vw) ∧ W.cell? ⟨b, o + k * 7 + 5, none⟩ = some (.int .i64 vh) ∧ W.cell? ⟨b, o + k * 7 + 6, none⟩ = some (.bool von)) from by
  have hx := (H0.out.next hW).1.at6.1
  have hr := RW.cells (w := W) (v := ⟨vid, vpar, vx, vy, vw, vh, von⟩) (fun i u hu => (hW.cell (p := ⟨b, o + k * 7 + i, none⟩) hb1).trans (hb2 i u hu))
  exact ⟨hx, hr⟩))
 have hk0 : (0 : Int) ≤ (k : Int) := by omega
 have hk1 : (k : Int) < (n : Int) := by omega
 have HI := Lib.hid hi
 have HKP := Lib.hid hk
 have HVV := Lib.hid hv
 clear h hbel hbx hn hask hb1 hb2 hv hv' hk hi hvi
 go_enter Tryz.func117, Tryz.ntmps117
 go_upto_region 1 with fail
 rw [← HW.out]
 clear hwb
 have hpb := HPB.out
 clear HPB
 subst hpb
 go_upto_region 3 with (go_at_call 83; ((with_reducible refine (HA.out).mono ?_); rintro ex w1 ⟨rfl, hb⟩); have H1 := Lib.hid (H0.out.next hb); obtain ⟨⟨x0, x1, x2, x3, x4, x5⟩, -⟩ := H1.out.1.at6; clear hb)
 go_cut [10] (fun s10 wx => ∃ g, s10 = .pointer (some ⟨g, 0, none⟩) ∧ Blk wx g 61 #[.int .i64 vid, .int .i64 vpar, .int .i64 vx, .int .i64 vy, .int .i64 vw, .int .i64 vh, .bool von] ∧ wb.heap.size ≤ g ∧ Below wb.heap.size wb wx)
 case first =>
  refine wp_region_noPanic ?_
  refine wp_region_held_drew (S := fun wx => (wx.cell? ⟨w.heap.size, 0, none⟩ = some (.int .i64 R.x) ∧ wx.cell? ⟨w.heap.size, 1, none⟩ = some (.int .i64 R.y) ∧ wx.cell? ⟨w.heap.size, 2, none⟩ = some (.int .i64 R.w) ∧ wx.cell? ⟨w.heap.size, 3, none⟩ = some (.int .i64 R.h) ∧ wx.cell? ⟨w.heap.size, 4, none⟩ = some (.int .i64 R.last) ∧ wx.cell? ⟨w.heap.size, 5, none⟩ = some (.slice (some ⟨b, o, none⟩) n c)) ∧ wx.cell? ⟨b, o + k * 7, none⟩ = some (.int .i64 vid) ∧ wx.cell? ⟨b, o + k * 7 + 1, none⟩ = some (.int .i64 vpar) ∧ wx.cell? ⟨b, o + k * 7 + 2, none⟩ = some (.int .i64 vx) ∧ wx.cell? ⟨b, o + k * 7 + 3, none⟩ = some (.int .i64 vy) ∧ wx.cell? ⟨b, o + k * 7 + 4, none⟩ = some (.int .i64 vw) ∧ wx.cell? ⟨b, o + k * 7 + 5, none⟩ = some (.int .i64 vh) ∧ wx.cell? ⟨b, o + k * 7 + 6, none⟩ = some (.bool von)) (by kernel_rfl) (by exact HV.out _ H1.out.2.2.2.drew) (fun hHeld => ?_)
  refine tk 0 ?vp0 rfl ?yp0 ?rp0
  case yp0 => (intro q h; (try dsimp only at h); go_simp; (try with_reducible rfl))
  (try simp only [Act.put, p1, p3, p4, p5, p6])
  refine tk 1 ?vp1 rfl ?yp1 ?rp1
  case yp1 => (intro q h; (try dsimp only at h); go_simp; (try with_reducible rfl))
  (try simp only [Act.put, p1, p2, p3, p4, p5, p6])
  refine tk 2 ?vp2 rfl ?yp2 ?rp2
  case yp2 => (intro q h; (try dsimp only at h); go_simp; (try with_reducible rfl))
  (try simp only [Act.put, p1, p2, p3, p4, p5, p6])
  refine tk 3 ?vp3 rfl ?yp3 ?rp3
  case yp3 => (intro q h; (try dsimp only at h); go_simp; (try with_reducible rfl))
  (try simp only [Act.put, p1, p2, p3, p4, p5, p6])
  refine wpAnyH_ready (rs := [4, 7]) (by kernel_rfl) (by simp) ?_
  refine AllReadyH.cons rfl (fun K hK => ?_) (AllReadyH.cons rfl (fun K hK => ?_) AllReadyH.nil)
  · go_simp
    refine (HP.out _ H1.out.2.2.2.drew).mono ?_
    rintro ex w2 ⟨rfl, hb0⟩; have hb1 : Below w1.heap.size w1 w2 := ((Below.refl _ w1).drew).trans hb0; have hb2 := hb1.on H1.out.2.2.2 H1.out.2.2.2.size; clear hb0
    (try dsimp only)
    refine hK.out _ _ (by exact HV.out _ hb2) (fun hHeld => ?_)
    clear hK K
    (try simp only [Act.put, p1, p2, p3, p4, p5, p6])
    refine tk 5 ?vq5 rfl ?yq5 ?rq5
    case yq5 => (intro q h; (try dsimp only at h); go_simp; (try with_reducible rfl))
    (try simp only [Act.put, p1, p2, p3, p4, p5, p6])
    refine tk 6 ?vq6 rfl ?yq6 ?rq6
    case yq6 => (intro q h; (try dsimp only at h); go_simp; (try with_reducible rfl))
    (try simp only [Act.put, p1, p2, p3, p4, p5, p6])
    refine wpAnyH_ready (rs := [7]) (by kernel_rfl) (by simp) ?_
    refine AllReadyH.cons rfl (fun K hK => ?_) AllReadyH.nil
    go_simp
    have hB := Blk.new w2 61 #[.int .i64 0, .int .i64 0, .int .i64 0, .int .i64 0, .int .i64 0, .int .i64 0, .bool false]
    have hb3 := hb2.alloc hb2.size (.cells #[.int .i64 0, .int .i64 0, .int .i64 0, .int .i64 0, .int .i64 0, .int .i64 0, .bool false] 61)
    refine hK.out _ _ (by exact HV.out _ hb3) (fun hHeld => ?_)
    clear hK K
    (try simp only [Act.put, p1, p2, p3, p4, p5, p6])
    obtain ⟨⟨z0, z1, z2, z3, z4, z5, z6⟩, ⟨f0, f1, f2, f3, f4, f5, f6⟩⟩ := hB.c7
    refine wpAnyH_ready (rs := [8]) (by kernel_rfl) (by simp) ?_
    refine AllReadyH.cons rfl (fun K hK => ?_) AllReadyH.nil
    go_simp
    have hB4 := Blk.new w2 61 #[.int .i64 vid, .int .i64 vpar, .int .i64 vx, .int .i64 vy, .int .i64 vw, .int .i64 vh, .bool von]
    have hb4 := hb2.alloc hb2.size (.cells #[.int .i64 vid, .int .i64 vpar, .int .i64 vx, .int .i64 vy, .int .i64 vw, .int .i64 vh, .bool von] 61)
    refine hK.out _ _ (by exact HV.out _ hb4) (fun hHeld => ?_)
    clear hK K
    (try simp only [Act.put, p1, p2, p3, p4, p5, p6])
    refine wpAnyH_done (by kernel_rfl) ?_ _
    refine NoPanic.normal ?_
    go_wp2_with fail
    go_meet
    exact ⟨_, rfl, hB4, hb2.size, hb4⟩
  · go_simp
    have hb2 := H1.out.2.2.2.alloc H1.out.2.2.2.size (.cells #[.int .i64 0, .int .i64 0, .int .i64 0, .int .i64 0, .int .i64 0, .int .i64 0, .bool false] 61)
    have hB0 := Blk.new w1 61 #[.int .i64 0, .int .i64 0, .int .i64 0, .int .i64 0, .int .i64 0, .int .i64 0, .bool false]
    refine hK.out _ _ (by exact HV.out _ hb2.drew) (fun hHeld => ?_)
    clear hK K
    (try simp only [Act.put, p1, p2, p3, p4, p5, p6])
    refine wpAnyH_ready (rs := [4]) (by kernel_rfl) (by simp) ?_
    refine AllReadyH.cons rfl (fun K hK => ?_) AllReadyH.nil
    go_simp
    refine (HP.out _ hb2.drew).mono ?_
    rintro ex w2 ⟨rfl, hb0⟩; have hb3 := hb0.on hb2.drew hb2.size; have hB := hB0.drew.next hb0; clear hb0
    (try dsimp only)
    refine hK.out _ _ (by exact HV.out _ hb3) (fun hHeld => ?_)
    clear hK K
    (try simp only [Act.put, p1, p2, p3, p4, p5, p6])
    refine tk 5 ?vr5 rfl ?yr5 ?rr5
    case yr5 => (intro q h; (try dsimp only at h); go_simp; (try with_reducible rfl))
    (try simp only [Act.put, p1, p2, p3, p4, p5, p6])
    refine tk 6 ?vr6 rfl ?yr6 ?rr6
    case yr6 => (intro q h; (try dsimp only at h); go_simp; (try with_reducible rfl))
    (try simp only [Act.put, p1, p2, p3, p4, p5, p6])
    obtain ⟨⟨z0, z1, z2, z3, z4, z5, z6⟩, ⟨f0, f1, f2, f3, f4, f5, f6⟩⟩ := hB.c7
    refine wpAnyH_ready (rs := [8]) (by kernel_rfl) (by simp) ?_
    refine AllReadyH.cons rfl (fun K hK => ?_) AllReadyH.nil
    go_simp
    refine hK.out _ _ (by exact HV.out _ (set7 hb3 H1.out.2.2.2.size _ _ _ _ _ _ _)) (fun hHeld => ?_)
    clear hK K
    (try simp only [Act.put, p1, p2, p3, p4, p5, p6])
    refine wpAnyH_done (by kernel_rfl) ?_ _
    refine NoPanic.normal ?_
    go_wp2_with fail
    go_meet
    exact ⟨_, rfl, chain7 hB _ _ _ _ _ _ _, H1.out.2.2.2.size, set7 hb3 H1.out.2.2.2.size _ _ _ _ _ _ _⟩
 case rest =>
  obtain ⟨g, rfl, hB, hg, hbc⟩ := hcut
  have H3 := Lib.hid (H0.out.next hbc)
  obtain ⟨x0, x1, x2, x3, x4, x5⟩ := H3.out.1.at6.1
  have hgn : w.heap.size + 1 + 1 < g := Nat.lt_of_lt_of_le H0.out.2.2.1.lt hg
  obtain ⟨⟨r0, r1, r2, r3⟩, -⟩ := H3.out.2.1.c4
  clear hB hg hbc hgn
  go_wp2_with (go_at_call 35; ((with_reducible refine (HQ.out _).mono ?_); rintro ex w4 ⟨rfl, hb⟩); have H4 := Lib.hid (H3.out.next hb); obtain ⟨x0, x1, x2, x3, x4, x5⟩ := H4.out.1.at6.1; obtain ⟨⟨z0, z1, z2, z3, z4, z5⟩, ⟨f0, f1, f2, f3, f4, f5⟩⟩ := H4.out.2.2.1.at6; clear hb)
  refine bodyPost_ret (v := .tuple #[refV R (.slice (some ⟨b, o, none⟩) n c), .int .i64 10]) (by simp [results, Tryz.results117, go_sem, z0, z1, z2, z3, z4, z5]) rfl ?_
  have hb := set6 (H4.out.2.2.2.on HB.out HB.out.size) (g := w.heap.size + 1 + 1) (by omega) (.int .i64 R.x) (.int .i64 R.y) (.int .i64 R.w) (.int .i64 R.h) (.int .i64 R.last) (.slice (some ⟨b, o, none⟩) n c)
  exact ⟨_, rfl, row6 (HF.out _ H4.out.2.2.2) H4.out.2.2.1 (fun k hk e => by have h1 := (World.ownsRow.lt HO.out k hk).2; omega) _ _ _ _ _ _, hb⟩
set_option maxRecDepth 100000 in
set_option maxHeartbeats 600000 in
theorem rchange_conf (h : RO w sv L) (hL : L.length ≤ 1048570) {i x y a e : Int} {k : Nat} {v : Win} (hk : placeN i L = some k) (hv : L[k]? = some v) (hi : i ≠ 0) (hq : rightB x y a e = true) :
  Calls Tryz.prog 117 #[refV R sv, .int .i64 0, .int .i64 i, .agg #[.int .i64 x, .int .i64 y, .int .i64 a, .int .i64 e]] w fun ex w' => ChR w R (L.set k ⟨v.id, v.par, x, y, a, e, v.on⟩) 0 ex w' := by
 have hL := Nat.le_trans hL (show 1048570 ≤ 1048576 by decide)
 obtain ⟨wb, hwb⟩ : ∃ wb, wb = ((w.alloc (.cells (refA R sv) 54)).alloc (.cells #[.int .i64 x, .int .i64 y, .int .i64 a, .int .i64 e] 23)).alloc (.cells zeroT 54) := ⟨_, rfl⟩
 have hbel : Below w.heap.size w wb := by rw [hwb]; exact (((Below.refl _ _).alloc (Nat.le_refl _) _).alloc (by simp) _).alloc (by simp; omega) _
 have hbx : CbX R sv x y a e w.heap.size wb wb := by
  refine ⟨by rw [hwb]; exact ((Blk.new w _ _).alloc _).alloc _, ?_, ?_, Below.refl _ _⟩
  · rw [hwb]
    have := (Blk.new (w.alloc (.cells (refA R sv) 54)) 23 #[.int .i64 x, .int .i64 y, .int .i64 a, .int .i64 e]).alloc (.cells zeroT 54)
    rwa [World.size_alloc] at this
  · rw [hwb]
    have := Blk.new ((w.alloc (.cells (refA R sv) 54)).alloc (.cells #[.int .i64 x, .int .i64 y, .int .i64 a, .int .i64 e] 23)) 54 zeroT
    rwa [World.size_alloc, World.size_alloc] at this
 obtain ⟨p, c, hsv⟩ := OwK.slice h
 obtain ⟨n, hn⟩ : ∃ n, n = L.length := ⟨_, rfl⟩
 rw [← hn] at hsv
 subst hsv
 have HF := Lib.hid (fun W (hW : Below wb.heap.size wb W) => (show RO W (.slice p n c) L from OwK.below (OwK.below h hbel) hW))
 have HO := Lib.hid h
 have HN := Lib.hid hn
 have HL := Lib.hid hL
 obtain ⟨⟨x0, x1, x2, x3, x4, x5⟩, -⟩ := hbx.1.at6
 have H0 := Lib.hid hbx
 have HB := Lib.hid hbel
 have HW := Lib.hid hwb
 have hn0 : (n : Int) ≤ 1048576 := by omega
 obtain ⟨i0, hi0, hz0, hz1, hz2⟩ := info_parts winInfo
 have HQ := Lib.hid (fun W => (show Calls Tryz.prog 35 #[.agg #[.int .i64 x, .int .i64 y, .int .i64 a, .int .i64 e]] W fun ex w' => ex = .returned (.bool true) ∧ Below W.heap.size W w' from by rw [← hq]; exact rright_c _ _ _ _ W))
 clear hq
 have hvv := placeN_get L k hk
 obtain ⟨v', hv', hvi, hkl⟩ := hvv
 obtain rfl : v' = v := by rw [hv] at hv'; injection hv' with h1; exact h1.symm
 have hask : askL L i = 0 := by
  have h1 : isL L i = true := by unfold isL; rw [hk]; simp
  unfold askL; rw [if_neg (by rw [h1]; simp), if_neg hi]
 have HA := Lib.hid (show Calls Tryz.prog 83 #[refV R (.slice p n c), .int .i64 i] wb fun ex w' => ex = .returned (.int .i64 0) ∧ Below wb.heap.size wb w' from by rw [← hask]; exact asked_c (R := R) (HF.out wb (Below.refl _ _)).rd hL i)
 have HP := Lib.hid (fun W (hW : Below wb.heap.size wb W) => (show Calls Tryz.prog 64 #[refV R (.slice p n c), .int .i64 i] W fun ex w' => ex = .returned (.int .i64 (k : Int)) ∧ Below W.heap.size W w' from by
  have h1 := place_c (R := R) (HF.out W hW).rd hL i
  rw [hk] at h1; exact h1))
 have hcell : ∃ b o, p = some ⟨b, o, none⟩ ∧ b < wb.heap.size ∧ ∀ (i : Nat) (u : Value), (encW v')[i]? = some u → wb.cell? ⟨b, o + k * 7 + i, none⟩ = some u := by
  obtain ⟨p0, c0, e0, hcell⟩ := (HF.out wb (Below.refl _ _)).rd
  injection e0 with e0 _ _
  subst e0
  exact hcell k v' hv
 obtain ⟨b, o, hpb, hb1, hb2⟩ := hcell
 have HPB := Lib.hid hpb
 clear hpb
 obtain ⟨vid, vpar, vx, vy, vw, vh, von⟩ := v'
 have HV := Lib.hid (fun W (hW : Below wb.heap.size wb W) => (show ((W.cell? ⟨w.heap.size, 0, none⟩ = some (.int .i64 R.x) ∧ W.cell? ⟨w.heap.size, 1, none⟩ = some (.int .i64 R.y) ∧ W.cell? ⟨w.heap.size, 2, none⟩ = some (.int .i64 R.w) ∧ W.cell? ⟨w.heap.size, 3, none⟩ = some (.int .i64 R.h) ∧ W.cell? ⟨w.heap.size, 4, none⟩ = some (.int .i64 R.last) ∧ W.cell? ⟨w.heap.size, 5, none⟩ = some (.slice p n c)) ∧ W.cell? ⟨b, o + k * 7, none⟩ = some (.int .i64 vid) ∧ W.cell? ⟨b, o + k * 7 + 1, none⟩ = some (.int .i64 vpar) ∧ W.cell? ⟨b, o + k * 7 + 2, none⟩ = some (.int .i64 vx) ∧ W.cell? ⟨b, o + k * 7 + 3, none⟩ = some (.int .i64 vy) ∧ W.cell? ⟨b, o + k * 7 + 4, none⟩ = some (.int .i64 vw) ∧ W.cell? ⟨b, o + k * 7 + 5, none⟩ = some (.int .i64 vh) ∧ W.cell? ⟨b, o + k * 7 + 6, none⟩ = some (.bool von)) from by
  have hx := (H0.out.next hW).1.at6.1
  have hr := RW.cells (w := W) (v := ⟨vid, vpar, vx, vy, vw, vh, von⟩) (fun i u hu => (hW.cell (p := ⟨b, o + k * 7 + i, none⟩) hb1).trans (hb2 i u hu))
  exact ⟨hx, hr⟩))
 have hk0 : (0 : Int) ≤ (k : Int) := by omega
 have hk1 : (k : Int) < (n : Int) := by omega
 have HI := Lib.hid hi
 have HKP := Lib.hid hk
 have HVV := Lib.hid hv
 clear h hbel hbx hn hask hb1 hb2 hv hv' hk hi hvi
 go_enter Tryz.func117, Tryz.ntmps117
 go_upto_region 1 with fail
 rw [← HW.out]
 clear hwb
 have hpb := HPB.out
 clear HPB
 subst hpb
 go_upto_region 3 with (go_at_call 83; ((with_reducible refine (HA.out).mono ?_); rintro ex w1 ⟨rfl, hb⟩); have H1 := Lib.hid (H0.out.next hb); obtain ⟨⟨x0, x1, x2, x3, x4, x5⟩, -⟩ := H1.out.1.at6; clear hb)
 go_cut [10] (fun s10 wx => ∃ g, s10 = .pointer (some ⟨g, 0, none⟩) ∧ Blk wx g 61 #[.int .i64 vid, .int .i64 vpar, .int .i64 vx, .int .i64 vy, .int .i64 vw, .int .i64 vh, .bool von] ∧ wb.heap.size ≤ g ∧ Below wb.heap.size wb wx)
 case first =>
  refine wp_region_noPanic ?_
  refine wp_region_held_drew (S := fun wx => (wx.cell? ⟨w.heap.size, 0, none⟩ = some (.int .i64 R.x) ∧ wx.cell? ⟨w.heap.size, 1, none⟩ = some (.int .i64 R.y) ∧ wx.cell? ⟨w.heap.size, 2, none⟩ = some (.int .i64 R.w) ∧ wx.cell? ⟨w.heap.size, 3, none⟩ = some (.int .i64 R.h) ∧ wx.cell? ⟨w.heap.size, 4, none⟩ = some (.int .i64 R.last) ∧ wx.cell? ⟨w.heap.size, 5, none⟩ = some (.slice (some ⟨b, o, none⟩) n c)) ∧ wx.cell? ⟨b, o + k * 7, none⟩ = some (.int .i64 vid) ∧ wx.cell? ⟨b, o + k * 7 + 1, none⟩ = some (.int .i64 vpar) ∧ wx.cell? ⟨b, o + k * 7 + 2, none⟩ = some (.int .i64 vx) ∧ wx.cell? ⟨b, o + k * 7 + 3, none⟩ = some (.int .i64 vy) ∧ wx.cell? ⟨b, o + k * 7 + 4, none⟩ = some (.int .i64 vw) ∧ wx.cell? ⟨b, o + k * 7 + 5, none⟩ = some (.int .i64 vh) ∧ wx.cell? ⟨b, o + k * 7 + 6, none⟩ = some (.bool von)) (by kernel_rfl) (by exact HV.out _ H1.out.2.2.2.drew) (fun hHeld => ?_)
  refine tk 0 ?vp0 rfl ?yp0 ?rp0
  case yp0 => (intro q h; (try dsimp only at h); go_simp; (try with_reducible rfl))
  (try simp only [Act.put, p1, p3, p4, p5, p6])
  refine tk 1 ?vp1 rfl ?yp1 ?rp1
  case yp1 => (intro q h; (try dsimp only at h); go_simp; (try with_reducible rfl))
  (try simp only [Act.put, p1, p2, p3, p4, p5, p6])
  refine tk 2 ?vp2 rfl ?yp2 ?rp2
  case yp2 => (intro q h; (try dsimp only at h); go_simp; (try with_reducible rfl))
  (try simp only [Act.put, p1, p2, p3, p4, p5, p6])
  refine tk 3 ?vp3 rfl ?yp3 ?rp3
  case yp3 => (intro q h; (try dsimp only at h); go_simp; (try with_reducible rfl))
  (try simp only [Act.put, p1, p2, p3, p4, p5, p6])
  refine wpAnyH_ready (rs := [4, 7]) (by kernel_rfl) (by simp) ?_
  refine AllReadyH.cons rfl (fun K hK => ?_) (AllReadyH.cons rfl (fun K hK => ?_) AllReadyH.nil)
  · go_simp
    refine (HP.out _ H1.out.2.2.2.drew).mono ?_
    rintro ex w2 ⟨rfl, hb0⟩; have hb1 : Below w1.heap.size w1 w2 := ((Below.refl _ w1).drew).trans hb0; have hb2 := hb1.on H1.out.2.2.2 H1.out.2.2.2.size; clear hb0
    (try dsimp only)
    refine hK.out _ _ (by exact HV.out _ hb2) (fun hHeld => ?_)
    clear hK K
    (try simp only [Act.put, p1, p2, p3, p4, p5, p6])
    refine tk 5 ?vq5 rfl ?yq5 ?rq5
    case yq5 => (intro q h; (try dsimp only at h); go_simp; (try with_reducible rfl))
    (try simp only [Act.put, p1, p2, p3, p4, p5, p6])
    refine tk 6 ?vq6 rfl ?yq6 ?rq6
    case yq6 => (intro q h; (try dsimp only at h); go_simp; (try with_reducible rfl))
    (try simp only [Act.put, p1, p2, p3, p4, p5, p6])
    refine wpAnyH_ready (rs := [7]) (by kernel_rfl) (by simp) ?_
    refine AllReadyH.cons rfl (fun K hK => ?_) AllReadyH.nil
    go_simp
    have hB := Blk.new w2 61 #[.int .i64 0, .int .i64 0, .int .i64 0, .int .i64 0, .int .i64 0, .int .i64 0, .bool false]
    have hb3 := hb2.alloc hb2.size (.cells #[.int .i64 0, .int .i64 0, .int .i64 0, .int .i64 0, .int .i64 0, .int .i64 0, .bool false] 61)
    refine hK.out _ _ (by exact HV.out _ hb3) (fun hHeld => ?_)
    clear hK K
    (try simp only [Act.put, p1, p2, p3, p4, p5, p6])
    obtain ⟨⟨z0, z1, z2, z3, z4, z5, z6⟩, ⟨f0, f1, f2, f3, f4, f5, f6⟩⟩ := hB.c7
    refine wpAnyH_ready (rs := [8]) (by kernel_rfl) (by simp) ?_
    refine AllReadyH.cons rfl (fun K hK => ?_) AllReadyH.nil
    go_simp
    have hB4 := Blk.new w2 61 #[.int .i64 vid, .int .i64 vpar, .int .i64 vx, .int .i64 vy, .int .i64 vw, .int .i64 vh, .bool von]
    have hb4 := hb2.alloc hb2.size (.cells #[.int .i64 vid, .int .i64 vpar, .int .i64 vx, .int .i64 vy, .int .i64 vw, .int .i64 vh, .bool von] 61)
    refine hK.out _ _ (by exact HV.out _ hb4) (fun hHeld => ?_)
    clear hK K
    (try simp only [Act.put, p1, p2, p3, p4, p5, p6])
    refine wpAnyH_done (by kernel_rfl) ?_ _
    refine NoPanic.normal ?_
    go_wp2_with fail
    go_meet
    exact ⟨_, rfl, hB4, hb2.size, hb4⟩
  · go_simp
    have hb2 := H1.out.2.2.2.alloc H1.out.2.2.2.size (.cells #[.int .i64 0, .int .i64 0, .int .i64 0, .int .i64 0, .int .i64 0, .int .i64 0, .bool false] 61)
    have hB0 := Blk.new w1 61 #[.int .i64 0, .int .i64 0, .int .i64 0, .int .i64 0, .int .i64 0, .int .i64 0, .bool false]
    refine hK.out _ _ (by exact HV.out _ hb2.drew) (fun hHeld => ?_)
    clear hK K
    (try simp only [Act.put, p1, p2, p3, p4, p5, p6])
    refine wpAnyH_ready (rs := [4]) (by kernel_rfl) (by simp) ?_
    refine AllReadyH.cons rfl (fun K hK => ?_) AllReadyH.nil
    go_simp
    refine (HP.out _ hb2.drew).mono ?_
    rintro ex w2 ⟨rfl, hb0⟩; have hb3 := hb0.on hb2.drew hb2.size; have hB := hB0.drew.next hb0; clear hb0
    (try dsimp only)
    refine hK.out _ _ (by exact HV.out _ hb3) (fun hHeld => ?_)
    clear hK K
    (try simp only [Act.put, p1, p2, p3, p4, p5, p6])
    refine tk 5 ?vr5 rfl ?yr5 ?rr5
    case yr5 => (intro q h; (try dsimp only at h); go_simp; (try with_reducible rfl))
    (try simp only [Act.put, p1, p2, p3, p4, p5, p6])
    refine tk 6 ?vr6 rfl ?yr6 ?rr6
    case yr6 => (intro q h; (try dsimp only at h); go_simp; (try with_reducible rfl))
    (try simp only [Act.put, p1, p2, p3, p4, p5, p6])
    obtain ⟨⟨z0, z1, z2, z3, z4, z5, z6⟩, ⟨f0, f1, f2, f3, f4, f5, f6⟩⟩ := hB.c7
    refine wpAnyH_ready (rs := [8]) (by kernel_rfl) (by simp) ?_
    refine AllReadyH.cons rfl (fun K hK => ?_) AllReadyH.nil
    go_simp
    refine hK.out _ _ (by exact HV.out _ (set7 hb3 H1.out.2.2.2.size _ _ _ _ _ _ _)) (fun hHeld => ?_)
    clear hK K
    (try simp only [Act.put, p1, p2, p3, p4, p5, p6])
    refine wpAnyH_done (by kernel_rfl) ?_ _
    refine NoPanic.normal ?_
    go_wp2_with fail
    go_meet
    exact ⟨_, rfl, chain7 hB _ _ _ _ _ _ _, H1.out.2.2.2.size, set7 hb3 H1.out.2.2.2.size _ _ _ _ _ _ _⟩
 case rest =>
  obtain ⟨g, rfl, hB, hg, hbc⟩ := hcut
  have H3 := Lib.hid (H0.out.next hbc)
  obtain ⟨x0, x1, x2, x3, x4, x5⟩ := H3.out.1.at6.1
  have hgn : w.heap.size + 1 + 1 < g := Nat.lt_of_lt_of_le H0.out.2.2.1.lt hg
  obtain ⟨⟨r0, r1, r2, r3⟩, -⟩ := H3.out.2.1.c4
  have HBg := Lib.hid hB
  have HGg := Lib.hid hg
  clear hB hg hbc hgn
  go_upto_region 13 with (go_at_call 35; ((with_reducible refine (HQ.out _).mono ?_); rintro ex w4 ⟨rfl, hb⟩); have H4 := Lib.hid (H3.out.next hb); have HB4 := Lib.hid (HBg.out.next hb); obtain ⟨x0, x1, x2, x3, x4, x5⟩ := H4.out.1.at6.1; obtain ⟨⟨r0, r1, r2, r3⟩, -⟩ := H4.out.2.1.c4; obtain ⟨⟨y0, y1, y2, y3, y4, y5, y6⟩, ⟨yf0, yf1, yf2, yf3, yf4, yf5, yf6⟩⟩ := HB4.out.c7; clear hb)
  have hgn : w.heap.size + 1 + 1 < g := Nat.lt_of_lt_of_le H0.out.2.2.1.lt HGg.out
  obtain ⟨wd, hwd⟩ : ∃ wd, wd = (((w4.setCell ⟨g, 2, none⟩ (.int .i64 x)).setCell ⟨g, 3, none⟩ (.int .i64 y)).setCell ⟨g, 4, none⟩ (.int .i64 a)).setCell ⟨g, 5, none⟩ (.int .i64 e) := ⟨_, rfl⟩
  have hBd : Blk wd g 61 #[.int .i64 vid, .int .i64 vpar, .int .i64 x, .int .i64 y, .int .i64 a, .int .i64 e, .bool von] := by
    rw [hwd]
    have := (((HB4.out.set_ 2 (.int .i64 x)).set_ 3 (.int .i64 y)).set_ 4 (.int .i64 a)).set_ 5 (.int .i64 e)
    simpa using this
  have hbd : Below wb.heap.size wb wd := by rw [hwd]; exact (((H4.out.2.2.2.setCell HGg.out _).setCell HGg.out _).setCell HGg.out _).setCell HGg.out _
  rw [← hwd]
  clear hwd y0 y1 y2 y3 y4 y5 y6 yf0 yf1 yf2 yf3 yf4 yf5 yf6 x0 x1 x2 x3 x4 x5 r0 r1 r2 r3
  have Hd := Lib.hid (H0.out.next hbd)
  have HSd := Lib.hid (fun W (hW : Below wd.heap.size wd W) => (show ((W.cell? ⟨w.heap.size, 0, none⟩ = some (.int .i64 R.x) ∧ W.cell? ⟨w.heap.size, 1, none⟩ = some (.int .i64 R.y) ∧ W.cell? ⟨w.heap.size, 2, none⟩ = some (.int .i64 R.w) ∧ W.cell? ⟨w.heap.size, 3, none⟩ = some (.int .i64 R.h) ∧ W.cell? ⟨w.heap.size, 4, none⟩ = some (.int .i64 R.last) ∧ W.cell? ⟨w.heap.size, 5, none⟩ = some (.slice (some ⟨b, o, none⟩) n c)) ∧ W.cell? ⟨g, 0, none⟩ = some (.int .i64 vid) ∧ W.cell? ⟨g, 1, none⟩ = some (.int .i64 vpar) ∧ W.cell? ⟨g, 2, none⟩ = some (.int .i64 x) ∧ W.cell? ⟨g, 3, none⟩ = some (.int .i64 y) ∧ W.cell? ⟨g, 4, none⟩ = some (.int .i64 a) ∧ W.cell? ⟨g, 5, none⟩ = some (.int .i64 e) ∧ W.cell? ⟨g, 6, none⟩ = some (.bool von)) from ⟨(Hd.out.next hW).1.at6.1, (hBd.next hW).c7.1⟩))
  have HFd := Lib.hid (fun W (hW : Below wd.heap.size wd W) => HF.out W (hW.on hbd hbd.size))
  have HPd := Lib.hid (fun W (hW : Below wd.heap.size wd W) => HP.out W (hW.on hbd hbd.size))
  obtain ⟨x0, x1, x2, x3, x4, x5⟩ := Hd.out.1.at6.1
  obtain ⟨t0, t1, t2, t3, t4, t5⟩ := (Hd.out.next ((Below.refl wd.heap.size wd).alloc (Nat.le_refl _) (.cells #[] 61))).1.at6.1
  have HNE := Lib.hid (show L ≠ [] from fun h => by rw [h] at HVV; have := HVV.out; simp at this)
  have HKL := Lib.hid (show k < L.length from (List.getElem?_eq_some_iff.1 HVV.out).1)
  clear hbd hBd
  go_wp2_with (at_builtin; refine list_app rfl (.tmp 62) (.tmp 64) 52 rfl wd.heap.size 61 i0 (.agg #[.int .i64 0, .int .i64 0, .int .i64 0, .int .i64 0, .int .i64 0, .int .i64 0, .bool false]) 7 56 Tryz.underlying52 hi0 hz0 hz1 hz2 rfl (by decide) _ _ _ (by rfl) (own_zero (Blk.new wd 61 #[]) (Nat.le_refl _)) _ _ _ _ (by rfl) (HFd.out _ ((Below.refl _ _).alloc (Nat.le_refl _) _)) (flatW_one _) (by unfold maxLen; have := HL.out; simp; omega) (by have := HL.out; simp; omega) (by simp) ?_; intro v5 w5 ho5 hg5; have ov : OwK encW 61 7 w5 wd.heap.size v5 L := (by have h := ho5; rw [Nat.zero_add, List.nil_append] at h; exact h); have b5 := below_only ((Below.refl wd.heap.size wd).alloc (Nat.le_refl _) (.cells #[] 61)) hg5 (by simp) (fun k hk => (World.ownsRow.lt (own_zero (Blk.new wd 61 #[]) (Nat.le_refl _)) k hk).1); obtain ⟨g5, c5, hv5, hgb5, hgl5, hcell5, hfr5⟩ := OwK.form encW_len ov HNE.out; rw [← HN.out] at hv5; subst hv5; have OV := Lib.hid ov; have B5 := Lib.hid b5; have HC5 := Lib.hid hcell5; have HF5 := Lib.hid hfr5; have HG5 := Lib.hid hgb5; have HGL := Lib.hid hgl5; clear ho5 hg5 ov b5 hcell5 hfr5 hgb5 hgl5)
  refine wp_region_noPanic ?_
  refine wp_region_held_drew (S := fun wx => (wx.cell? ⟨w.heap.size, 0, none⟩ = some (.int .i64 R.x) ∧ wx.cell? ⟨w.heap.size, 1, none⟩ = some (.int .i64 R.y) ∧ wx.cell? ⟨w.heap.size, 2, none⟩ = some (.int .i64 R.w) ∧ wx.cell? ⟨w.heap.size, 3, none⟩ = some (.int .i64 R.h) ∧ wx.cell? ⟨w.heap.size, 4, none⟩ = some (.int .i64 R.last) ∧ wx.cell? ⟨w.heap.size, 5, none⟩ = some (.slice (some ⟨b, o, none⟩) n c)) ∧ wx.cell? ⟨g, 0, none⟩ = some (.int .i64 vid) ∧ wx.cell? ⟨g, 1, none⟩ = some (.int .i64 vpar) ∧ wx.cell? ⟨g, 2, none⟩ = some (.int .i64 x) ∧ wx.cell? ⟨g, 3, none⟩ = some (.int .i64 y) ∧ wx.cell? ⟨g, 4, none⟩ = some (.int .i64 a) ∧ wx.cell? ⟨g, 5, none⟩ = some (.int .i64 e) ∧ wx.cell? ⟨g, 6, none⟩ = some (.bool von)) (by kernel_rfl) (by exact HSd.out _ B5.out.drew) (fun hHeld => ?_)
  refine tk 0 ?vm0 rfl ?ym0 ?rm0
  case ym0 => (intro q h; (try dsimp only at h); go_simp; (try with_reducible rfl))
  (try simp only [Act.put, p1, p3, p4, p5, p6])
  refine tk 1 ?vm1 rfl ?ym1 ?rm1
  case ym1 => (intro q h; (try dsimp only at h); go_simp; (try with_reducible rfl))
  (try simp only [Act.put, p1, p2, p3, p4, p5, p6])
  refine tk 2 ?vm2 rfl ?ym2 ?rm2
  case ym2 => (intro q h; (try dsimp only at h); go_simp; (try with_reducible rfl))
  (try simp only [Act.put, p1, p2, p3, p4, p5, p6])
  refine tk 4 ?vm4 rfl ?ym4 ?rm4
  case ym4 => (intro q h; (try dsimp only at h); go_simp; (try with_reducible rfl))
  (try simp only [Act.put, p1, p2, p3, p4, p5, p6])
  refine wpAnyH_ready (rs := [3]) (by kernel_rfl) (by simp) ?_
  refine AllReadyH.cons rfl (fun K hK => ?_) AllReadyH.nil
  go_simp
  refine (HPd.out _ B5.out.drew).mono ?_
  rintro ex w6 ⟨rfl, hb0⟩; have hb1 : Below w5.heap.size w5 w6 := ((Below.refl _ w5).drew).trans hb0; have B6 := Lib.hid (hb1.on B5.out B5.out.size); have OV6 := Lib.hid (OwK.below OV.out hb1); clear hb0
  (try dsimp only)
  refine hK.out _ _ (by exact HSd.out _ B6.out) (fun hHeld => ?_)
  clear hK K
  (try simp only [Act.put, p1, p2, p3, p4, p5, p6])
  refine tk 5 ?vm5 rfl ?ym5 ?rm5
  case ym5 => (intro q h; (try dsimp only at h); go_simp; (try with_reducible rfl))
  (try simp only [Act.put, p1, p2, p3, p4, p5, p6])
  obtain ⟨z0, z1, z2, z3, z4, z5, z6, f0, f1, f2, f3, f4, f5, f6⟩ := win_cells (HN.out ▸ OV6.out) HVV.out
  refine wpAnyH_ready (rs := [6]) (by kernel_rfl) (by simp) ?_
  refine AllReadyH.cons rfl (fun K hK => ?_) AllReadyH.nil
  go_simp
  have hst := OwK.win_set ⟨vid, vpar, x, y, a, e, von⟩ HKL.out (HN.out ▸ OV6.out)
  have B7 := Lib.hid (set7k (k := k) B6.out HG5.out (.int .i64 vid) (.int .i64 vpar) (.int .i64 x) (.int .i64 y) (.int .i64 a) (.int .i64 e) (.bool von))
  refine hK.out _ _ (by exact HSd.out _ B7.out) (fun hHeld => ?_)
  clear hK K
  (try simp only [Act.put, p1, p2, p3, p4, p5, p6])
  rw [← HN.out] at hst
  have OS := Lib.hid hst
  clear hst z0 z1 z2 z3 z4 z5 z6 f0 f1 f2 f3 f4 f5 f6
  refine wpAnyH_done (by kernel_rfl) ?_ _
  refine NoPanic.normal ?_
  have H7 := Lib.hid (Hd.out.next B7.out)
  generalize (((((((w6.setCell ⟨g5, k * 7, none⟩ (.int .i64 vid)).setCell ⟨g5, k * 7 + 1, none⟩ (.int .i64 vpar)).setCell ⟨g5, k * 7 + 2, none⟩ (.int .i64 x)).setCell ⟨g5, k * 7 + 3, none⟩ (.int .i64 y)).setCell ⟨g5, k * 7 + 4, none⟩ (.int .i64 a)).setCell ⟨g5, k * 7 + 5, none⟩ (.int .i64 e)).setCell ⟨g5, k * 7 + 6, none⟩ (.bool von)) = w7 at H7 OS B7 ⊢
  obtain ⟨q0, q1, q2, q3, q4, q5⟩ := H7.out.1.at6.1
  go_wp2_with (go_at_call 85; ((with_reducible refine (with_c R _ _ _ _ _ _ w7).mono ?_); rintro ex w8 ⟨rfl, hb8⟩); have H8 := Lib.hid (H7.out.next hb8); have OF8 := Lib.hid (OwK.below OS.out hb8); obtain ⟨⟨z0, z1, z2, z3, z4, z5⟩, ⟨f0, f1, f2, f3, f4, f5⟩⟩ := H8.out.2.2.1.at6; clear hb8)
  refine bodyPost_ret (v := .tuple #[refV R (.slice (some ⟨g5, 0, none⟩) n c5), .int .i64 0]) (by simp [results, Tryz.results117, go_sem, z0, z1, z2, z3, z4, z5]) rfl ?_
  have hb := set6 (H8.out.2.2.2.on HB.out HB.out.size) (g := w.heap.size + 1 + 1) (by omega) (.int .i64 R.x) (.int .i64 R.y) (.int .i64 R.w) (.int .i64 R.h) (.int .i64 R.last) (.slice (some ⟨g5, 0, none⟩) n c5)
  exact ⟨_, rfl, row6 (OwK.less OF8.out (Nat.zero_le _)) H8.out.2.2.1 (fun k hk => by have h1 := (World.ownsRow.lt OF8.out k hk).1; have h2 := Hd.out.2.2.1.lt; omega) _ _ _ _ _ _, hb⟩
set_option maxRecDepth 100000 in
set_option maxHeartbeats 600000 in
theorem rchange_map (h : RO w sv L) (hL : L.length ≤ 1048570) {i x y a e : Int} {k : Nat} {v : Win} (hk : placeN i L = some k) (hv : L[k]? = some v) (hi : i ≠ 0) :
  Calls Tryz.prog 117 #[refV R sv, .int .i64 3, .int .i64 i, .agg #[.int .i64 x, .int .i64 y, .int .i64 a, .int .i64 e]] w fun ex w' => ChR w R (L.set k ⟨v.id, v.par, v.x, v.y, v.w, v.h, true⟩) 0 ex w' := by
 have hL := Nat.le_trans hL (show 1048570 ≤ 1048576 by decide)
 obtain ⟨wb, hwb⟩ : ∃ wb, wb = ((w.alloc (.cells (refA R sv) 54)).alloc (.cells #[.int .i64 x, .int .i64 y, .int .i64 a, .int .i64 e] 23)).alloc (.cells zeroT 54) := ⟨_, rfl⟩
 have hbel : Below w.heap.size w wb := by rw [hwb]; exact (((Below.refl _ _).alloc (Nat.le_refl _) _).alloc (by simp) _).alloc (by simp; omega) _
 have hbx : CbX R sv x y a e w.heap.size wb wb := by
  refine ⟨by rw [hwb]; exact ((Blk.new w _ _).alloc _).alloc _, ?_, ?_, Below.refl _ _⟩
  · rw [hwb]
    have := (Blk.new (w.alloc (.cells (refA R sv) 54)) 23 #[.int .i64 x, .int .i64 y, .int .i64 a, .int .i64 e]).alloc (.cells zeroT 54)
    rwa [World.size_alloc] at this
  · rw [hwb]
    have := Blk.new ((w.alloc (.cells (refA R sv) 54)).alloc (.cells #[.int .i64 x, .int .i64 y, .int .i64 a, .int .i64 e] 23)) 54 zeroT
    rwa [World.size_alloc, World.size_alloc] at this
 obtain ⟨p, c, hsv⟩ := OwK.slice h
 obtain ⟨n, hn⟩ : ∃ n, n = L.length := ⟨_, rfl⟩
 rw [← hn] at hsv
 subst hsv
 have HF := Lib.hid (fun W (hW : Below wb.heap.size wb W) => (show RO W (.slice p n c) L from OwK.below (OwK.below h hbel) hW))
 have HO := Lib.hid h
 have HN := Lib.hid hn
 have HL := Lib.hid hL
 obtain ⟨⟨x0, x1, x2, x3, x4, x5⟩, -⟩ := hbx.1.at6
 have H0 := Lib.hid hbx
 have HB := Lib.hid hbel
 have HW := Lib.hid hwb
 have hn0 : (n : Int) ≤ 1048576 := by omega
 obtain ⟨i0, hi0, hz0, hz1, hz2⟩ := info_parts winInfo
 have hvv := placeN_get L k hk
 obtain ⟨v', hv', hvi, hkl⟩ := hvv
 obtain rfl : v' = v := by rw [hv] at hv'; injection hv' with h1; exact h1.symm
 have hask : askL L i = 0 := by
  have h1 : isL L i = true := by unfold isL; rw [hk]; simp
  unfold askL; rw [if_neg (by rw [h1]; simp), if_neg hi]
 have HA := Lib.hid (show Calls Tryz.prog 83 #[refV R (.slice p n c), .int .i64 i] wb fun ex w' => ex = .returned (.int .i64 0) ∧ Below wb.heap.size wb w' from by rw [← hask]; exact asked_c (R := R) (HF.out wb (Below.refl _ _)).rd hL i)
 have HP := Lib.hid (fun W (hW : Below wb.heap.size wb W) => (show Calls Tryz.prog 64 #[refV R (.slice p n c), .int .i64 i] W fun ex w' => ex = .returned (.int .i64 (k : Int)) ∧ Below W.heap.size W w' from by
  have h1 := place_c (R := R) (HF.out W hW).rd hL i
  rw [hk] at h1; exact h1))
 have hcell : ∃ b o, p = some ⟨b, o, none⟩ ∧ b < wb.heap.size ∧ ∀ (i : Nat) (u : Value), (encW v')[i]? = some u → wb.cell? ⟨b, o + k * 7 + i, none⟩ = some u := by
  obtain ⟨p0, c0, e0, hcell⟩ := (HF.out wb (Below.refl _ _)).rd
  injection e0 with e0 _ _
  subst e0
  exact hcell k v' hv
 obtain ⟨b, o, hpb, hb1, hb2⟩ := hcell
 have HPB := Lib.hid hpb
 clear hpb
 obtain ⟨vid, vpar, vx, vy, vw, vh, von⟩ := v'
 have HV := Lib.hid (fun W (hW : Below wb.heap.size wb W) => (show ((W.cell? ⟨w.heap.size, 0, none⟩ = some (.int .i64 R.x) ∧ W.cell? ⟨w.heap.size, 1, none⟩ = some (.int .i64 R.y) ∧ W.cell? ⟨w.heap.size, 2, none⟩ = some (.int .i64 R.w) ∧ W.cell? ⟨w.heap.size, 3, none⟩ = some (.int .i64 R.h) ∧ W.cell? ⟨w.heap.size, 4, none⟩ = some (.int .i64 R.last) ∧ W.cell? ⟨w.heap.size, 5, none⟩ = some (.slice p n c)) ∧ W.cell? ⟨b, o + k * 7, none⟩ = some (.int .i64 vid) ∧ W.cell? ⟨b, o + k * 7 + 1, none⟩ = some (.int .i64 vpar) ∧ W.cell? ⟨b, o + k * 7 + 2, none⟩ = some (.int .i64 vx) ∧ W.cell? ⟨b, o + k * 7 + 3, none⟩ = some (.int .i64 vy) ∧ W.cell? ⟨b, o + k * 7 + 4, none⟩ = some (.int .i64 vw) ∧ W.cell? ⟨b, o + k * 7 + 5, none⟩ = some (.int .i64 vh) ∧ W.cell? ⟨b, o + k * 7 + 6, none⟩ = some (.bool von)) from by
  have hx := (H0.out.next hW).1.at6.1
  have hr := RW.cells (w := W) (v := ⟨vid, vpar, vx, vy, vw, vh, von⟩) (fun i u hu => (hW.cell (p := ⟨b, o + k * 7 + i, none⟩) hb1).trans (hb2 i u hu))
  exact ⟨hx, hr⟩))
 have hk0 : (0 : Int) ≤ (k : Int) := by omega
 have hk1 : (k : Int) < (n : Int) := by omega
 have HI := Lib.hid hi
 have HKP := Lib.hid hk
 have HVV := Lib.hid hv
 clear h hbel hbx hn hask hb1 hb2 hv hv' hk hi hvi
 go_enter Tryz.func117, Tryz.ntmps117
 go_upto_region 1 with fail
 rw [← HW.out]
 clear hwb
 have hpb := HPB.out
 clear HPB
 subst hpb
 go_upto_region 3 with (go_at_call 83; ((with_reducible refine (HA.out).mono ?_); rintro ex w1 ⟨rfl, hb⟩); have H1 := Lib.hid (H0.out.next hb); obtain ⟨⟨x0, x1, x2, x3, x4, x5⟩, -⟩ := H1.out.1.at6; clear hb)
 go_cut [10] (fun s10 wx => ∃ g, s10 = .pointer (some ⟨g, 0, none⟩) ∧ Blk wx g 61 #[.int .i64 vid, .int .i64 vpar, .int .i64 vx, .int .i64 vy, .int .i64 vw, .int .i64 vh, .bool von] ∧ wb.heap.size ≤ g ∧ Below wb.heap.size wb wx)
 case first =>
  refine wp_region_noPanic ?_
  refine wp_region_held_drew (S := fun wx => (wx.cell? ⟨w.heap.size, 0, none⟩ = some (.int .i64 R.x) ∧ wx.cell? ⟨w.heap.size, 1, none⟩ = some (.int .i64 R.y) ∧ wx.cell? ⟨w.heap.size, 2, none⟩ = some (.int .i64 R.w) ∧ wx.cell? ⟨w.heap.size, 3, none⟩ = some (.int .i64 R.h) ∧ wx.cell? ⟨w.heap.size, 4, none⟩ = some (.int .i64 R.last) ∧ wx.cell? ⟨w.heap.size, 5, none⟩ = some (.slice (some ⟨b, o, none⟩) n c)) ∧ wx.cell? ⟨b, o + k * 7, none⟩ = some (.int .i64 vid) ∧ wx.cell? ⟨b, o + k * 7 + 1, none⟩ = some (.int .i64 vpar) ∧ wx.cell? ⟨b, o + k * 7 + 2, none⟩ = some (.int .i64 vx) ∧ wx.cell? ⟨b, o + k * 7 + 3, none⟩ = some (.int .i64 vy) ∧ wx.cell? ⟨b, o + k * 7 + 4, none⟩ = some (.int .i64 vw) ∧ wx.cell? ⟨b, o + k * 7 + 5, none⟩ = some (.int .i64 vh) ∧ wx.cell? ⟨b, o + k * 7 + 6, none⟩ = some (.bool von)) (by kernel_rfl) (by exact HV.out _ H1.out.2.2.2.drew) (fun hHeld => ?_)
  refine tk 0 ?vp0 rfl ?yp0 ?rp0
  case yp0 => (intro q h; (try dsimp only at h); go_simp; (try with_reducible rfl))
  (try simp only [Act.put, p1, p3, p4, p5, p6])
  refine tk 1 ?vp1 rfl ?yp1 ?rp1
  case yp1 => (intro q h; (try dsimp only at h); go_simp; (try with_reducible rfl))
  (try simp only [Act.put, p1, p2, p3, p4, p5, p6])
  refine tk 2 ?vp2 rfl ?yp2 ?rp2
  case yp2 => (intro q h; (try dsimp only at h); go_simp; (try with_reducible rfl))
  (try simp only [Act.put, p1, p2, p3, p4, p5, p6])
  refine tk 3 ?vp3 rfl ?yp3 ?rp3
  case yp3 => (intro q h; (try dsimp only at h); go_simp; (try with_reducible rfl))
  (try simp only [Act.put, p1, p2, p3, p4, p5, p6])
  refine wpAnyH_ready (rs := [4, 7]) (by kernel_rfl) (by simp) ?_
  refine AllReadyH.cons rfl (fun K hK => ?_) (AllReadyH.cons rfl (fun K hK => ?_) AllReadyH.nil)
  · go_simp
    refine (HP.out _ H1.out.2.2.2.drew).mono ?_
    rintro ex w2 ⟨rfl, hb0⟩; have hb1 : Below w1.heap.size w1 w2 := ((Below.refl _ w1).drew).trans hb0; have hb2 := hb1.on H1.out.2.2.2 H1.out.2.2.2.size; clear hb0
    (try dsimp only)
    refine hK.out _ _ (by exact HV.out _ hb2) (fun hHeld => ?_)
    clear hK K
    (try simp only [Act.put, p1, p2, p3, p4, p5, p6])
    refine tk 5 ?vq5 rfl ?yq5 ?rq5
    case yq5 => (intro q h; (try dsimp only at h); go_simp; (try with_reducible rfl))
    (try simp only [Act.put, p1, p2, p3, p4, p5, p6])
    refine tk 6 ?vq6 rfl ?yq6 ?rq6
    case yq6 => (intro q h; (try dsimp only at h); go_simp; (try with_reducible rfl))
    (try simp only [Act.put, p1, p2, p3, p4, p5, p6])
    refine wpAnyH_ready (rs := [7]) (by kernel_rfl) (by simp) ?_
    refine AllReadyH.cons rfl (fun K hK => ?_) AllReadyH.nil
    go_simp
    have hB := Blk.new w2 61 #[.int .i64 0, .int .i64 0, .int .i64 0, .int .i64 0, .int .i64 0, .int .i64 0, .bool false]
    have hb3 := hb2.alloc hb2.size (.cells #[.int .i64 0, .int .i64 0, .int .i64 0, .int .i64 0, .int .i64 0, .int .i64 0, .bool false] 61)
    refine hK.out _ _ (by exact HV.out _ hb3) (fun hHeld => ?_)
    clear hK K
    (try simp only [Act.put, p1, p2, p3, p4, p5, p6])
    obtain ⟨⟨z0, z1, z2, z3, z4, z5, z6⟩, ⟨f0, f1, f2, f3, f4, f5, f6⟩⟩ := hB.c7
    refine wpAnyH_ready (rs := [8]) (by kernel_rfl) (by simp) ?_
    refine AllReadyH.cons rfl (fun K hK => ?_) AllReadyH.nil
    go_simp
    have hB4 := Blk.new w2 61 #[.int .i64 vid, .int .i64 vpar, .int .i64 vx, .int .i64 vy, .int .i64 vw, .int .i64 vh, .bool von]
    have hb4 := hb2.alloc hb2.size (.cells #[.int .i64 vid, .int .i64 vpar, .int .i64 vx, .int .i64 vy, .int .i64 vw, .int .i64 vh, .bool von] 61)
    refine hK.out _ _ (by exact HV.out _ hb4) (fun hHeld => ?_)
    clear hK K
    (try simp only [Act.put, p1, p2, p3, p4, p5, p6])
    refine wpAnyH_done (by kernel_rfl) ?_ _
    refine NoPanic.normal ?_
    go_wp2_with fail
    go_meet
    exact ⟨_, rfl, hB4, hb2.size, hb4⟩
  · go_simp
    have hb2 := H1.out.2.2.2.alloc H1.out.2.2.2.size (.cells #[.int .i64 0, .int .i64 0, .int .i64 0, .int .i64 0, .int .i64 0, .int .i64 0, .bool false] 61)
    have hB0 := Blk.new w1 61 #[.int .i64 0, .int .i64 0, .int .i64 0, .int .i64 0, .int .i64 0, .int .i64 0, .bool false]
    refine hK.out _ _ (by exact HV.out _ hb2.drew) (fun hHeld => ?_)
    clear hK K
    (try simp only [Act.put, p1, p2, p3, p4, p5, p6])
    refine wpAnyH_ready (rs := [4]) (by kernel_rfl) (by simp) ?_
    refine AllReadyH.cons rfl (fun K hK => ?_) AllReadyH.nil
    go_simp
    refine (HP.out _ hb2.drew).mono ?_
    rintro ex w2 ⟨rfl, hb0⟩; have hb3 := hb0.on hb2.drew hb2.size; have hB := hB0.drew.next hb0; clear hb0
    (try dsimp only)
    refine hK.out _ _ (by exact HV.out _ hb3) (fun hHeld => ?_)
    clear hK K
    (try simp only [Act.put, p1, p2, p3, p4, p5, p6])
    refine tk 5 ?vr5 rfl ?yr5 ?rr5
    case yr5 => (intro q h; (try dsimp only at h); go_simp; (try with_reducible rfl))
    (try simp only [Act.put, p1, p2, p3, p4, p5, p6])
    refine tk 6 ?vr6 rfl ?yr6 ?rr6
    case yr6 => (intro q h; (try dsimp only at h); go_simp; (try with_reducible rfl))
    (try simp only [Act.put, p1, p2, p3, p4, p5, p6])
    obtain ⟨⟨z0, z1, z2, z3, z4, z5, z6⟩, ⟨f0, f1, f2, f3, f4, f5, f6⟩⟩ := hB.c7
    refine wpAnyH_ready (rs := [8]) (by kernel_rfl) (by simp) ?_
    refine AllReadyH.cons rfl (fun K hK => ?_) AllReadyH.nil
    go_simp
    refine hK.out _ _ (by exact HV.out _ (set7 hb3 H1.out.2.2.2.size _ _ _ _ _ _ _)) (fun hHeld => ?_)
    clear hK K
    (try simp only [Act.put, p1, p2, p3, p4, p5, p6])
    refine wpAnyH_done (by kernel_rfl) ?_ _
    refine NoPanic.normal ?_
    go_wp2_with fail
    go_meet
    exact ⟨_, rfl, chain7 hB _ _ _ _ _ _ _, H1.out.2.2.2.size, set7 hb3 H1.out.2.2.2.size _ _ _ _ _ _ _⟩
 case rest =>
  obtain ⟨g, rfl, hB, hg, hbc⟩ := hcut
  have H3 := Lib.hid (H0.out.next hbc)
  obtain ⟨x0, x1, x2, x3, x4, x5⟩ := H3.out.1.at6.1
  have hgn : w.heap.size + 1 + 1 < g := Nat.lt_of_lt_of_le H0.out.2.2.1.lt hg
  obtain ⟨⟨y0, y1, y2, y3, y4, y5, y6⟩, ⟨yf0, yf1, yf2, yf3, yf4, yf5, yf6⟩⟩ := hB.c7
  go_upto_region 13 with fail
  obtain ⟨wd, hwd⟩ : ∃ wd, wd = wc.setCell ⟨g, 6, none⟩ (.bool true) := ⟨_, rfl⟩
  have hBd : Blk wd g 61 #[.int .i64 vid, .int .i64 vpar, .int .i64 vx, .int .i64 vy, .int .i64 vw, .int .i64 vh, .bool true] := by
    rw [hwd]
    have := hB.set_ 6 (.bool true)
    simpa using this
  have hbd : Below wb.heap.size wb wd := by rw [hwd]; exact hbc.setCell hg _
  rw [← hwd]
  clear hwd y0 y1 y2 y3 y4 y5 y6 yf0 yf1 yf2 yf3 yf4 yf5 yf6 x0 x1 x2 x3 x4 x5 hB hg hbc
  have Hd := Lib.hid (H0.out.next hbd)
  have HSd := Lib.hid (fun W (hW : Below wd.heap.size wd W) => (show ((W.cell? ⟨w.heap.size, 0, none⟩ = some (.int .i64 R.x) ∧ W.cell? ⟨w.heap.size, 1, none⟩ = some (.int .i64 R.y) ∧ W.cell? ⟨w.heap.size, 2, none⟩ = some (.int .i64 R.w) ∧ W.cell? ⟨w.heap.size, 3, none⟩ = some (.int .i64 R.h) ∧ W.cell? ⟨w.heap.size, 4, none⟩ = some (.int .i64 R.last) ∧ W.cell? ⟨w.heap.size, 5, none⟩ = some (.slice (some ⟨b, o, none⟩) n c)) ∧ W.cell? ⟨g, 0, none⟩ = some (.int .i64 vid) ∧ W.cell? ⟨g, 1, none⟩ = some (.int .i64 vpar) ∧ W.cell? ⟨g, 2, none⟩ = some (.int .i64 vx) ∧ W.cell? ⟨g, 3, none⟩ = some (.int .i64 vy) ∧ W.cell? ⟨g, 4, none⟩ = some (.int .i64 vw) ∧ W.cell? ⟨g, 5, none⟩ = some (.int .i64 vh) ∧ W.cell? ⟨g, 6, none⟩ = some (.bool true)) from ⟨(Hd.out.next hW).1.at6.1, (hBd.next hW).c7.1⟩))
  have HFd := Lib.hid (fun W (hW : Below wd.heap.size wd W) => HF.out W (hW.on hbd hbd.size))
  have HPd := Lib.hid (fun W (hW : Below wd.heap.size wd W) => HP.out W (hW.on hbd hbd.size))
  obtain ⟨x0, x1, x2, x3, x4, x5⟩ := Hd.out.1.at6.1
  obtain ⟨t0, t1, t2, t3, t4, t5⟩ := (Hd.out.next ((Below.refl wd.heap.size wd).alloc (Nat.le_refl _) (.cells #[] 61))).1.at6.1
  have HNE := Lib.hid (show L ≠ [] from fun h => by rw [h] at HVV; have := HVV.out; simp at this)
  have HKL := Lib.hid (show k < L.length from (List.getElem?_eq_some_iff.1 HVV.out).1)
  clear hbd hBd
  go_wp2_with (at_builtin; refine list_app rfl (.tmp 62) (.tmp 64) 52 rfl wd.heap.size 61 i0 (.agg #[.int .i64 0, .int .i64 0, .int .i64 0, .int .i64 0, .int .i64 0, .int .i64 0, .bool false]) 7 56 Tryz.underlying52 hi0 hz0 hz1 hz2 rfl (by decide) _ _ _ (by rfl) (own_zero (Blk.new wd 61 #[]) (Nat.le_refl _)) _ _ _ _ (by rfl) (HFd.out _ ((Below.refl _ _).alloc (Nat.le_refl _) _)) (flatW_one _) (by unfold maxLen; have := HL.out; simp; omega) (by have := HL.out; simp; omega) (by simp) ?_; intro v5 w5 ho5 hg5; have ov : OwK encW 61 7 w5 wd.heap.size v5 L := (by have h := ho5; rw [Nat.zero_add, List.nil_append] at h; exact h); have b5 := below_only ((Below.refl wd.heap.size wd).alloc (Nat.le_refl _) (.cells #[] 61)) hg5 (by simp) (fun k hk => (World.ownsRow.lt (own_zero (Blk.new wd 61 #[]) (Nat.le_refl _)) k hk).1); obtain ⟨g5, c5, hv5, hgb5, hgl5, hcell5, hfr5⟩ := OwK.form encW_len ov HNE.out; rw [← HN.out] at hv5; subst hv5; have OV := Lib.hid ov; have B5 := Lib.hid b5; have HC5 := Lib.hid hcell5; have HF5 := Lib.hid hfr5; have HG5 := Lib.hid hgb5; have HGL := Lib.hid hgl5; clear ho5 hg5 ov b5 hcell5 hfr5 hgb5 hgl5)
  refine wp_region_noPanic ?_
  refine wp_region_held_drew (S := fun wx => (wx.cell? ⟨w.heap.size, 0, none⟩ = some (.int .i64 R.x) ∧ wx.cell? ⟨w.heap.size, 1, none⟩ = some (.int .i64 R.y) ∧ wx.cell? ⟨w.heap.size, 2, none⟩ = some (.int .i64 R.w) ∧ wx.cell? ⟨w.heap.size, 3, none⟩ = some (.int .i64 R.h) ∧ wx.cell? ⟨w.heap.size, 4, none⟩ = some (.int .i64 R.last) ∧ wx.cell? ⟨w.heap.size, 5, none⟩ = some (.slice (some ⟨b, o, none⟩) n c)) ∧ wx.cell? ⟨g, 0, none⟩ = some (.int .i64 vid) ∧ wx.cell? ⟨g, 1, none⟩ = some (.int .i64 vpar) ∧ wx.cell? ⟨g, 2, none⟩ = some (.int .i64 vx) ∧ wx.cell? ⟨g, 3, none⟩ = some (.int .i64 vy) ∧ wx.cell? ⟨g, 4, none⟩ = some (.int .i64 vw) ∧ wx.cell? ⟨g, 5, none⟩ = some (.int .i64 vh) ∧ wx.cell? ⟨g, 6, none⟩ = some (.bool true)) (by kernel_rfl) (by exact HSd.out _ B5.out.drew) (fun hHeld => ?_)
  refine tk 0 ?vm0 rfl ?ym0 ?rm0
  case ym0 => (intro q h; (try dsimp only at h); go_simp; (try with_reducible rfl))
  (try simp only [Act.put, p1, p3, p4, p5, p6])
  refine tk 1 ?vm1 rfl ?ym1 ?rm1
  case ym1 => (intro q h; (try dsimp only at h); go_simp; (try with_reducible rfl))
  (try simp only [Act.put, p1, p2, p3, p4, p5, p6])
  refine tk 2 ?vm2 rfl ?ym2 ?rm2
  case ym2 => (intro q h; (try dsimp only at h); go_simp; (try with_reducible rfl))
  (try simp only [Act.put, p1, p2, p3, p4, p5, p6])
  refine tk 4 ?vm4 rfl ?ym4 ?rm4
  case ym4 => (intro q h; (try dsimp only at h); go_simp; (try with_reducible rfl))
  (try simp only [Act.put, p1, p2, p3, p4, p5, p6])
  refine wpAnyH_ready (rs := [3]) (by kernel_rfl) (by simp) ?_
  refine AllReadyH.cons rfl (fun K hK => ?_) AllReadyH.nil
  go_simp
  refine (HPd.out _ B5.out.drew).mono ?_
  rintro ex w6 ⟨rfl, hb0⟩; have hb1 : Below w5.heap.size w5 w6 := ((Below.refl _ w5).drew).trans hb0; have B6 := Lib.hid (hb1.on B5.out B5.out.size); have OV6 := Lib.hid (OwK.below OV.out hb1); clear hb0
  (try dsimp only)
  refine hK.out _ _ (by exact HSd.out _ B6.out) (fun hHeld => ?_)
  clear hK K
  (try simp only [Act.put, p1, p2, p3, p4, p5, p6])
  refine tk 5 ?vm5 rfl ?ym5 ?rm5
  case ym5 => (intro q h; (try dsimp only at h); go_simp; (try with_reducible rfl))
  (try simp only [Act.put, p1, p2, p3, p4, p5, p6])
  obtain ⟨z0, z1, z2, z3, z4, z5, z6, f0, f1, f2, f3, f4, f5, f6⟩ := win_cells (HN.out ▸ OV6.out) HVV.out
  refine wpAnyH_ready (rs := [6]) (by kernel_rfl) (by simp) ?_
  refine AllReadyH.cons rfl (fun K hK => ?_) AllReadyH.nil
  go_simp
  have hst := OwK.win_set ⟨vid, vpar, vx, vy, vw, vh, true⟩ HKL.out (HN.out ▸ OV6.out)
  have B7 := Lib.hid (set7k (k := k) B6.out HG5.out (.int .i64 vid) (.int .i64 vpar) (.int .i64 vx) (.int .i64 vy) (.int .i64 vw) (.int .i64 vh) (.bool true))
  refine hK.out _ _ (by exact HSd.out _ B7.out) (fun hHeld => ?_)
  clear hK K
  (try simp only [Act.put, p1, p2, p3, p4, p5, p6])
  rw [← HN.out] at hst
  have OS := Lib.hid hst
  clear hst z0 z1 z2 z3 z4 z5 z6 f0 f1 f2 f3 f4 f5 f6
  refine wpAnyH_done (by kernel_rfl) ?_ _
  refine NoPanic.normal ?_
  have H7 := Lib.hid (Hd.out.next B7.out)
  generalize (((((((w6.setCell ⟨g5, k * 7, none⟩ (.int .i64 vid)).setCell ⟨g5, k * 7 + 1, none⟩ (.int .i64 vpar)).setCell ⟨g5, k * 7 + 2, none⟩ (.int .i64 vx)).setCell ⟨g5, k * 7 + 3, none⟩ (.int .i64 vy)).setCell ⟨g5, k * 7 + 4, none⟩ (.int .i64 vw)).setCell ⟨g5, k * 7 + 5, none⟩ (.int .i64 vh)).setCell ⟨g5, k * 7 + 6, none⟩ (.bool true)) = w7 at H7 OS B7 ⊢
  obtain ⟨q0, q1, q2, q3, q4, q5⟩ := H7.out.1.at6.1
  go_wp2_with (go_at_call 85; ((with_reducible refine (with_c R _ _ _ _ _ _ w7).mono ?_); rintro ex w8 ⟨rfl, hb8⟩); have H8 := Lib.hid (H7.out.next hb8); have OF8 := Lib.hid (OwK.below OS.out hb8); obtain ⟨⟨z0, z1, z2, z3, z4, z5⟩, ⟨f0, f1, f2, f3, f4, f5⟩⟩ := H8.out.2.2.1.at6; clear hb8)
  refine bodyPost_ret (v := .tuple #[refV R (.slice (some ⟨g5, 0, none⟩) n c5), .int .i64 0]) (by simp [results, Tryz.results117, go_sem, z0, z1, z2, z3, z4, z5]) rfl ?_
  have hb := set6 (H8.out.2.2.2.on HB.out HB.out.size) (g := w.heap.size + 1 + 1) (by omega) (.int .i64 R.x) (.int .i64 R.y) (.int .i64 R.w) (.int .i64 R.h) (.int .i64 R.last) (.slice (some ⟨g5, 0, none⟩) n c5)
  exact ⟨_, rfl, row6 (OwK.less OF8.out (Nat.zero_le _)) H8.out.2.2.1 (fun k hk => by have h1 := (World.ownsRow.lt OF8.out k hk).1; have h2 := Hd.out.2.2.1.lt; omega) _ _ _ _ _ _, hb⟩
set_option maxRecDepth 100000 in
set_option maxHeartbeats 600000 in
theorem rchange_unmap (h : RO w sv L) (hL : L.length ≤ 1048570) {i x y a e : Int} {k : Nat} {v : Win} (hk : placeN i L = some k) (hv : L[k]? = some v) (hi : i ≠ 0) :
  Calls Tryz.prog 117 #[refV R sv, .int .i64 4, .int .i64 i, .agg #[.int .i64 x, .int .i64 y, .int .i64 a, .int .i64 e]] w fun ex w' => ChR w R (L.set k ⟨v.id, v.par, v.x, v.y, v.w, v.h, false⟩) 0 ex w' := by
 have hL := Nat.le_trans hL (show 1048570 ≤ 1048576 by decide)
 obtain ⟨wb, hwb⟩ : ∃ wb, wb = ((w.alloc (.cells (refA R sv) 54)).alloc (.cells #[.int .i64 x, .int .i64 y, .int .i64 a, .int .i64 e] 23)).alloc (.cells zeroT 54) := ⟨_, rfl⟩
 have hbel : Below w.heap.size w wb := by rw [hwb]; exact (((Below.refl _ _).alloc (Nat.le_refl _) _).alloc (by simp) _).alloc (by simp; omega) _
 have hbx : CbX R sv x y a e w.heap.size wb wb := by
  refine ⟨by rw [hwb]; exact ((Blk.new w _ _).alloc _).alloc _, ?_, ?_, Below.refl _ _⟩
  · rw [hwb]
    have := (Blk.new (w.alloc (.cells (refA R sv) 54)) 23 #[.int .i64 x, .int .i64 y, .int .i64 a, .int .i64 e]).alloc (.cells zeroT 54)
    rwa [World.size_alloc] at this
  · rw [hwb]
    have := Blk.new ((w.alloc (.cells (refA R sv) 54)).alloc (.cells #[.int .i64 x, .int .i64 y, .int .i64 a, .int .i64 e] 23)) 54 zeroT
    rwa [World.size_alloc, World.size_alloc] at this
 obtain ⟨p, c, hsv⟩ := OwK.slice h
 obtain ⟨n, hn⟩ : ∃ n, n = L.length := ⟨_, rfl⟩
 rw [← hn] at hsv
 subst hsv
 have HF := Lib.hid (fun W (hW : Below wb.heap.size wb W) => (show RO W (.slice p n c) L from OwK.below (OwK.below h hbel) hW))
 have HO := Lib.hid h
 have HN := Lib.hid hn
 have HL := Lib.hid hL
 obtain ⟨⟨x0, x1, x2, x3, x4, x5⟩, -⟩ := hbx.1.at6
 have H0 := Lib.hid hbx
 have HB := Lib.hid hbel
 have HW := Lib.hid hwb
 have hn0 : (n : Int) ≤ 1048576 := by omega
 obtain ⟨i0, hi0, hz0, hz1, hz2⟩ := info_parts winInfo
 have hvv := placeN_get L k hk
 obtain ⟨v', hv', hvi, hkl⟩ := hvv
 obtain rfl : v' = v := by rw [hv] at hv'; injection hv' with h1; exact h1.symm
 have hask : askL L i = 0 := by
  have h1 : isL L i = true := by unfold isL; rw [hk]; simp
  unfold askL; rw [if_neg (by rw [h1]; simp), if_neg hi]
 have HA := Lib.hid (show Calls Tryz.prog 83 #[refV R (.slice p n c), .int .i64 i] wb fun ex w' => ex = .returned (.int .i64 0) ∧ Below wb.heap.size wb w' from by rw [← hask]; exact asked_c (R := R) (HF.out wb (Below.refl _ _)).rd hL i)
 have HP := Lib.hid (fun W (hW : Below wb.heap.size wb W) => (show Calls Tryz.prog 64 #[refV R (.slice p n c), .int .i64 i] W fun ex w' => ex = .returned (.int .i64 (k : Int)) ∧ Below W.heap.size W w' from by
  have h1 := place_c (R := R) (HF.out W hW).rd hL i
  rw [hk] at h1; exact h1))
 have hcell : ∃ b o, p = some ⟨b, o, none⟩ ∧ b < wb.heap.size ∧ ∀ (i : Nat) (u : Value), (encW v')[i]? = some u → wb.cell? ⟨b, o + k * 7 + i, none⟩ = some u := by
  obtain ⟨p0, c0, e0, hcell⟩ := (HF.out wb (Below.refl _ _)).rd
  injection e0 with e0 _ _
  subst e0
  exact hcell k v' hv
 obtain ⟨b, o, hpb, hb1, hb2⟩ := hcell
 have HPB := Lib.hid hpb
 clear hpb
 obtain ⟨vid, vpar, vx, vy, vw, vh, von⟩ := v'
 have HV := Lib.hid (fun W (hW : Below wb.heap.size wb W) => (show ((W.cell? ⟨w.heap.size, 0, none⟩ = some (.int .i64 R.x) ∧ W.cell? ⟨w.heap.size, 1, none⟩ = some (.int .i64 R.y) ∧ W.cell? ⟨w.heap.size, 2, none⟩ = some (.int .i64 R.w) ∧ W.cell? ⟨w.heap.size, 3, none⟩ = some (.int .i64 R.h) ∧ W.cell? ⟨w.heap.size, 4, none⟩ = some (.int .i64 R.last) ∧ W.cell? ⟨w.heap.size, 5, none⟩ = some (.slice p n c)) ∧ W.cell? ⟨b, o + k * 7, none⟩ = some (.int .i64 vid) ∧ W.cell? ⟨b, o + k * 7 + 1, none⟩ = some (.int .i64 vpar) ∧ W.cell? ⟨b, o + k * 7 + 2, none⟩ = some (.int .i64 vx) ∧ W.cell? ⟨b, o + k * 7 + 3, none⟩ = some (.int .i64 vy) ∧ W.cell? ⟨b, o + k * 7 + 4, none⟩ = some (.int .i64 vw) ∧ W.cell? ⟨b, o + k * 7 + 5, none⟩ = some (.int .i64 vh) ∧ W.cell? ⟨b, o + k * 7 + 6, none⟩ = some (.bool von)) from by
  have hx := (H0.out.next hW).1.at6.1
  have hr := RW.cells (w := W) (v := ⟨vid, vpar, vx, vy, vw, vh, von⟩) (fun i u hu => (hW.cell (p := ⟨b, o + k * 7 + i, none⟩) hb1).trans (hb2 i u hu))
  exact ⟨hx, hr⟩))
 have hk0 : (0 : Int) ≤ (k : Int) := by omega
 have hk1 : (k : Int) < (n : Int) := by omega
 have HI := Lib.hid hi
 have HKP := Lib.hid hk
 have HVV := Lib.hid hv
 clear h hbel hbx hn hask hb1 hb2 hv hv' hk hi hvi
 go_enter Tryz.func117, Tryz.ntmps117
 go_upto_region 1 with fail
 rw [← HW.out]
 clear hwb
 have hpb := HPB.out
 clear HPB
 subst hpb
 go_upto_region 3 with (go_at_call 83; ((with_reducible refine (HA.out).mono ?_); rintro ex w1 ⟨rfl, hb⟩); have H1 := Lib.hid (H0.out.next hb); obtain ⟨⟨x0, x1, x2, x3, x4, x5⟩, -⟩ := H1.out.1.at6; clear hb)
 go_cut [10] (fun s10 wx => ∃ g, s10 = .pointer (some ⟨g, 0, none⟩) ∧ Blk wx g 61 #[.int .i64 vid, .int .i64 vpar, .int .i64 vx, .int .i64 vy, .int .i64 vw, .int .i64 vh, .bool von] ∧ wb.heap.size ≤ g ∧ Below wb.heap.size wb wx)
 case first =>
  refine wp_region_noPanic ?_
  refine wp_region_held_drew (S := fun wx => (wx.cell? ⟨w.heap.size, 0, none⟩ = some (.int .i64 R.x) ∧ wx.cell? ⟨w.heap.size, 1, none⟩ = some (.int .i64 R.y) ∧ wx.cell? ⟨w.heap.size, 2, none⟩ = some (.int .i64 R.w) ∧ wx.cell? ⟨w.heap.size, 3, none⟩ = some (.int .i64 R.h) ∧ wx.cell? ⟨w.heap.size, 4, none⟩ = some (.int .i64 R.last) ∧ wx.cell? ⟨w.heap.size, 5, none⟩ = some (.slice (some ⟨b, o, none⟩) n c)) ∧ wx.cell? ⟨b, o + k * 7, none⟩ = some (.int .i64 vid) ∧ wx.cell? ⟨b, o + k * 7 + 1, none⟩ = some (.int .i64 vpar) ∧ wx.cell? ⟨b, o + k * 7 + 2, none⟩ = some (.int .i64 vx) ∧ wx.cell? ⟨b, o + k * 7 + 3, none⟩ = some (.int .i64 vy) ∧ wx.cell? ⟨b, o + k * 7 + 4, none⟩ = some (.int .i64 vw) ∧ wx.cell? ⟨b, o + k * 7 + 5, none⟩ = some (.int .i64 vh) ∧ wx.cell? ⟨b, o + k * 7 + 6, none⟩ = some (.bool von)) (by kernel_rfl) (by exact HV.out _ H1.out.2.2.2.drew) (fun hHeld => ?_)
  refine tk 0 ?vp0 rfl ?yp0 ?rp0
  case yp0 => (intro q h; (try dsimp only at h); go_simp; (try with_reducible rfl))
  (try simp only [Act.put, p1, p3, p4, p5, p6])
  refine tk 1 ?vp1 rfl ?yp1 ?rp1
  case yp1 => (intro q h; (try dsimp only at h); go_simp; (try with_reducible rfl))
  (try simp only [Act.put, p1, p2, p3, p4, p5, p6])
  refine tk 2 ?vp2 rfl ?yp2 ?rp2
  case yp2 => (intro q h; (try dsimp only at h); go_simp; (try with_reducible rfl))
  (try simp only [Act.put, p1, p2, p3, p4, p5, p6])
  refine tk 3 ?vp3 rfl ?yp3 ?rp3
  case yp3 => (intro q h; (try dsimp only at h); go_simp; (try with_reducible rfl))
  (try simp only [Act.put, p1, p2, p3, p4, p5, p6])
  refine wpAnyH_ready (rs := [4, 7]) (by kernel_rfl) (by simp) ?_
  refine AllReadyH.cons rfl (fun K hK => ?_) (AllReadyH.cons rfl (fun K hK => ?_) AllReadyH.nil)
  · go_simp
    refine (HP.out _ H1.out.2.2.2.drew).mono ?_
    rintro ex w2 ⟨rfl, hb0⟩; have hb1 : Below w1.heap.size w1 w2 := ((Below.refl _ w1).drew).trans hb0; have hb2 := hb1.on H1.out.2.2.2 H1.out.2.2.2.size; clear hb0
    (try dsimp only)
    refine hK.out _ _ (by exact HV.out _ hb2) (fun hHeld => ?_)
    clear hK K
    (try simp only [Act.put, p1, p2, p3, p4, p5, p6])
    refine tk 5 ?vq5 rfl ?yq5 ?rq5
    case yq5 => (intro q h; (try dsimp only at h); go_simp; (try with_reducible rfl))
    (try simp only [Act.put, p1, p2, p3, p4, p5, p6])
    refine tk 6 ?vq6 rfl ?yq6 ?rq6
    case yq6 => (intro q h; (try dsimp only at h); go_simp; (try with_reducible rfl))
    (try simp only [Act.put, p1, p2, p3, p4, p5, p6])
    refine wpAnyH_ready (rs := [7]) (by kernel_rfl) (by simp) ?_
    refine AllReadyH.cons rfl (fun K hK => ?_) AllReadyH.nil
    go_simp
    have hB := Blk.new w2 61 #[.int .i64 0, .int .i64 0, .int .i64 0, .int .i64 0, .int .i64 0, .int .i64 0, .bool false]
    have hb3 := hb2.alloc hb2.size (.cells #[.int .i64 0, .int .i64 0, .int .i64 0, .int .i64 0, .int .i64 0, .int .i64 0, .bool false] 61)
    refine hK.out _ _ (by exact HV.out _ hb3) (fun hHeld => ?_)
    clear hK K
    (try simp only [Act.put, p1, p2, p3, p4, p5, p6])
    obtain ⟨⟨z0, z1, z2, z3, z4, z5, z6⟩, ⟨f0, f1, f2, f3, f4, f5, f6⟩⟩ := hB.c7
    refine wpAnyH_ready (rs := [8]) (by kernel_rfl) (by simp) ?_
    refine AllReadyH.cons rfl (fun K hK => ?_) AllReadyH.nil
    go_simp
    have hB4 := Blk.new w2 61 #[.int .i64 vid, .int .i64 vpar, .int .i64 vx, .int .i64 vy, .int .i64 vw, .int .i64 vh, .bool von]
    have hb4 := hb2.alloc hb2.size (.cells #[.int .i64 vid, .int .i64 vpar, .int .i64 vx, .int .i64 vy, .int .i64 vw, .int .i64 vh, .bool von] 61)
    refine hK.out _ _ (by exact HV.out _ hb4) (fun hHeld => ?_)
    clear hK K
    (try simp only [Act.put, p1, p2, p3, p4, p5, p6])
    refine wpAnyH_done (by kernel_rfl) ?_ _
    refine NoPanic.normal ?_
    go_wp2_with fail
    go_meet
    exact ⟨_, rfl, hB4, hb2.size, hb4⟩
  · go_simp
    have hb2 := H1.out.2.2.2.alloc H1.out.2.2.2.size (.cells #[.int .i64 0, .int .i64 0, .int .i64 0, .int .i64 0, .int .i64 0, .int .i64 0, .bool false] 61)
    have hB0 := Blk.new w1 61 #[.int .i64 0, .int .i64 0, .int .i64 0, .int .i64 0, .int .i64 0, .int .i64 0, .bool false]
    refine hK.out _ _ (by exact HV.out _ hb2.drew) (fun hHeld => ?_)
    clear hK K
    (try simp only [Act.put, p1, p2, p3, p4, p5, p6])
    refine wpAnyH_ready (rs := [4]) (by kernel_rfl) (by simp) ?_
    refine AllReadyH.cons rfl (fun K hK => ?_) AllReadyH.nil
    go_simp
    refine (HP.out _ hb2.drew).mono ?_
    rintro ex w2 ⟨rfl, hb0⟩; have hb3 := hb0.on hb2.drew hb2.size; have hB := hB0.drew.next hb0; clear hb0
    (try dsimp only)
    refine hK.out _ _ (by exact HV.out _ hb3) (fun hHeld => ?_)
    clear hK K
    (try simp only [Act.put, p1, p2, p3, p4, p5, p6])
    refine tk 5 ?vr5 rfl ?yr5 ?rr5
    case yr5 => (intro q h; (try dsimp only at h); go_simp; (try with_reducible rfl))
    (try simp only [Act.put, p1, p2, p3, p4, p5, p6])
    refine tk 6 ?vr6 rfl ?yr6 ?rr6
    case yr6 => (intro q h; (try dsimp only at h); go_simp; (try with_reducible rfl))
    (try simp only [Act.put, p1, p2, p3, p4, p5, p6])
    obtain ⟨⟨z0, z1, z2, z3, z4, z5, z6⟩, ⟨f0, f1, f2, f3, f4, f5, f6⟩⟩ := hB.c7
    refine wpAnyH_ready (rs := [8]) (by kernel_rfl) (by simp) ?_
    refine AllReadyH.cons rfl (fun K hK => ?_) AllReadyH.nil
    go_simp
    refine hK.out _ _ (by exact HV.out _ (set7 hb3 H1.out.2.2.2.size _ _ _ _ _ _ _)) (fun hHeld => ?_)
    clear hK K
    (try simp only [Act.put, p1, p2, p3, p4, p5, p6])
    refine wpAnyH_done (by kernel_rfl) ?_ _
    refine NoPanic.normal ?_
    go_wp2_with fail
    go_meet
    exact ⟨_, rfl, chain7 hB _ _ _ _ _ _ _, H1.out.2.2.2.size, set7 hb3 H1.out.2.2.2.size _ _ _ _ _ _ _⟩
 case rest =>
  obtain ⟨g, rfl, hB, hg, hbc⟩ := hcut
  have H3 := Lib.hid (H0.out.next hbc)
  obtain ⟨x0, x1, x2, x3, x4, x5⟩ := H3.out.1.at6.1
  have hgn : w.heap.size + 1 + 1 < g := Nat.lt_of_lt_of_le H0.out.2.2.1.lt hg
  obtain ⟨⟨y0, y1, y2, y3, y4, y5, y6⟩, ⟨yf0, yf1, yf2, yf3, yf4, yf5, yf6⟩⟩ := hB.c7
  go_upto_region 13 with fail
  obtain ⟨wd, hwd⟩ : ∃ wd, wd = wc.setCell ⟨g, 6, none⟩ (.bool false) := ⟨_, rfl⟩
  have hBd : Blk wd g 61 #[.int .i64 vid, .int .i64 vpar, .int .i64 vx, .int .i64 vy, .int .i64 vw, .int .i64 vh, .bool false] := by
    rw [hwd]
    have := hB.set_ 6 (.bool false)
    simpa using this
  have hbd : Below wb.heap.size wb wd := by rw [hwd]; exact hbc.setCell hg _
  rw [← hwd]
  clear hwd y0 y1 y2 y3 y4 y5 y6 yf0 yf1 yf2 yf3 yf4 yf5 yf6 x0 x1 x2 x3 x4 x5 hB hg hbc
  have Hd := Lib.hid (H0.out.next hbd)
  have HSd := Lib.hid (fun W (hW : Below wd.heap.size wd W) => (show ((W.cell? ⟨w.heap.size, 0, none⟩ = some (.int .i64 R.x) ∧ W.cell? ⟨w.heap.size, 1, none⟩ = some (.int .i64 R.y) ∧ W.cell? ⟨w.heap.size, 2, none⟩ = some (.int .i64 R.w) ∧ W.cell? ⟨w.heap.size, 3, none⟩ = some (.int .i64 R.h) ∧ W.cell? ⟨w.heap.size, 4, none⟩ = some (.int .i64 R.last) ∧ W.cell? ⟨w.heap.size, 5, none⟩ = some (.slice (some ⟨b, o, none⟩) n c)) ∧ W.cell? ⟨g, 0, none⟩ = some (.int .i64 vid) ∧ W.cell? ⟨g, 1, none⟩ = some (.int .i64 vpar) ∧ W.cell? ⟨g, 2, none⟩ = some (.int .i64 vx) ∧ W.cell? ⟨g, 3, none⟩ = some (.int .i64 vy) ∧ W.cell? ⟨g, 4, none⟩ = some (.int .i64 vw) ∧ W.cell? ⟨g, 5, none⟩ = some (.int .i64 vh) ∧ W.cell? ⟨g, 6, none⟩ = some (.bool false)) from ⟨(Hd.out.next hW).1.at6.1, (hBd.next hW).c7.1⟩))
  have HFd := Lib.hid (fun W (hW : Below wd.heap.size wd W) => HF.out W (hW.on hbd hbd.size))
  have HPd := Lib.hid (fun W (hW : Below wd.heap.size wd W) => HP.out W (hW.on hbd hbd.size))
  obtain ⟨x0, x1, x2, x3, x4, x5⟩ := Hd.out.1.at6.1
  obtain ⟨t0, t1, t2, t3, t4, t5⟩ := (Hd.out.next ((Below.refl wd.heap.size wd).alloc (Nat.le_refl _) (.cells #[] 61))).1.at6.1
  have HNE := Lib.hid (show L ≠ [] from fun h => by rw [h] at HVV; have := HVV.out; simp at this)
  have HKL := Lib.hid (show k < L.length from (List.getElem?_eq_some_iff.1 HVV.out).1)
  clear hbd hBd
  go_wp2_with (at_builtin; refine list_app rfl (.tmp 62) (.tmp 64) 52 rfl wd.heap.size 61 i0 (.agg #[.int .i64 0, .int .i64 0, .int .i64 0, .int .i64 0, .int .i64 0, .int .i64 0, .bool false]) 7 56 Tryz.underlying52 hi0 hz0 hz1 hz2 rfl (by decide) _ _ _ (by rfl) (own_zero (Blk.new wd 61 #[]) (Nat.le_refl _)) _ _ _ _ (by rfl) (HFd.out _ ((Below.refl _ _).alloc (Nat.le_refl _) _)) (flatW_one _) (by unfold maxLen; have := HL.out; simp; omega) (by have := HL.out; simp; omega) (by simp) ?_; intro v5 w5 ho5 hg5; have ov : OwK encW 61 7 w5 wd.heap.size v5 L := (by have h := ho5; rw [Nat.zero_add, List.nil_append] at h; exact h); have b5 := below_only ((Below.refl wd.heap.size wd).alloc (Nat.le_refl _) (.cells #[] 61)) hg5 (by simp) (fun k hk => (World.ownsRow.lt (own_zero (Blk.new wd 61 #[]) (Nat.le_refl _)) k hk).1); obtain ⟨g5, c5, hv5, hgb5, hgl5, hcell5, hfr5⟩ := OwK.form encW_len ov HNE.out; rw [← HN.out] at hv5; subst hv5; have OV := Lib.hid ov; have B5 := Lib.hid b5; have HC5 := Lib.hid hcell5; have HF5 := Lib.hid hfr5; have HG5 := Lib.hid hgb5; have HGL := Lib.hid hgl5; clear ho5 hg5 ov b5 hcell5 hfr5 hgb5 hgl5)
  refine wp_region_noPanic ?_
  refine wp_region_held_drew (S := fun wx => (wx.cell? ⟨w.heap.size, 0, none⟩ = some (.int .i64 R.x) ∧ wx.cell? ⟨w.heap.size, 1, none⟩ = some (.int .i64 R.y) ∧ wx.cell? ⟨w.heap.size, 2, none⟩ = some (.int .i64 R.w) ∧ wx.cell? ⟨w.heap.size, 3, none⟩ = some (.int .i64 R.h) ∧ wx.cell? ⟨w.heap.size, 4, none⟩ = some (.int .i64 R.last) ∧ wx.cell? ⟨w.heap.size, 5, none⟩ = some (.slice (some ⟨b, o, none⟩) n c)) ∧ wx.cell? ⟨g, 0, none⟩ = some (.int .i64 vid) ∧ wx.cell? ⟨g, 1, none⟩ = some (.int .i64 vpar) ∧ wx.cell? ⟨g, 2, none⟩ = some (.int .i64 vx) ∧ wx.cell? ⟨g, 3, none⟩ = some (.int .i64 vy) ∧ wx.cell? ⟨g, 4, none⟩ = some (.int .i64 vw) ∧ wx.cell? ⟨g, 5, none⟩ = some (.int .i64 vh) ∧ wx.cell? ⟨g, 6, none⟩ = some (.bool false)) (by kernel_rfl) (by exact HSd.out _ B5.out.drew) (fun hHeld => ?_)
  refine tk 0 ?vm0 rfl ?ym0 ?rm0
  case ym0 => (intro q h; (try dsimp only at h); go_simp; (try with_reducible rfl))
  (try simp only [Act.put, p1, p3, p4, p5, p6])
  refine tk 1 ?vm1 rfl ?ym1 ?rm1
  case ym1 => (intro q h; (try dsimp only at h); go_simp; (try with_reducible rfl))
  (try simp only [Act.put, p1, p2, p3, p4, p5, p6])
  refine tk 2 ?vm2 rfl ?ym2 ?rm2
  case ym2 => (intro q h; (try dsimp only at h); go_simp; (try with_reducible rfl))
  (try simp only [Act.put, p1, p2, p3, p4, p5, p6])
  refine tk 4 ?vm4 rfl ?ym4 ?rm4
  case ym4 => (intro q h; (try dsimp only at h); go_simp; (try with_reducible rfl))
  (try simp only [Act.put, p1, p2, p3, p4, p5, p6])
  refine wpAnyH_ready (rs := [3]) (by kernel_rfl) (by simp) ?_
  refine AllReadyH.cons rfl (fun K hK => ?_) AllReadyH.nil
  go_simp
  refine (HPd.out _ B5.out.drew).mono ?_
  rintro ex w6 ⟨rfl, hb0⟩; have hb1 : Below w5.heap.size w5 w6 := ((Below.refl _ w5).drew).trans hb0; have B6 := Lib.hid (hb1.on B5.out B5.out.size); have OV6 := Lib.hid (OwK.below OV.out hb1); clear hb0
  (try dsimp only)
  refine hK.out _ _ (by exact HSd.out _ B6.out) (fun hHeld => ?_)
  clear hK K
  (try simp only [Act.put, p1, p2, p3, p4, p5, p6])
  refine tk 5 ?vm5 rfl ?ym5 ?rm5
  case ym5 => (intro q h; (try dsimp only at h); go_simp; (try with_reducible rfl))
  (try simp only [Act.put, p1, p2, p3, p4, p5, p6])
  obtain ⟨z0, z1, z2, z3, z4, z5, z6, f0, f1, f2, f3, f4, f5, f6⟩ := win_cells (HN.out ▸ OV6.out) HVV.out
  refine wpAnyH_ready (rs := [6]) (by kernel_rfl) (by simp) ?_
  refine AllReadyH.cons rfl (fun K hK => ?_) AllReadyH.nil
  go_simp
  have hst := OwK.win_set ⟨vid, vpar, vx, vy, vw, vh, false⟩ HKL.out (HN.out ▸ OV6.out)
  have B7 := Lib.hid (set7k (k := k) B6.out HG5.out (.int .i64 vid) (.int .i64 vpar) (.int .i64 vx) (.int .i64 vy) (.int .i64 vw) (.int .i64 vh) (.bool false))
  refine hK.out _ _ (by exact HSd.out _ B7.out) (fun hHeld => ?_)
  clear hK K
  (try simp only [Act.put, p1, p2, p3, p4, p5, p6])
  rw [← HN.out] at hst
  have OS := Lib.hid hst
  clear hst z0 z1 z2 z3 z4 z5 z6 f0 f1 f2 f3 f4 f5 f6
  refine wpAnyH_done (by kernel_rfl) ?_ _
  refine NoPanic.normal ?_
  have H7 := Lib.hid (Hd.out.next B7.out)
  generalize (((((((w6.setCell ⟨g5, k * 7, none⟩ (.int .i64 vid)).setCell ⟨g5, k * 7 + 1, none⟩ (.int .i64 vpar)).setCell ⟨g5, k * 7 + 2, none⟩ (.int .i64 vx)).setCell ⟨g5, k * 7 + 3, none⟩ (.int .i64 vy)).setCell ⟨g5, k * 7 + 4, none⟩ (.int .i64 vw)).setCell ⟨g5, k * 7 + 5, none⟩ (.int .i64 vh)).setCell ⟨g5, k * 7 + 6, none⟩ (.bool false)) = w7 at H7 OS B7 ⊢
  obtain ⟨q0, q1, q2, q3, q4, q5⟩ := H7.out.1.at6.1
  go_wp2_with (go_at_call 85; ((with_reducible refine (with_c R _ _ _ _ _ _ w7).mono ?_); rintro ex w8 ⟨rfl, hb8⟩); have H8 := Lib.hid (H7.out.next hb8); have OF8 := Lib.hid (OwK.below OS.out hb8); obtain ⟨⟨z0, z1, z2, z3, z4, z5⟩, ⟨f0, f1, f2, f3, f4, f5⟩⟩ := H8.out.2.2.1.at6; clear hb8)
  refine bodyPost_ret (v := .tuple #[refV R (.slice (some ⟨g5, 0, none⟩) n c5), .int .i64 0]) (by simp [results, Tryz.results117, go_sem, z0, z1, z2, z3, z4, z5]) rfl ?_
  have hb := set6 (H8.out.2.2.2.on HB.out HB.out.size) (g := w.heap.size + 1 + 1) (by omega) (.int .i64 R.x) (.int .i64 R.y) (.int .i64 R.w) (.int .i64 R.h) (.int .i64 R.last) (.slice (some ⟨g5, 0, none⟩) n c5)
  exact ⟨_, rfl, row6 (OwK.less OF8.out (Nat.zero_le _)) H8.out.2.2.1 (fun k hk => by have h1 := (World.ownsRow.lt OF8.out k hk).1; have h2 := Hd.out.2.2.1.lt; omega) _ _ _ _ _ _, hb⟩
end
end Go.Proofs.YtnhchpiafchdgaaGreat
end
