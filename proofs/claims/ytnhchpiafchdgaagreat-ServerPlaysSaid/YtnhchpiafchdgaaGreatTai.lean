/- Texts Saq Sar. -/
import Derived.Test.YtnhchpiafchdgaaGreatTah
import Derived.Test.YtnhchpiafchdgaaGreatTae
import Derived.Test.YtnhchpiafchdgaaGreatTaf
import Derived.Test.YtnhchpiafchdgaaGreatTaa
section
namespace Go.Proofs.YtnhchpiafchdgaaGreat
open Go.RowKit Go.Shelf Go.Maps
def dropAll (gs : List Int) (L : List Win) : List Win := gs.foldl (fun l g => dropL g l) L
theorem dropAll_take {gs : List Int} {k : Nat} {x : Int} (hx : gs[k]? = some x) (L : List Win) : dropAll (gs.take (k + 1)) L = dropL x (dropAll (gs.take k) L) := by
 have hk := (List.getElem?_eq_some_iff.1 hx).1
 unfold dropAll
 rw [List.take_succ_eq_append_getElem hk, List.foldl_append]
 rw [List.getElem?_eq_getElem hk] at hx
 injection hx with hx
 rw [hx]; rfl
theorem dropL_le (i : Int) (L : List Win) : (dropL i L).length ≤ L.length := List.length_filter_le _ _
theorem dropAll_len (gs : List Int) : ∀ (L : List Win), (dropAll gs L).length ≤ L.length := by
 induction gs with
 | nil => intro L; exact Nat.le_refl _
 | cons g t ih =>
  intro L
  exact Nat.le_trans (ih (dropL g L)) (dropL_le g L)
def DsX (R : RT) (sv : Value) (g : Nat) (wb W : World) : Prop := Blk W g 54 (refA R sv) ∧ Blk W (g + 1) 54 zeroT ∧ Below wb.heap.size wb W
theorem DsX.next {R : RT} {sv : Value} {g : Nat} {wb W W' : World} (h : DsX R sv g wb W) (hb : Below W.heap.size W W') : DsX R sv g wb W' := ⟨h.1.next hb, h.2.1.next hb, hb.on h.2.2 h.2.2.size⟩
def DsS (R : RT) (g : Nat) (w1 : World) (M : List Win) (wr : World) : Prop :=
 ∃ sv, Blk wr g 54 (refA R sv) ∧ Blk wr (g + 1) 54 zeroT ∧ RO wr sv M ∧ (∀ q, sv.ownBlock = some q → q ≠ g ∧ q ≠ g + 1) ∧ w1.grownBy wr (some g)
theorem grown6 {w1 w : World} {g : Nat} (h : w1.grownBy w (some g)) (v0 v1 v2 v3 v4 v5 : Value) : w1.grownBy ((((((w.setCell ⟨g, 0, none⟩ v0).setCell ⟨g, 1, none⟩ v1).setCell ⟨g, 2, none⟩ v2).setCell ⟨g, 3, none⟩ v3).setCell ⟨g, 4, none⟩ v4).setCell ⟨g, 5, none⟩ v5) (some g) := by
 have e : ∀ (W : World) (i : Nat) (u : Value), w1.grownBy W (some g) → w1.grownBy (W.setCell ⟨g, i, none⟩ u) (some g) := fun W i u hW => only_setCell hW (p := ⟨g, i, none⟩) (.inl rfl) u
 exact e _ 5 v5 (e _ 4 v4 (e _ 3 v3 (e _ 2 v2 (e _ 1 v1 (e _ 0 v0 h)))))
theorem far6 {w : World} {g g' : Nat} {T : TypeId} {cs : Array Value} (h : Blk w g' T cs) (hn : g' ≠ g) (v0 v1 v2 v3 v4 v5 : Value) : Blk ((((((w.setCell ⟨g, 0, none⟩ v0).setCell ⟨g, 1, none⟩ v1).setCell ⟨g, 2, none⟩ v2).setCell ⟨g, 3, none⟩ v3).setCell ⟨g, 4, none⟩ v4).setCell ⟨g, 5, none⟩ v5) g' T cs := by
 have e : ∀ (W : World) (i : Nat) (u : Value), Blk W g' T cs → Blk (W.setCell ⟨g, i, none⟩ u) g' T cs := fun W i u hW => hW.far (p := ⟨g, i, none⟩) hn u
 exact e _ 5 v5 (e _ 4 v4 (e _ 3 v3 (e _ 2 v2 (e _ 1 v1 (e _ 0 v0 h)))))
theorem put6 {w : World} {g : Nat} {T : TypeId} {z0 z1 z2 z3 z4 z5 : Value} (h : Blk w g T #[z0, z1, z2, z3, z4, z5]) (v0 v1 v2 v3 v4 v5 : Value) : Blk ((((((w.setCell ⟨g, 0, none⟩ v0).setCell ⟨g, 1, none⟩ v1).setCell ⟨g, 2, none⟩ v2).setCell ⟨g, 3, none⟩ v3).setCell ⟨g, 4, none⟩ v4).setCell ⟨g, 5, none⟩ v5) g T #[v0, v1, v2, v3, v4, v5] := by
 have := (((((h.set_ 0 v0).set_ 1 v1).set_ 2 v2).set_ 3 v3).set_ 4 v4).set_ 5 v5
 simpa using this
theorem DsS.step {R : RT} {g B : Nat} {w1 w6 : World} {M : List Win} {sv0 sv : Value} (hx : Blk w6 g 54 (refA R sv0)) (hz : Blk w6 (g + 1) 54 zeroT) (ho : OwK encW 61 7 w6 B sv M) (hB : g + 1 < B) (hg : w1.grownBy w6 (some g)) :
  DsS R g w1 M ((((((w6.setCell ⟨g, 0, none⟩ (.int .i64 R.x)).setCell ⟨g, 1, none⟩ (.int .i64 R.y)).setCell ⟨g, 2, none⟩ (.int .i64 R.w)).setCell ⟨g, 3, none⟩ (.int .i64 R.h)).setCell ⟨g, 4, none⟩ (.int .i64 R.last)).setCell ⟨g, 5, none⟩ sv) := by
 have hne : ∀ k, sv.ownBlock = some k → k ≠ g ∧ k ≠ g + 1 := fun k hk => by have := (World.ownsRow.lt ho k hk).1; omega
 exact ⟨sv, put6 hx _ _ _ _ _ _, far6 hz (Nat.succ_ne_self g) _ _ _ _ _ _, row6 (OwK.less ho (Nat.zero_le _)) hx (fun k hk => (hne k hk).1) _ _ _ _ _ _, hne, grown6 hg _ _ _ _ _ _⟩
section
variable {w : World} {R : RT} {sv : Value} {L : List Win}
set_option maxRecDepth 100000 in
set_option maxHeartbeats 600000 in
theorem rdestroy_no (h : RO w sv L) (hL : L.length ≤ 1048576) {i k : Int} (hk : askL L i = k) (hk0 : k ≠ 0) :
  Calls Tryz.prog 87 #[refV R sv, .int .i64 i] w fun ex w' => ∃ sv', ex = .returned (.tuple #[refV R sv', .slice none 0 0, .int .i64 k]) ∧ RO w' sv' L ∧ Below w.heap.size w w' := by
 obtain ⟨wb, hwb⟩ : ∃ wb, wb = (w.alloc (.cells (refA R sv) 54)).alloc (.cells zeroT 54) := ⟨_, rfl⟩
 have hbel : Below w.heap.size w wb := by rw [hwb]; exact ((Below.refl _ _).alloc (Nat.le_refl _) _).alloc (by simp) _
 have hbx : DsX R sv w.heap.size wb wb := by
  refine ⟨by rw [hwb]; exact (Blk.new w _ _).alloc _, ?_, Below.refl _ _⟩
  rw [hwb]
  have := Blk.new (w.alloc (.cells (refA R sv) 54)) 54 zeroT
  rwa [World.size_alloc] at this
 obtain ⟨p, c, hsv⟩ := OwK.slice h
 obtain ⟨n, hn⟩ : ∃ n, n = L.length := ⟨_, rfl⟩
 rw [← hn] at hsv
 subst hsv
 have HF := Lib.hid (fun W (hW : Below wb.heap.size wb W) => (show RO W (.slice p n c) L from OwK.below (OwK.below h hbel) hW))
 have HO := Lib.hid h
 have HN := Lib.hid hn
 have HL := Lib.hid hL
 obtain ⟨x0, x1, x2, x3, x4, x5⟩ := hbx.1.at6.1
 have H0 := Lib.hid hbx
 have HB := Lib.hid hbel
 have HW := Lib.hid hwb
 have hn0 : (n : Int) ≤ 1048576 := by omega
 have HA := Lib.hid (fun W (hW : Below wb.heap.size wb W) => (show Calls Tryz.prog 83 #[refV R (.slice p n c), .int .i64 i] W fun ex w' => ex = .returned (.int .i64 k) ∧ Below W.heap.size W w' from by rw [← hk]; exact asked_c (R := R) (HF.out W hW).rd hL i))
 have h1 : (k == 0) = false := by simpa using hk0
 have h2 : (k != 0) = true := by simp [bne, h1]
 clear h hbel hbx hn hk hk0
 go_enter Tryz.func87, Tryz.ntmps87
 go_upto_region 1 with fail
 rw [← HW.out]
 clear hwb
 go_upto_region 2 with (go_at_call 83; ((with_reducible refine (HA.out _ (Below.refl _ _)).mono ?_); rintro ex w1 ⟨rfl, hb⟩); have H1 := Lib.hid (H0.out.next hb); obtain ⟨x0, x1, x2, x3, x4, x5⟩ := H1.out.1.at6.1; clear hb)
 refine wp_region_noPanic ?_
 refine wp_region_held_drew (S := fun wx => wx.cell? ⟨w.heap.size, 0, none⟩ = some (.int .i64 R.x) ∧ wx.cell? ⟨w.heap.size, 1, none⟩ = some (.int .i64 R.y) ∧ wx.cell? ⟨w.heap.size, 2, none⟩ = some (.int .i64 R.w) ∧ wx.cell? ⟨w.heap.size, 3, none⟩ = some (.int .i64 R.h) ∧ wx.cell? ⟨w.heap.size, 4, none⟩ = some (.int .i64 R.last) ∧ wx.cell? ⟨w.heap.size, 5, none⟩ = some (.slice p n c)) (by kernel_rfl) (by exact H1.out.1.at6.1) (fun hHeld => ?_)
 refine tk 0 ?va0 rfl ?ya0 ?ra0
 case ya0 => (intro q h; (try dsimp only at h); go_simp; (try with_reducible rfl))
 (try simp only [Act.put, p1, p3, p4, p5, p6])
 refine tk 1 ?va1 rfl ?ya1 ?ra1
 case ya1 => (intro q h; (try dsimp only at h); go_simp; (try with_reducible rfl))
 (try simp only [Act.put, p1, p2, p3, p4, p5, p6])
 refine tk 2 ?va2 rfl ?ya2 ?ra2
 case ya2 => (intro q h; (try dsimp only at h); go_simp; (try with_reducible rfl))
 (try simp only [Act.put, p1, p2, p3, p4, p5, p6])
 refine wpAnyH_ready (rs := [3]) (by kernel_rfl) (by simp) ?_
 refine AllReadyH.cons rfl (fun K hK => ?_) AllReadyH.nil
 go_simp
 refine (HA.out _ H1.out.2.2.drew).mono ?_
 rintro ex w2 ⟨rfl, hb0⟩; have hb1 : Below w1.heap.size w1 w2 := ((Below.refl _ w1).drew).trans hb0; have H2 := Lib.hid (H1.out.next hb1); clear hb0 hb1
 (try dsimp only)
 refine hK.out _ _ (by exact H2.out.1.at6.1) (fun hHeld => ?_)
 clear hK K
 (try simp only [Act.put, p1, p2, p3, p4, p5, p6])
 obtain ⟨⟨z0, z1, z2, z3, z4, z5⟩, ⟨f0, f1, f2, f3, f4, f5⟩⟩ := H2.out.2.1.at6
 refine wpAnyH_ready (rs := [4]) (by kernel_rfl) (by simp) ?_
 refine AllReadyH.cons rfl (fun K hK => ?_) AllReadyH.nil
 go_simp
 refine hK.out _ _ (by exact box6 H2.out.1 (by omega) _ _ _ _ _ _) (fun hHeld => ?_)
 clear hK K
 (try simp only [Act.put, p1, p2, p3, p4, p5, p6])
 refine tk 5 ?va5 rfl ?ya5 ?ra5
 case ya5 => (intro q h; (try dsimp only at h); go_simp; (try with_reducible rfl))
 (try simp only [Act.put, p1, p2, p3, p4, p5, p6])
 refine tk 6 ?va6 rfl ?ya6 ?ra6
 case ya6 => (intro q h; (try dsimp only at h); go_simp; (try with_reducible rfl))
 (try simp only [Act.put, p1, p2, p3, p4, p5, p6])
 refine wpAnyH_done (by kernel_rfl) ?_ _
 refine NoPanic.normal ?_
 go_wp2_with fail
 refine bodyPost_ret (v := .tuple #[refV R (.slice p n c), .slice none 0 0, .int .i64 k]) (by simp [results, Tryz.results87, go_sem, z0, z1, z2, z3, z4, z5]) rfl ?_
 have hb := set6 (H2.out.2.2.on HB.out HB.out.size) (g := w.heap.size + 1) (by omega) (.int .i64 R.x) (.int .i64 R.y) (.int .i64 R.w) (.int .i64 R.h) (.int .i64 R.last) (.slice p n c)
 exact ⟨_, rfl, row6 (HF.out _ H2.out.2.2) H2.out.2.1 (fun k hk e => by have h1 := (World.ownsRow.lt HO.out k hk).2; omega) _ _ _ _ _ _, hb⟩
set_option maxRecDepth 100000 in
set_option maxHeartbeats 1000000 in
theorem rdestroy_yes (h : RO w sv L) (hL : L.length ≤ 1048576) {i : Int} {m : Nat} (hask : askL L i = 0) (hT : Tall (ndL R L) m i) (hlen : (allL (ndL R L) m i).length ≤ 1048576) :
  Calls Tryz.prog 87 #[refV R sv, .int .i64 i] w fun ex w' => ∃ sv' gv, ex = .returned (.tuple #[refV R sv', gv, .int .i64 0]) ∧ RO w' sv' (dropAll (allL (ndL R L) m i) L) ∧ (RdI w' gv (allL (ndL R L) m i) ∧ ∀ g, gv.ownBlock = some g → w.heap.size ≤ g) ∧ Below w.heap.size w w' := by
 obtain ⟨wb, hwb⟩ : ∃ wb, wb = (w.alloc (.cells (refA R sv) 54)).alloc (.cells zeroT 54) := ⟨_, rfl⟩
 have hbel : Below w.heap.size w wb := by rw [hwb]; exact ((Below.refl _ _).alloc (Nat.le_refl _) _).alloc (by simp) _
 have hbx : DsX R sv w.heap.size wb wb := by
  refine ⟨by rw [hwb]; exact (Blk.new w _ _).alloc _, ?_, Below.refl _ _⟩
  rw [hwb]
  have := Blk.new (w.alloc (.cells (refA R sv) 54)) 54 zeroT
  rwa [World.size_alloc] at this
 obtain ⟨p, c, hsv⟩ := OwK.slice h
 obtain ⟨n, hn⟩ : ∃ n, n = L.length := ⟨_, rfl⟩
 rw [← hn] at hsv
 subst hsv
 have HF := Lib.hid (fun W (hW : Below wb.heap.size wb W) => (show RO W (.slice p n c) L from OwK.below (OwK.below h hbel) hW))
 have HO := Lib.hid h
 have HN := Lib.hid hn
 have HL := Lib.hid hL
 obtain ⟨x0, x1, x2, x3, x4, x5⟩ := hbx.1.at6.1
 have H0 := Lib.hid hbx
 have HB := Lib.hid hbel
 have HW := Lib.hid hwb
 have hn0 : (n : Int) ≤ 1048576 := by omega
 have HA := Lib.hid (show Calls Tryz.prog 83 #[refV R (.slice p n c), .int .i64 i] wb fun ex w' => ex = .returned (.int .i64 0) ∧ Below wb.heap.size wb w' from by rw [← hask]; exact asked_c (R := R) (HF.out wb (Below.refl _ _)).rd hL i)
 have HAL := Lib.hid (fun W (hW : Below wb.heap.size wb W) => rall_c (R := R) hL m i _ W (HF.out W hW).rd hT hlen)
 have HLE := Lib.hid hlen
 obtain ⟨gone, hgo⟩ : ∃ gone, gone = allL (ndL R L) m i := ⟨_, rfl⟩
 rw [← hgo] at HAL HLE ⊢
 obtain ⟨ng, hng⟩ : ∃ ng, ng = gone.length := ⟨_, rfl⟩
 rw [← hng] at HAL HLE
 have HNG := Lib.hid hng
 have hg0 : (ng : Int) ≤ 1048576 := by have := HLE.out; omega
 clear h hbel hbx hn hask hT hlen hgo hng
 go_enter Tryz.func87, Tryz.ntmps87
 go_upto_region 1 with fail
 rw [← HW.out]
 clear hwb
 go_upto_region 3 with (go_at_call 83; ((with_reducible refine (HA.out).mono ?_); rintro ex w0 ⟨rfl, hb⟩); have H1 := Lib.hid (H0.out.next hb); obtain ⟨x0, x1, x2, x3, x4, x5⟩ := H1.out.1.at6.1; have hW1 : Below wb.heap.size wb w0 := H1.out.2.2; clear hb)
 go_upto_region 4 with (go_at_call 115; ((with_reducible refine (HAL.out _ hW1).mono ?_); rintro ex w1 ⟨v1, rfl, ho1, hb1⟩); have hrd : RdI w1 v1 gone := RdI.of (B := w0.heap.size) (by rw [← HNG.out]; exact ho1); obtain ⟨p1, c1, hv1, hc1⟩ := hrd; rw [← HNG.out] at hv1; subst hv1; have HC1 := Lib.hid hc1; have HX1 := Lib.hid (H1.out.next hb1); have HOW := Lib.hid ho1; clear hc1 hb1 ho1)
 clear x0 x1 x2 x3 x4 x5
 have HLT := Lib.hid (HX1.out.1.lt)
 have HGE := Lib.hid (fun (g : Nat) (hg : p1 = some ⟨g, 0, none⟩) => (show g ≠ w.heap.size ∧ g ≠ w.heap.size + 1 from by
  have h1 := (World.ownsRow.lt HOW.out g (by rw [hg]; rfl)).1
  have h2 := H1.out.2.1.lt
  omega))
 go_wp2_with fail
 go_loopw [8] (fun z wr => ∃ k : Nat, k ≤ ng ∧ z = .int .i64 k ∧ DsS R w.heap.size w1 (dropAll (gone.take k) L) wr) (fun z _ => ng - (intOf z).toNat)
 case atStart => exact ⟨0, Nat.zero_le _, rfl, .slice p n c, HX1.out.1, HX1.out.2.1, HF.out _ HX1.out.2.2, fun q hq => by have h1 := (World.ownsRow.lt HO.out q hq).2; omega, World.grownBy.refl _ _⟩
 case round =>
  obtain ⟨k, hk, rfl, svr, hB, hZ, hR, hne, hgr⟩ := hrel
  obtain ⟨M, hM⟩ : ∃ M, M = dropAll (gone.take k) L := ⟨_, rfl⟩
  rw [← hM] at hR
  have hML : M.length ≤ 1048576 := by rw [hM]; exact Nat.le_trans (dropAll_len _ _) hL
  have HM := Lib.hid hM
  obtain ⟨pr, nr, cr, rfl⟩ := own_sl hR
  have hi0 : (0 : Int) ≤ (k : Int) := by omega
  have HBL := Lib.hid (below_only (HX1.out.2.2.on HB.out HB.out.size) hgr (Nat.le_of_lt HLT.out) (fun q hq => by injection hq with hq; omega))
  have HBK := Lib.hid hB
  have HZ := Lib.hid hZ
  have HGR := Lib.hid hgr
  have HRO := Lib.hid hR
  have HNE := Lib.hid hne
  have HRW := Lib.hid (fun W (hW : Below wr.heap.size wr W) (x : Int) => without_c (R := R) (show RO W _ M from OwK.below hR hW).rd hML x)
  clear hB hZ hR hne hgr hM hML
  by_cases hlt : k < ng
  · obtain ⟨x, hx⟩ : ∃ x, gone[k]? = some x := ⟨_, List.getElem?_eq_getElem (by rw [← HNG.out]; exact hlt)⟩
    obtain ⟨gk, hgk, hcx⟩ := HC1.out k x hx
    have hcr : wr.cell? ⟨gk, k, none⟩ = some (.int .i64 x) := HGR.out.cell hcx (fun e => (HGE.out gk hgk).1 (by injection e))
    have HX := Lib.hid (dropAll_take hx L)
    have hi1 : (k : Int) < (ng : Int) := by omega
    obtain ⟨⟨x0, x1, x2, x3, x4, x5⟩, -⟩ := HBK.out.at6
    subst hgk
    clear hx hcx
    go_wp2_with fail
    go_region_law (first
     | (go_simp; (go_at_call 86; ((with_reducible refine (HRW.out _ (Below.refl wr.heap.size wr).drew x).mono ?_); rintro ex w5 ⟨v5, rfl, ho5, hb0⟩); have HB5 := Lib.hid (show Below wr.heap.size wr w5 from ((Below.refl _ wr).drew).trans hb0); obtain ⟨p5, m5, c5, rfl⟩ := own_sl ho5; have HO5 := Lib.hid ho5; obtain ⟨y0, y1, y2, y3, y4, y5⟩ := (HBK.out.next HB5.out).at6.1; clear hb0 ho5))
     | (go_simp; (go_at_call 85; ((with_reducible refine (with_c R _ _ _ _ _ _ w5).mono ?_); rintro ex w6 ⟨rfl, hb6⟩); have HB6 := Lib.hid (hb6.on HB5.out HB5.out.size); have HO6 := Lib.hid (OwK.below HO5.out hb6); obtain ⟨⟨x0, x1, x2, x3, x4, x5⟩, ⟨f0, f1, f2, f3, f4, f5⟩⟩ := (HBK.out.next HB6.out).at6; clear hb6)))
    all_goals (go_wp2_with fail)
    all_goals exact ⟨⟨k + 1, by omega, by go_num, by
     rw [HX.out, ← HM.out]
     exact DsS.step (HBK.out.next HB6.out) (HZ.out.next HB6.out) HO6.out HZ.out.lt (only_next HGR.out HB6.out)⟩, by simp [intOf]; omega⟩
  · obtain rfl : k = ng := by omega
    have HT := Lib.hid (show M = dropAll gone L by rw [HM.out, HNG.out, List.take_length])
    obtain ⟨⟨x0, x1, x2, x3, x4, x5⟩, -⟩ := HBK.out.at6
    obtain ⟨⟨z0, z1, z2, z3, z4, z5⟩, ⟨f0, f1, f2, f3, f4, f5⟩⟩ := HZ.out.at6
    go_wp2_with fail
    refine bodyPost_ret (v := .tuple #[refV R (.slice pr nr cr), .slice p1 k c1, .int .i64 0]) (by simp [results, Tryz.results87, go_sem, z0, z1, z2, z3, z4, z5]) rfl ?_
    refine ⟨_, _, rfl, HT.out ▸ row6 HRO.out HZ.out (fun q hq => (HNE.out q hq).2) _ _ _ _ _ _, ⟨⟨p1, c1, by rw [HNG.out], fun j x hx => ?_⟩, fun g hg => Nat.le_trans (H1.out.2.2.on HB.out HB.out.size).size (World.ownsRow.lt HOW.out g hg).1⟩, set6 HBL.out (Nat.le_succ _) _ _ _ _ _ _⟩
    obtain ⟨gk, hgk, hcx⟩ := HC1.out j x hx
    exact ⟨gk, hgk, (cell6 (p := ⟨gk, j, none⟩) (HGE.out gk hgk).2 _ _ _ _ _ _).trans (HGR.out.cell hcx (fun e => (HGE.out gk hgk).1 (by injection e)))⟩
end
end Go.Proofs.YtnhchpiafchdgaaGreat
end
section
namespace Go.Proofs.YtnhchpiafchdgaaGreat
open Go.RowKit Go.Shelf Go.Maps
def reparNd (nd : Int → Option Nd) (i q : Int) (d dp : Nd) (x y : Int) : Int → Option Nd :=
 match upd nd d.win.par (some ⟨dp.win, strike d.win.id dp.kids⟩) q with
 | none => nd
 | some dq => upd (upd (upd nd d.win.par (some ⟨dp.win, strike d.win.id dp.kids⟩)) q (some ⟨dq.win, dq.kids ++ [d.win.id]⟩)) i (some ⟨⟨d.win.id, q, x, y, d.win.w, d.win.h, d.win.on⟩, d.kids⟩)
def ReparR (w : World) (t : Nat) (l : Lay) (nd : Int → Option Nd) (made : Int) (cnt : Nat) (i q x y : Int) (d dp : Nd) (n : Nat) (e : Ending) (w' : World) : Prop :=
 if l.nb q = none then e = .returned (.int .i64 6) ∧ Below w.heap.size w w'
 else if thruB nd n q i = true then e = .returned (.int .i64 61) ∧ Below w.heap.size w w'
 else if rightB x y d.win.w d.win.h = false then e = .returned (.int .i64 10) ∧ Below w.heap.size w w'
 else e = .returned (.int .i64 0) ∧ TreeTo w t l l.nb (reparNd nd i q d dp x y) made cnt w'
section
variable {w : World} {t : Nat} {l : Lay} {nd : Int → Option Nd} {made : Int} {cnt : Nat}
theorem thru_self (nd : Int → Option Nd) (n : Nat) (i : Int) : thruB nd n i i = true := by cases n <;> simp [thruB]
set_option maxRecDepth 100000 in
set_option maxHeartbeats 8000000 in
theorem repar_c (h : TreeH w t l nd made cnt) (hw : Wide nd) {r : Nat} (h0 : l.nb 0 = some r) {i q x y : Int} (hi : I64 i) (hq : I64 q) {b bp : Nat} {d dp : Nd} (hb : l.nb i = some b) (hd : nd i = some d) (hz : i ≠ 0)
  (hbp : l.nb d.win.par = some bp) (hdp : nd d.win.par = some dp) (hne : d.win.par ≠ i) (hip : I64 d.win.par) (hks : ∀ j dj, nd j = some dj → dj.kids.length ≤ 4096) (n : Nat) (hcase : l.nb q = none ∨ Way nd n q) :
  Calls Tryz.prog 76 #[treeP t, .int .i64 i, .int .i64 q, .agg #[.int .i64 x, .int .i64 y]] w fun e w' => ReparR w t l nd made cnt i q x y d dp n e w' := by
 obtain ⟨wb, hwb⟩ : ∃ wb, wb = w.alloc (.cells #[.int .i64 x, .int .i64 y] 87) := ⟨_, rfl⟩
 have hbel : Below w.heap.size w wb := by rw [hwb]; exact (Below.refl _ _).alloc (Nat.le_refl _) _
 obtain ⟨wr, hwr⟩ : ∃ wr, wr = (wb.alloc (.cells #[.int .i64 x, .int .i64 y, .int .i64 d.win.w, .int .i64 d.win.h] 23)).drew := ⟨_, rfl⟩
 have hbelr : Below w.heap.size w wr := by rw [hwr]; exact (hbel.alloc hbel.size _).drew
 have H1 := Lib.hid (changeable_some (h.next hbel) h0 hi hb hz)
 have hbx : Blk wb w.heap.size 87 #[.int .i64 x, .int .i64 y] := by rw [hwb]; exact Blk.new w _ _
 obtain ⟨⟨x0, x1⟩, -⟩ := hbx.c2
 have hk := (h.next hbel).cells hb hd
 have k4 := hk.1.2.2.2.2.1
 have k5 := hk.1.2.2.2.2.2.1
 have hbz : Blk ((wb.alloc (.cells #[.int .i64 0, .int .i64 0, .int .i64 0, .int .i64 0] 23)).drew) w.heap.size 87 #[.int .i64 x, .int .i64 y] := (hbx.alloc _).drew
 obtain ⟨⟨a0, a1⟩, -⟩ := hbz.c2
 have hkz := (((h.next hbel).alloc (.cells #[.int .i64 0, .int .i64 0, .int .i64 0, .int .i64 0] 23)).drew.cells hb hd).1
 have a4 := hkz.2.2.2.2.1
 have a5 := hkz.2.2.2.2.2.1
 have hbr : Blk wr wb.heap.size 23 #[.int .i64 x, .int .i64 y, .int .i64 d.win.w, .int .i64 d.win.h] := by rw [hwr]; exact (Blk.new wb _ _).drew
 obtain ⟨⟨r0, r1, r2, r3⟩, -⟩ := hbr.c4
 have hby : Blk wr w.heap.size 87 #[.int .i64 x, .int .i64 y] := by rw [hwr]; exact (hbx.alloc _).drew
 obtain ⟨⟨b0, b1⟩, -⟩ := hby.c2
 have hky := ((h.next hbelr).cells hb hd).1
 have b4 := hky.2.2.2.2.1
 have b5 := hky.2.2.2.2.2.1
 rw [hwr] at b0 b1 b4 b5
 have HF := Lib.hid (And.intro (fun (e : l.nb q = none) => find_none (h.next hbelr) hq e) (fun (bq : Nat) (e : l.nb q = some bq) => find_some (h.next hbelr) hq e))
 have HB := Lib.hid hbelr
 have HH := Lib.hid h
 have HG := Lib.hid (fun (n : Nat) (hW : Way nd n q) => goes_c hw i n q wr (h.next hbelr) hW)
 have HR := Lib.hid (fun W => right_c x y d.win.w d.win.h W)
 have HQ := Lib.hid hcase
 have HL := Lib.hid (fun (W : World) (hW : Below wr.heap.size wr W) => leave_c (h.next (hW.on hbelr hbelr.size)) hbp hb hdp hd rfl hip)
 have HBX := Lib.hid (fun (W : World) (hW : Below wr.heap.size wr W) => hbr.next hW)
 have HBW := Lib.hid (fun (W : World) (hW : Below wr.heap.size wr W) => hW.on hbelr hbelr.size)
 have HNF := Lib.hid (show ¬ l.foot t wb.heap.size from fun hf => by have := h.foot_lt hf; have := hbel.size; omega)
 have HE := Lib.hid (fun (W : World) (l1 : Lay) (hl1 : l1.nb = l.nb) (T1 : TreeH W t l1 (upd nd d.win.par (some ⟨dp.win, strike d.win.id dp.kids⟩)) made cnt) (hqi : q ≠ i) (bq : Nat) (hbq : l.nb q = some bq) (dq : Nd) (hdq : upd nd d.win.par (some ⟨dp.win, strike d.win.id dp.kids⟩) q = some dq) =>
  enter_c T1 (p := q) (c := i) (hl1 ▸ hbq) (hl1 ▸ hb) hdq ((upd_other _ _ hne.symm).trans hd) hqi hq (by
    by_cases hqp : q = d.win.par
    · rw [hqp, upd_same] at hdq
      injection hdq with hdq
      subst hdq
      exact Nat.le_trans (strike_len _ _) (hks _ _ hdp)
    · rw [upd_other _ _ hqp] at hdq
      exact hks _ _ hdq))
 have HZ := Lib.hid (fun (W : World) (l2 : Lay) (hl2 : l2.nb = l.nb) (nd2 : Int → Option Nd) (T2 : TreeH W t l2 nd2 made cnt) (d2 : Nd) (hd2 : nd2 i = some d2) => And.intro (T2.rect (hl2 ▸ hb) hd2 x y d.win.w d.win.h) (T2.cells (hl2 ▸ hb) hd2))
 have HSQ := Lib.hid (fun (bq : Nat) (hbq : l.nb q = some bq) => (show ∃ dq, upd nd d.win.par (some ⟨dp.win, strike d.win.id dp.kids⟩) q = some dq from by
  obtain ⟨dq, hdq⟩ := h.ndOf hbq
  by_cases hqp : q = d.win.par
  · rw [hqp, upd_same]; exact ⟨_, rfl⟩
  · rw [upd_other _ _ hqp]; exact ⟨_, hdq⟩))
 have HTN := Lib.hid hne
 have HW := Lib.hid hwb
 have HWr := Lib.hid hwr
 clear h h0 hi hb hd hz hbel hbx hk hbz hkz hbr hbelr hwr hby hky hcase hbp hdp hne hip hks
 go_enter Tryz.func76, Tryz.ntmps76
 go_upto_region 1 with fail
 rw [← HW.out]
 clear hwb
 go_upto_region 4 with (go_at_call 103; ((with_reducible refine (H1.out).mono ?_); rintro e w' ⟨rfl, rfl⟩))
 refine wp_region_noPanic ?_
 refine wp_region_held_drew (S := fun wx => (wx.cell? ⟨w.heap.size, 0, none⟩ = some (.int .i64 x) ∧ wx.cell? ⟨w.heap.size, 1, none⟩ = some (.int .i64 y)) ∧ wx.cell? ⟨b, 4, none⟩ = some (.int .i64 d.win.w) ∧ wx.cell? ⟨b, 5, none⟩ = some (.int .i64 d.win.h)) (by kernel_rfl) (by exact ⟨⟨x0, x1⟩, k4, k5⟩) (fun hHeld => ?_)
 refine tk 0 ?v0 rfl ?y0 ?r0
 case y0 => (intro q h; (try dsimp only at h); go_simp; (try with_reducible rfl))
 (try simp only [Act.put, p1, p3, p4, p5, p6])
 refine tk 1 ?v1 rfl ?y1 ?r1
 case y1 => (intro q h; (try dsimp only at h); go_simp; (try with_reducible rfl))
 (try simp only [Act.put, p1, p2, p3, p4, p5, p6])
 refine tk 2 ?v2 rfl ?y2 ?r2
 case y2 => (intro q h; (try dsimp only at h); go_simp; (try with_reducible rfl))
 (try simp only [Act.put, p1, p2, p3, p4, p5, p6])
 refine tk 3 ?v3 rfl ?y3 ?r3
 case y3 => (intro q h; (try dsimp only at h); go_simp; (try with_reducible rfl))
 (try simp only [Act.put, p1, p2, p3, p4, p5, p6])
 refine tk 4 ?v4 rfl ?y4 ?r4
 case y4 => (intro q h; (try dsimp only at h); go_simp; (try with_reducible rfl))
 (try simp only [Act.put, p1, p2, p3, p4, p5, p6])
 refine tk 5 ?v5 rfl ?y5 ?r5
 case y5 => (intro q h; (try dsimp only at h); go_simp; (try with_reducible rfl))
 (try simp only [Act.put, p1, p2, p3, p4, p5, p6])
 refine tk 6 ?v6 rfl ?y6 ?r6
 case y6 => (intro q h; (try dsimp only at h); go_simp; (try with_reducible rfl))
 (try simp only [Act.put, p1, p2, p3, p4, p5, p6])
 refine tk 7 ?v7 rfl ?y7 ?r7
 case y7 => (intro q h; (try dsimp only at h); go_simp; (try with_reducible rfl))
 (try simp only [Act.put, p1, p2, p3, p4, p5, p6])
 refine tk 8 ?v8 rfl ?y8 ?r8
 case y8 => (intro q h; (try dsimp only at h); go_simp; (try with_reducible rfl))
 (try simp only [Act.put, p1, p2, p3, p4, p5, p6])
 refine tk 9 ?v9 rfl ?y9 ?r9
 case y9 => (intro q h; (try dsimp only at h); go_simp; (try with_reducible rfl))
 (try simp only [Act.put, p1, p2, p3, p4, p5, p6])
 refine tk 10 ?v10 rfl ?y10 ?r10
 case y10 => (intro q h; (try dsimp only at h); go_simp; (try with_reducible rfl))
 (try simp only [Act.put, p1, p2, p3, p4, p5, p6])
 refine tk 11 ?v11 rfl ?y11 ?r11
 case y11 => (intro q h; (try dsimp only at h); go_simp; (try with_reducible rfl))
 (try simp only [Act.put, p1, p2, p3, p4, p5, p6])
 refine tk 12 ?v12 rfl ?y12 ?r12
 case y12 => (intro q h; (try dsimp only at h); go_simp; (try with_reducible rfl))
 (try simp only [Act.put, p1, p2, p3, p4, p5, p6])
 refine tk 13 ?v13 rfl ?y13 ?r13
 case y13 => (intro q h; (try dsimp only at h); go_simp; (try with_reducible rfl))
 (try simp only [Act.put, p1, p2, p3, p4, p5, p6])
 refine tk 14 ?v14 rfl ?y14 ?r14
 case y14 => (intro q h; (try dsimp only at h); go_simp; (try with_reducible rfl))
 (try simp only [Act.put, p1, p2, p3, p4, p5, p6])
 refine tk 15 ?v15 rfl ?y15 ?r15
 case y15 => (intro q h; (try dsimp only at h); go_simp; (try with_reducible rfl))
 (try simp only [Act.put, p1, p2, p3, p4, p5, p6])
 refine tk 16 ?v16 rfl ?y16 ?r16
 case y16 => (intro q h; (try dsimp only at h); go_simp; (try with_reducible rfl))
 (try simp only [Act.put, p1, p2, p3, p4, p5, p6])
 refine wpAnyH_ready (rs := [17]) (by kernel_rfl) (by simp) ?_
 refine AllReadyH.cons rfl (fun K hK => ?_) AllReadyH.nil
 go_simp
 refine hK.out _ _ (by exact ⟨⟨a0, a1⟩, a4, a5⟩) (fun hHeld => ?_)
 clear hK K
 (try simp only [Act.put, p1, p2, p3, p4, p5, p6])
 refine wpAnyH_ready (rs := [18]) (by kernel_rfl) (by simp) ?_
 refine AllReadyH.cons rfl (fun K hK => ?_) AllReadyH.nil
 go_simp
 refine hK.out _ _ (by exact ⟨⟨b0, b1⟩, b4, b5⟩) (fun hHeld => ?_)
 clear hK K
 (try simp only [Act.put, p1, p2, p3, p4, p5, p6])
 refine wpAnyH_done (by kernel_rfl) ?_ _
 refine NoPanic.normal ?_
 rw [← HWr.out]
 clear a0 a1 a4 a5 b0 b1 b4 b5 x0 x1 k4 k5 hHeld
 cases hnq : l.nb q with
 | none =>
  have HF1 := Lib.hid (HF.out.1 hnq)
  have HN := Lib.hid hnq
  clear hnq
  go_wp2_with (go_at_call 66; ((with_reducible refine (HF1.out).mono ?_); rintro e w' ⟨rfl, rfl⟩))
  go_ret
  unfold ReparR
  rw [if_pos HN.out]
  exact ⟨rfl, HB.out⟩
 | some bq =>
  have HF1 := Lib.hid (HF.out.2 bq hnq)
  have HN := Lib.hid hnq
  have hW : Way nd n q := by
    rcases HQ.out with h1 | h1
    · rw [hnq] at h1; cases h1
    · exact h1
  have hgo := HG.out n hW
  clear hnq
  cases hth : thruB nd n q i with
  | true =>
    rw [hth] at hgo
    have HG1 := Lib.hid hgo
    have HT := Lib.hid hth
    clear hth hgo hW
    go_wp2_with (first
      | (go_at_call 66; ((with_reducible refine (HF1.out).mono ?_); rintro e w' ⟨rfl, rfl⟩))
      | (go_at_call 104; ((with_reducible refine (HG1.out).mono ?_); rintro e w' ⟨rfl, rfl⟩)))
    go_ret
    unfold ReparR
    rw [if_neg (by rw [HN.out]; simp), if_pos HT.out]
    exact ⟨rfl, HB.out⟩
  | false =>
    rw [hth] at hgo
    have HG1 := Lib.hid hgo
    have HT := Lib.hid hth
    have hr0 := HR.out
    clear hgo hW
    cases hri : rightB x y d.win.w d.win.h with
    | false =>
      have HR1 := Lib.hid (fun W => (hri ▸ hr0 W : Calls Tryz.prog 81 #[.agg #[.int .i64 x, .int .i64 y, .int .i64 d.win.w, .int .i64 d.win.h]] W fun e w' => e = .returned (.bool false) ∧ Below W.heap.size W w'))
      have HRI := Lib.hid hri
      clear hri hr0 hth
      go_wp2_with (first
       | (go_at_call 66; ((with_reducible refine (HF1.out).mono ?_); rintro e w' ⟨rfl, rfl⟩))
       | (go_at_call 104; ((with_reducible refine (HG1.out).mono ?_); rintro e w' ⟨rfl, rfl⟩))
       | (go_at_call 81; ((with_reducible refine (HR1.out _).mono ?_); rintro e w' ⟨rfl, hb⟩)))
      go_ret
      unfold ReparR
      rw [if_neg (by rw [HN.out]; simp), if_neg (by rw [HT.out]; simp), if_pos HRI.out]
      exact ⟨rfl, HBW.out _ hb⟩
    | true =>
      have HR1 := Lib.hid (fun W => (hri ▸ hr0 W : Calls Tryz.prog 81 #[.agg #[.int .i64 x, .int .i64 y, .int .i64 d.win.w, .int .i64 d.win.h]] W fun e w' => e = .returned (.bool true) ∧ Below W.heap.size W w'))
      have HRI := Lib.hid hri
      have HQI := Lib.hid (show q ≠ i from fun e => by rw [e, thru_self] at hth; cases hth)
      obtain ⟨dq, hdq⟩ := HSQ.out bq HN.out
      have HDQ := Lib.hid hdq
      clear hri hr0 hth hdq
      go_upto_region 11 with (first
       | (go_at_call 66; ((with_reducible refine (HF1.out).mono ?_); rintro e w' ⟨rfl, rfl⟩))
       | (go_at_call 104; ((with_reducible refine (HG1.out).mono ?_); rintro e w' ⟨rfl, rfl⟩))
       | (go_at_call 81; ((with_reducible refine (HR1.out _).mono ?_); rintro e W2 ⟨rfl, hb2⟩)))
      have HL2 := Lib.hid (HL.out _ hb2)
      have bx2 := HBX.out _ hb2
      have hw2 := HBW.out _ hb2
      have HW2 := Lib.hid hw2
      clear hb2 hw2 r0 r1 r2 r3
      have HX2 := Lib.hid bx2
      clear bx2
      go_wp2_with (first
       | (go_at_call 105; ((with_reducible refine (HL2.out).mono ?_); rintro e W3 ⟨rfl, l1, hl1, T1, U1⟩); have HE1 := Lib.hid (HE.out W3 l1 hl1 T1 HQI.out bq HN.out dq HDQ.out); have HX3 := Lib.hid (And.intro (U1.blk HX2.out HNF.out) (U1.not HX2.out.lt HNF.out)); have HU1 := Lib.hid U1; have HL1 := Lib.hid hl1; clear T1 U1 hl1)
       | (go_at_call 106; ((with_reducible refine (HE1.out).mono ?_); rintro e W4 ⟨rfl, l2, hl2, T2, U2⟩); have hx4 := U2.blk HX3.out.1 HX3.out.2; obtain ⟨⟨r0, r1, r2, r3⟩, -⟩ := hx4.c4; have hzz := HZ.out W4 l2 (hl2.trans HL1.out) _ T2 _ (upd_same _ _ _); obtain ⟨T4, ⟨⟨-, -, g2, g3, g4, g5, -, -⟩, gf⟩⟩ := hzz; have f2 := gf 2; have f3 := gf 3; have f4 := gf 4; have f5 := gf 5; have HT4 := Lib.hid T4; have HU2 := Lib.hid U2; have HL2' := Lib.hid hl2; clear T2 U2 hl2 T4 gf hx4))
      go_ret
      unfold ReparR
      rw [if_neg (by rw [HN.out]; simp), if_neg (by rw [HT.out]; simp), if_neg (by rw [HRI.out]; simp)]
      refine ⟨rfl, ?_⟩
      have k := TreeTo.after HW2.out (TreeTo.trans HU1.out (TreeTo.trans HU2.out HT4.out))
      unfold reparNd
      rw [HDQ.out]
      rw [upd_twice, HL2'.out, HL1.out] at k
      exact k
end
end Go.Proofs.YtnhchpiafchdgaaGreat
end
section
namespace Go.Proofs.YtnhchpiafchdgaaGreat
open Go.RowKit Go.Shelf Go.Maps
def wipe (nd : Int → Option Nd) (xs : List Int) : Int → Option Nd := fun j => if j ∈ xs then none else nd j
theorem wipe_nil (nd : Int → Option Nd) : wipe nd [] = nd := by
 funext j; unfold wipe; simp
theorem wipe_snoc (nd : Int → Option Nd) (xs : List Int) (x : Int) : wipe nd (xs ++ [x]) = upd (wipe nd xs) x none := by
 funext j
 unfold wipe upd
 by_cases h1 : j = x
 · subst h1; simp
 · by_cases h2 : j ∈ xs <;> simp [h1, h2]
theorem wpList_delete_at {P : Program} (hP : P = Tryz.prog) {w : World} {ops : Array Oper} {rest : List Oper} {o : Oper} {a : Act} {Q : Exit → Act → World → Prop} (hg : o.guard = none) (m x : Operand)
  (hop : o.op = Op.call { callee := Callee.builtin Builtin.delete, args := #[m, x], argTypes := #[103, 3] }) {bm n : Nat} {nb : Int → Option Nat} (h : MapAt w bm nb n)
  (hm : a.eval m = .map (some bm)) {i : Int} (hx : a.eval x = .int .i64 i) (hi : I64 i) {b : Nat} (hb : nb i = some b)
  (hK : ∀ w', MapAt w' bm (upd nb i none) (n - 1) → w.grownBy w' (some bm) → 1 ≤ n → wpList P ops Q rest (a.put o.dst (.tuple #[])) w') :
  wpList P ops Q (o :: rest) a w := by
 subst hP
 refine wpList_plain hg fun K' hK' => ?_
 obtain ⟨w', hrun, r1, r2, r3⟩ := h.del hi hb o.type
 unfold Oper.wp
 simp [execOp, hop, resolve, invoke, builtin, hm, hx, hrun, Result.andThen]
 exact hK' _ _ (hK w' r1 r2 r3)
section
variable {w w' : World} {t : Nat} {l : Lay} {nd : Int → Option Nd} {made : Int} {cnt : Nat}
theorem TreeH.del (h : TreeH w t l nd made cnt) {k : Int} (hm : MapAt w' l.bm (upd l.nb k none) (cnt - 1)) (hg : w.grownBy w' (some l.bm)) :
   TreeH w' t { l with nb := upd l.nb k none } (upd nd k none) made (cnt - 1) ∧ Turn (l.foot t) (({ l with nb := upd l.nb k none } : Lay).foot t) w w' := by
 have old : ∀ {i : Int} {b : Nat}, upd l.nb k none i = some b → i ≠ k ∧ l.nb i = some b := fun {i b} hb => by
   by_cases hik : i = k
   · rw [hik, upd_same] at hb; cases hb
   · rw [upd_other _ _ hik] at hb; exact ⟨hik, hb⟩
 have old2 : ∀ {i : Int}, (upd l.nb k none i).isSome = true → (l.nb i).isSome = true := fun {i} hi => by
   obtain ⟨b, hb⟩ := Option.isSome_iff_exists.1 hi
   rw [(old hb).2]; rfl
 refine ⟨⟨h.tree.grown hg (fun e => by injection e with e; exact blk_not_map h.tree h.map e), hm, fun i => ?_, fun i b d hb hd => ?_, fun i j b hi hj => h.inj i j b (old hi).2 (old hj).2, fun i j b hi hj h1 h2 => h.apart i j b (old2 hi) (old2 hj) h1 h2⟩,
   ⟨hg.os, hg.tape, hg.output, hg.size, fun i hi hn => hg.block i hi (fun e => hn (.inr (.inl (by injection e)))), fun i hi => .inl ?_⟩⟩
 · show (upd l.nb k none i).isSome = _
   unfold upd
   split
   · rfl
   · exact h.dom i
 · obtain ⟨hik, hb'⟩ := old hb
   rw [upd_other _ _ hik] at hd
   obtain ⟨h1, h2⟩ := h.node i b d hb' hd
   refine ⟨h1.grown hg (fun e => by injection e with e; exact blk_not_map h1 h.map e), row_same h2 fun r hr => ?_⟩
   obtain ⟨cs, hc⟩ := row_type h2 hr
   exact hg.block r hc.lt (fun e => by injection e with e; exact blk_not_map hc h.map e)
 · rcases hi with rfl | rfl | ⟨j, hj⟩ | ⟨j, hj, hr⟩
   · exact .inl rfl
   · exact .inr (.inl rfl)
   · exact .inr (.inr (.inl ⟨j, (old hj).2⟩))
   · exact .inr (.inr (.inr ⟨j, old2 hj, hr⟩))
theorem below_none {w w' : World} (h : w.grownBy w' none) : Below w.heap.size w w' := ⟨h.os, h.tape, h.output, h.size, fun i hi => h.block i hi (by simp)⟩
theorem nodup_take {xs : List Int} (h : xs.Nodup) {k : Nat} {x : Int} (hx : xs[k]? = some x) : x ∉ xs.take k := by
 intro hm
 obtain ⟨j, hj⟩ := List.getElem?_of_mem hm
 have h1 := (List.getElem?_eq_some_iff.1 hj).1
 rw [List.length_take] at h1
 rw [List.getElem?_take_of_lt (by omega)] at hj
 have h2 := (List.getElem?_eq_some_iff.1 hx).1
 have := (List.getElem?_inj (by omega) h).1 (hj.trans hx.symm)
 omega
def DeS (w : World) (t : Nat) (l : Lay) (bm : Nat) (nd1 : Int → Option Nd) (made : Int) (cnt : Nat) (v : Value) (xs : List Int) (k : Nat) (wr : World) : Prop :=
 ∃ l', l'.bm = bm ∧ TreeH wr t l' (wipe nd1 (xs.take k)) made (cnt - k) ∧ Turn (l.foot t) (l'.foot t) w wr ∧ wr.ownsRow 0 3 1 v xs.length (intsV xs) ∧ ∀ r, v.ownBlock = some r → ¬ l'.foot t r
def DestR (w : World) (t : Nat) (l : Lay) (nd1 : Int → Option Nd) (made : Int) (cnt : Nat) (xs : List Int) (e : Ending) (w' : World) : Prop :=
 ∃ v, e = .returned (.tuple #[v, .int .i64 0]) ∧ w'.ownsRow 0 3 1 v xs.length (intsV xs) ∧ (∀ r, v.ownBlock = some r → w.heap.size ≤ r) ∧ ∃ l', TreeH w' t l' (wipe nd1 xs) made (cnt - xs.length) ∧ Turn (l.foot t) (l'.foot t) w w' ∧ ∀ r, v.ownBlock = some r → ¬ l'.foot t r
set_option maxRecDepth 100000 in
set_option maxHeartbeats 4000000 in
theorem destroy_c (h : TreeH w t l nd made cnt) (hw : Wide nd) {r : Nat} (h0 : l.nb 0 = some r) {i : Int} (hi : I64 i) {b bp : Nat} {d dp : Nd} (hb : l.nb i = some b) (hd : nd i = some d) (hz : i ≠ 0) (hbp : l.nb d.win.par = some bp) (hdp : nd d.win.par = some dp)
  (n : Nat) (nd1 : Int → Option Nd) (hn1 : nd1 = upd nd d.win.par (some ⟨dp.win, strike d.win.id dp.kids⟩)) (hT : Tall nd1 n i) (hlen : (allL nd1 n i).length ≤ 1048576) (hnd : (allL nd1 n i).Nodup) (hin : ∀ x ∈ allL nd1 n i, ∃ dx, nd1 x = some dx) :
  Calls Tryz.prog 109 #[treeP t, .int .i64 i] w fun e w' => DestR w t l nd1 made cnt (allL nd1 n i) e w' := by
 have hw1 : Wide nd1 := by
  intro j dj hj
  rw [hn1] at hj
  by_cases hjp : j = d.win.par
  · rw [hjp, upd_same] at hj
    injection hj with hj
    subst hj
    have := hw _ _ hdp
    rw [hjp]; exact this
  · rw [upd_other _ _ hjp] at hj; exact hw _ _ hj
 have HC := Lib.hid (changeable_some h h0 hi hb hz)
 have hlv := leave_c h hbp hb hdp hd rfl (hw _ _ hd).2
 rw [← hn1] at hlv
 have HL := Lib.hid hlv
 obtain ⟨xs, hxs⟩ : ∃ xs, xs = allL nd1 n i := ⟨_, rfl⟩
 have HGA := Lib.hid (fun (W : World) (l1 : Lay) (T1 : TreeH W t l1 nd1 made cnt) => gather_c hw1 n i (.slice none 0 0) [] W T1 hT (World.ownsRow_nil _ _ _ _) (fun r hr => by cases hr) (by simpa using hlen))
 rw [List.nil_append, ← hxs] at HGA
 rw [← hxs] at hlen hnd hin ⊢
 have HIN := Lib.hid (And.intro hin (And.intro hnd hw1))
 have HLEN := Lib.hid hlen
 clear h hw h0 hi hb hd hz hbp hdp hn1 hT hlen hnd hin hw1 hlv hxs
 go_enter Tryz.func109, Tryz.ntmps109
 go_upto_region 6 with (first
  | (go_at_call 103; ((with_reducible refine (HC.out).mono ?_); rintro e w' ⟨rfl, rfl⟩))
  | (go_at_call 105; ((with_reducible refine (HL.out).mono ?_); rintro e w1 ⟨rfl, l1, hl1, T1, U1⟩); have HG1 := Lib.hid (HGA.out w1 l1 T1); have HT1 := Lib.hid T1; have HU1 := Lib.hid U1; clear T1 U1 hl1)
  | (go_at_call 131; ((with_reducible refine (HG1.out).mono ?_); rintro e w2 ⟨v, rfl, hG⟩); have HG := Lib.hid hG; clear hG))
 have hv0 := HG.out.1
 obtain ⟨p, c, rfl, hcell⟩ := row_reads hv0
 have HNEW := Lib.hid (fun r (hr : (Value.slice p xs.length c).ownBlock = some r) => (show w.heap.size ≤ r from by
  rcases HG.out.2.2 r hr with h1 | h1
  · cases h1
  · exact Nat.le_trans HU1.out.size h1))
 have hU2 : Turn (l.foot t) (l1.foot t) w w2 := HU1.out.then_below (below_none HG.out.2.1)
 have hS0 : DeS w t l l1.bm nd1 made cnt (.slice p xs.length c) xs 0 w2 := ⟨l1, rfl, by
  rw [List.take_zero, wipe_nil]
  exact HT1.out.beside HG.out.2.1 (fun r hr => by cases hr), hU2, hv0, fun r hr hf => by
  rcases HG.out.2.2 r hr with h1 | h1
  · cases h1
  · have := HT1.out.foot_lt hf; omega⟩
 have HS0 := Lib.hid hS0
 clear hS0 hU2 hv0 hcell
 obtain ⟨m, hm⟩ : ∃ m, m = xs.length := ⟨_, rfl⟩
 rw [← hm] at HS0 HNEW HLEN ⊢
 have HM := Lib.hid hm
 have hm0 : (m : Int) ≤ 1048576 := by have := HLEN.out; omega
 clear hm
 go_wp2_with fail
 go_loopw [28] (fun z wr => ∃ k : Nat, k ≤ m ∧ z = .int .i64 k ∧ DeS w t l l1.bm nd1 made cnt (.slice p m c) xs k wr) (fun z _ => m - (intOf z).toNat)
 case atStart => exact ⟨0, Nat.zero_le _, rfl, HS0.out⟩
 case round =>
  obtain ⟨k, hk, rfl, hS⟩ := hrel
  by_cases hlt : k < m
  · obtain ⟨x, hx⟩ : ∃ x, xs[k]? = some x := ⟨_, List.getElem?_eq_getElem (by rw [← HM.out]; exact hlt)⟩
    obtain ⟨l', hbm, hT', hU', hv', hnf⟩ := hS
    obtain ⟨p', c', hpe, hcell⟩ := row_reads hv'
    obtain ⟨g, hp, hg, hcx⟩ := hcell k x hx
    simp only [Value.slice.injEq] at hpe
    obtain ⟨rfl, -, rfl⟩ := hpe
    subst hp
    obtain ⟨⟨c0, -⟩, -⟩ := hT'.tree.c2
    rw [hbm] at c0
    obtain ⟨dx, hdx⟩ := HIN.out.1 x (List.mem_of_getElem? hx)
    have hxt : x ∉ xs.take k := nodup_take HIN.out.2.1 hx
    obtain ⟨bx, hbx⟩ := hT'.block (i := x) (d := dx) (by unfold wipe; rw [if_neg hxt]; exact hdx)
    have hxi := (HIN.out.2.2 x dx hdx).1
    have hM := hT'.map
    rw [hbm] at hM
    have HNX := Lib.hid (fun (W : World) (hM3 : MapAt W l1.bm (upd l'.nb x none) (cnt - k - 1)) (hg3 : wr.grownBy W (some l1.bm)) (_hp : 1 ≤ cnt - k) => (show DeS w t l l1.bm nd1 made cnt (.slice (some ⟨g, 0, none⟩) m c) xs (k + 1) W from by
     have hd := hT'.del (k := x) (hbm ▸ hM3) (hbm ▸ hg3)
     refine ⟨{ l' with nb := upd l'.nb x none }, hbm, ?_, hU'.trans hd.2, ?_, fun r hr => hd.2.not (by obtain ⟨cs, hc⟩ := row_type hv' hr; exact hc.lt) (hnf r hr)⟩
     · have e1 : xs.take (k + 1) = xs.take k ++ [x] := take_snoc_get hx
       have e2 : cnt - (k + 1) = cnt - k - 1 := by omega
       rw [e1, wipe_snoc, e2]
       exact hd.1
     · exact row_same hv' fun r hr => by
        obtain ⟨cs, hc⟩ := row_type hv' hr
        exact hg3.block r hc.lt (fun e => by injection e with e; exact blk_not_map hc hM e)))
    have HMM := Lib.hid hM
    have HBX := Lib.hid hbx
    have hi0' : (0 : Int) ≤ (k : Int) := by omega
    have hi1 : (k : Int) < (m : Int) := by omega
    clear hT' hU' hv' hcell hx hdx hxt hbx hM hg hbm hnf
    go_wp2_with (at_delete; refine wpList_delete_at rfl rfl _ _ rfl HMM.out rfl rfl hxi HBX.out ?_; intro w3 hM3 hg3 hp3; have HN := Lib.hid (HNX.out w3 hM3 hg3 hp3); clear hM3 hg3 hp3)
    go_roundw
    case rel => exact ⟨k + 1, by omega, by go_num, HN.out⟩
    case measure => simp [intOf]; omega
  · obtain rfl : k = m := by omega
    have HS := Lib.hid hS
    clear hS
    go_wp2_with fail
    go_ret2
    obtain ⟨l', hbm, hT', hU', hv', hnf⟩ := HS.out
    rw [HM.out, List.take_length] at hT'
    exact ⟨_, rfl, hv', HNEW.out, l', hT', hU', hnf⟩
end
end Go.Proofs.YtnhchpiafchdgaaGreat
end
section
namespace Go.Proofs.YtnhchpiafchdgaaGreat
open Go.RowKit Go.Shelf Go.Maps
section
variable {R : RT} {L : List Win}
theorem own_way (h : Good R L) {v : Win} (hv : v ∈ L) {m : Nat} (hw : Way (ndL R L) m v.id) : ∃ m', m = m' + 1 ∧ Way (ndL R L) m' v.par := by
 cases m with
 | zero => have := hw.1; have := (h.pos v hv).1; omega
 | succ m =>
  obtain ⟨_, d, hd, hw⟩ := hw
  rw [nd_of h.uniq hv] at hd
  injection hd with hd
  subst hd
  exact ⟨m, rfl, hw⟩
theorem par_ne (h : Good R L) {v : Win} (hv : v ∈ L) : v.par ≠ v.id := fun e => by
 obtain ⟨m, hw⟩ := h.way v hv
 obtain ⟨m', rfl, hw'⟩ := own_way h hv hw
 rw [e] at hw'
 have := hw.det hw'
 omega
theorem repar_list (h : Good R L) {v : Win} (hv : v ∈ L) {q x y : Int} {dq : Nd} (hq : ndL R L q = some dq) {n : Nat} (hwq : Way (ndL R L) n q) (hth : thruB (ndL R L) n q v.id = false) :
   Good R (dropL v.id L ++ [⟨v.id, q, x, y, v.w, v.h, v.on⟩]) ∧
     ∀ d dp, ndL R L v.id = some d → ndL R L v.par = some dp → ndL R (dropL v.id L ++ [⟨v.id, q, x, y, v.w, v.h, v.on⟩]) = reparNd (ndL R L) v.id q d dp x y := by
 obtain ⟨v', hv'⟩ : ∃ v' : Win, v' = ⟨v.id, q, x, y, v.w, v.h, v.on⟩ := ⟨_, rfl⟩
 have hid : v'.id = v.id := by rw [hv']
 have hvp : v'.par = q := by rw [hv']
 rw [← hv']
 have hqi : q ≠ v.id := fun e => by
   cases n with
   | zero => simp [thruB, e] at hth
   | succ n => simp [thruB, e] at hth
 have hz : v.id ≠ 0 := by have := (h.pos v hv).1; omega
 have hpn := par_ne h hv
 have hn : ((dropL v.id L ++ [v']).map (·.id)).Nodup := by
   rw [List.map_append]
   refine List.nodup_append.2 ⟨drop_nodup h.nodup, List.nodup_cons.2 ⟨List.not_mem_nil, List.nodup_nil⟩, ?_⟩
   intro a ha b hb e
   obtain ⟨u, hu, rfl⟩ := List.mem_map.1 ha
   simp at hb
   exact (drop_mem.1 hu).2 (e.trans (hb.trans hid))
 have hg : ∀ j, getR R (dropL v.id L ++ [v']) j = if j = v.id then some v' else getR R L j := fun j => by
   unfold getR
   by_cases hj0 : j = 0
   · rw [if_pos hj0, if_pos hj0, if_neg (fun e => hz (e.symm.trans hj0))]
   · rw [if_neg hj0, if_neg hj0]
     by_cases hj : j = v.id
     · rw [if_pos hj, (find_iff hn).2 ⟨List.mem_append_right _ (List.mem_singleton.2 rfl), hid.trans hj.symm⟩]
     · rw [if_neg hj]
       apply Option.ext
       intro u
       rw [find_iff hn, find_iff h.nodup, List.mem_append, List.mem_singleton, drop_mem]
       constructor
       · rintro ⟨⟨h5, _⟩ | h5, h6⟩
         · exact ⟨h5, h6⟩
         · rw [h5, hid] at h6; exact absurd h6.symm hj
       · rintro ⟨h5, h6⟩
         exact ⟨.inl ⟨h5, by rw [h6]; exact hj⟩, h6⟩
 have hk : ∀ j, kidsL (dropL v.id L ++ [v']) j = strike v.id (kidsL L j) ++ if q = j then [v.id] else [] := fun j => by
   rw [kids_app, kids_one, kids_drop, hvp, hid]; rfl
 have hno : ∀ j, v.par ≠ j → strike v.id (kidsL L j) = kidsL L j := fun j hp => filter_no (fun hx => hp ((kid_mem h hv j).1 hx))
 have hpar : ∀ j d, ndL R L j = some d → j ≠ v.id → ∃ d', ndL R (dropL v.id L ++ [v']) j = some d' ∧ d'.win.par = d.win.par := fun j d hd hj => by
   refine ⟨⟨d.win, kidsL (dropL v.id L ++ [v']) j⟩, ?_, rfl⟩
   unfold ndL
   rw [hg, if_neg hj, (ndL_some hd).1]; rfl
 have hi : ndL R (dropL v.id L ++ [v']) v.id = some ⟨v', kidsL (dropL v.id L ++ [v']) v.id⟩ := by
   unfold ndL
   rw [hg, if_pos rfl]; rfl
 have hqw : ∀ (n : Nat) (q : Int), Way (ndL R L) n q → thruB (ndL R L) n q v.id = false → Way (ndL R (dropL v.id L ++ [v'])) n q := by
   intro n
   induction n with
   | zero =>
     rintro q ⟨h1, -⟩ -
     exact ⟨h1, by rw [h1]; exact ⟨_, nd_root⟩⟩
   | succ n ih =>
     rintro q ⟨h1, d, hd, h2⟩ h3
     have h4 : q ≠ v.id := fun e => by simp [thruB, e] at h3
     obtain ⟨d', h5, h6⟩ := hpar q d hd h4
     refine ⟨h1, d', h5, ?_⟩
     rw [h6]
     refine ih _ h2 ?_
     simp [thruB, h4] at h3
     rw [← par_of hd]; exact h3
 have hall : ∀ (m : Nat) (j : Int), Way (ndL R L) m j → ∃ m', Way (ndL R (dropL v.id L ++ [v'])) m' j := by
   intro m
   induction m with
   | zero =>
     rintro j ⟨h1, -⟩
     exact ⟨0, h1, by rw [h1]; exact ⟨_, nd_root⟩⟩
   | succ m ih =>
     rintro j ⟨h1, d, hd, h2⟩
     by_cases hj : j = v.id
     · refine ⟨n + 1, h1, _, by rw [hj]; exact hi, ?_⟩
       show Way _ n v'.par
       rw [hvp]; exact hqw n q hwq hth
     · obtain ⟨d', h5, h6⟩ := hpar j d hd hj
       obtain ⟨m', h7⟩ := ih _ h2
       exact ⟨m' + 1, h1, d', h5, by rw [h6]; exact h7⟩
 refine ⟨⟨hn, fun u hu => ?_, fun u hu => ?_⟩, fun d dp hd hdp => ?_⟩
 · rw [List.mem_append, List.mem_singleton, drop_mem] at hu
   rcases hu with ⟨hu, _⟩ | rfl
   · exact h.pos u hu
   · rw [hid]; exact h.pos v hv
 · rw [List.mem_append, List.mem_singleton, drop_mem] at hu
   rcases hu with ⟨hu, _⟩ | rfl
   · obtain ⟨m, hw⟩ := h.way u hu
     exact hall m _ hw
   · obtain ⟨m, hw⟩ := h.way v hv
     rw [hid]; exact hall m _ hw
 · obtain ⟨h1, h2⟩ := ndL_some hd
   obtain ⟨h3, h4⟩ := ndL_some hdp
   obtain ⟨h5, h6⟩ := ndL_some hq
   have hdw : d.win = v := by
     have := nd_of h.uniq hv
     rw [hd] at this; injection this with this; rw [this]
   unfold reparNd
   rw [hdw]
   have key : ∀ dq', upd (ndL R L) v.par (some ⟨dp.win, strike v.id dp.kids⟩) q = some dq' → ndL R (dropL v.id L ++ [v']) = upd (upd (upd (ndL R L) v.par (some ⟨dp.win, strike v.id dp.kids⟩)) q (some ⟨dq'.win, dq'.kids ++ [v.id]⟩)) v.id (some ⟨⟨v.id, q, x, y, v.w, v.h, v.on⟩, d.kids⟩) := by
     intro dq' hdq
     funext j
     by_cases hj : j = v.id
     · subst hj
       rw [upd_same, hi, hk, hno _ hpn, if_neg hqi, List.append_nil, h2, ← hv']
     · rw [upd_other _ _ hj]
       by_cases hjq : j = q
       · subst hjq
         rw [upd_same]
         unfold ndL
         rw [hg, if_neg hj, hk, if_pos rfl, h5]
         by_cases hjp : j = v.par
         · subst hjp
           rw [upd_same] at hdq
           injection hdq with hdq
           rw [← hdq]
           rw [h3] at h5
           injection h5 with h5
           rw [h4, h5]; rfl
         · rw [upd_other _ _ hjp, hq] at hdq
           injection hdq with hdq
           rw [← hdq, hno _ (fun e => hjp e.symm), h6]; rfl
       · rw [upd_other _ _ hjq]
         unfold ndL
         rw [hg, if_neg hj, hk, if_neg (fun e => hjq e.symm), List.append_nil]
         by_cases hjp : j = v.par
         · subst hjp
           rw [upd_same, h3, h4]; rfl
         · rw [upd_other _ _ hjp, hno _ (fun e => hjp e.symm)]
   cases hdq : upd (ndL R L) v.par (some ⟨dp.win, strike v.id dp.kids⟩) q with
   | none =>
     exfalso
     by_cases hqp : q = v.par
     · rw [hqp, upd_same] at hdq; cases hdq
     · rw [upd_other _ _ hqp, hq] at hdq; cases hdq
   | some dq' => exact key dq' hdq
end
end Go.Proofs.YtnhchpiafchdgaaGreat
end
section
namespace Go.Proofs.YtnhchpiafchdgaaGreat
open Go.RowKit Go.Shelf Go.Maps
theorem all_self {nd : Int → Option Nd} {n : Nat} {i : Int} (h : Tall nd n i) : i ∈ allL nd n i := by
 cases n with
 | zero => exact h.elim
 | succ n =>
  obtain ⟨d, hd, -⟩ := h
  simp only [allL, hd]
  exact List.mem_append_right _ (List.mem_singleton.2 rfl)
theorem all_kid {nd : Int → Option Nd} : ∀ (n : Nat) (i : Int), Tall nd n i → ∀ x ∈ allL nd n i, ∀ d, nd x = some d → ∀ k ∈ d.kids, k ∈ allL nd n i
 | 0, _, h, _, _, _, _, _, _ => h.elim
 | n + 1, i, ⟨di, hdi, hk⟩, x, hx, d, hd, k, hkd => by
  simp only [allL, hdi] at hx ⊢
  rcases List.mem_append.1 hx with hx | hx
  · obtain ⟨k0, hk0, hx⟩ := List.mem_flatMap.1 hx
    exact List.mem_append_left _ (List.mem_flatMap.2 ⟨k0, hk0, all_kid n k0 (hk k0 hk0) x hx d hd k hkd⟩)
  · rw [List.mem_singleton.1 hx, hdi] at hd
    injection hd with hd
    subst hd
    exact List.mem_append_left _ (List.mem_flatMap.2 ⟨k, hkd, all_self (hk k hkd)⟩)
theorem all_par {nd : Int → Option Nd} (hp : ∀ i d k, nd i = some d → k ∈ d.kids → parOf nd k = i) : ∀ (n : Nat) (i : Int), ∀ x ∈ allL nd n i, x = i ∨ parOf nd x ∈ allL nd n i
 | 0, _, _, hx => by cases hx
 | n + 1, i, x, hx => by
  unfold allL at hx ⊢
  cases hd : nd i with
  | none => rw [hd] at hx; cases hx
  | some d =>
   rw [hd] at hx
   dsimp only at hx ⊢
   rcases List.mem_append.1 hx with hx | hx
   · obtain ⟨k, hk, hx⟩ := List.mem_flatMap.1 hx
     rcases all_par hp n k x hx with rfl | h1
     · exact .inr (List.mem_append_right _ (List.mem_singleton.2 (hp i d x hd hk)))
     · exact .inr (List.mem_append_left _ (List.mem_flatMap.2 ⟨k, hk, h1⟩))
   · exact .inl (List.mem_singleton.1 hx)
theorem all_same {nd nd' : Int → Option Nd} : ∀ (n : Nat) (i : Int), Tall nd n i → (∀ x ∈ allL nd n i, nd' x = nd x) → allL nd' n i = allL nd n i ∧ Tall nd' n i
 | 0, _, h, _ => h.elim
 | n + 1, i, h, he => by
  have hi := he i (all_self h)
  obtain ⟨d, hd, hk⟩ := h
  simp only [allL, hd] at he
  have hs : ∀ k ∈ d.kids, allL nd' n k = allL nd n k ∧ Tall nd' n k := fun k hkd => all_same n k (hk k hkd) fun x hx => he x (List.mem_append_left _ (List.mem_flatMap.2 ⟨k, hkd, hx⟩))
  rw [hd] at hi
  refine ⟨?_, d, hi, fun k hkd => (hs k hkd).2⟩
  simp only [allL, hd, hi]
  congr 1
  have : ∀ (ks : List Int), (∀ k ∈ ks, allL nd' n k = allL nd n k) → ks.flatMap (allL nd' n) = ks.flatMap (allL nd n) := by
   intro ks
   induction ks with
   | nil => intro _; rfl
   | cons a t ih =>
    intro hh
    rw [List.flatMap_cons, List.flatMap_cons, hh a (List.mem_cons_self ..), ih (fun k hk => hh k (List.mem_cons_of_mem _ hk))]
  exact this _ (fun k hkd => (hs k hkd).1)
theorem dropAll_mem (xs : List Int) : ∀ {L : List Win} {u : Win}, u ∈ dropAll xs L ↔ u ∈ L ∧ u.id ∉ xs := by
 induction xs with
 | nil => intro L u; simp [dropAll]
 | cons a t ih =>
  intro L u
  show u ∈ dropAll t (dropL a L) ↔ _
  rw [ih, drop_mem, List.mem_cons]
  constructor
  · rintro ⟨⟨h1, h2⟩, h3⟩
    exact ⟨h1, fun h => h.elim h2 h3⟩
  · rintro ⟨h1, h2⟩
    exact ⟨⟨h1, fun e => h2 (.inl e)⟩, fun e => h2 (.inr e)⟩
theorem dropAll_nodup (xs : List Int) : ∀ {L : List Win}, (L.map (·.id)).Nodup → ((dropAll xs L).map (·.id)).Nodup := by
 induction xs with
 | nil => intro L h; exact h
 | cons a t ih => intro L h; exact ih (drop_nodup h)
theorem dropAll_kids (xs : List Int) : ∀ (L : List Win) (j : Int), kidsL (dropAll xs L) j = (kidsL L j).filter (fun x => decide (x ∉ xs)) := by
 induction xs with
 | nil => intro L j; exact (List.filter_eq_self.2 (by simp)).symm
 | cons a t ih =>
  intro L j
  show kidsL (dropAll t (dropL a L)) j = _
  rw [ih, kids_drop, List.filter_filter]
  congr 1
  funext x
  by_cases h1 : x = a <;> by_cases h2 : x ∈ t <;> simp [h1, h2]
section
variable {R : RT} {L : List Win}
theorem kid_par (h : Good R L) : ∀ i d k, ndL R L i = some d → k ∈ d.kids → parOf (ndL R L) k = i := fun i d k hd hk => by
 rw [(ndL_some hd).2] at hk
 obtain ⟨u, _, _, h1, h2⟩ := kid_of h hk
 rw [par_of h2]; exact h1
theorem destroy_list (h : Good R L) {v : Win} (hv : v ∈ L) {n m : Nat} (hw : Way (ndL R L) m v.id) (hT : Tall (ndL R L) n v.id) :
   Good R (dropAll (allL (ndL R L) n v.id) L) ∧
     ∀ dp, ndL R L v.par = some dp → ndL R (dropAll (allL (ndL R L) n v.id) L) = wipe (upd (ndL R L) v.par (some ⟨dp.win, strike v.id dp.kids⟩)) (allL (ndL R L) n v.id) ∧
       allL (upd (ndL R L) v.par (some ⟨dp.win, strike v.id dp.kids⟩)) n v.id = allL (ndL R L) n v.id ∧ Tall (upd (ndL R L) v.par (some ⟨dp.win, strike v.id dp.kids⟩)) n v.id := by
 obtain ⟨xs, hxs⟩ : ∃ xs, xs = allL (ndL R L) n v.id := ⟨_, rfl⟩
 have hself : v.id ∈ xs := by rw [hxs]; exact all_self hT
 have hup := all_up h n m v.id hw
 rw [← hxs] at hup
 obtain ⟨m', hm, hwp⟩ := own_way h hv hw
 have hpx : v.par ∉ xs := fun hx => by
   obtain ⟨-, j, h1, -⟩ := hup _ hx
   have := h1.det hwp
   omega
 have h0x : (0 : Int) ∉ xs := fun hx => by
   obtain ⟨-, j, h1, -⟩ := hup _ hx
   have := h1.det root_way
   omega
 have hkid : ∀ x ∈ xs, ∀ k ∈ kidsL L x, k ∈ xs := fun x hx k hk => by
   obtain ⟨⟨d, hd⟩, -⟩ := hup x hx
   rw [hxs] at hx ⊢
   exact all_kid n v.id hT x hx d hd k (by rw [(ndL_some hd).2]; exact hk)
 have hback : ∀ j, j ∉ xs → ∀ k ∈ kidsL L j, k ∈ xs → k = v.id := fun j hj k hk hkx => by
   rw [hxs] at hkx
   rcases all_par (kid_par h) n v.id k hkx with h1 | h1
   · exact h1
   · obtain ⟨u, _, _, h2, h3⟩ := kid_of h hk
     rw [par_of h3, h2, ← hxs] at h1
     exact absurd h1 hj
 have hn := dropAll_nodup xs h.nodup
 have hg : ∀ j, j ∉ xs → getR R (dropAll xs L) j = getR R L j := fun j hj => by
   unfold getR
   by_cases hj0 : j = 0
   · rw [if_pos hj0, if_pos hj0]
   · rw [if_neg hj0, if_neg hj0]
     apply Option.ext
     intro u
     rw [find_iff hn, find_iff h.nodup, dropAll_mem]
     constructor
     · rintro ⟨⟨h1, _⟩, h2⟩; exact ⟨h1, h2⟩
     · rintro ⟨h1, h2⟩; exact ⟨⟨h1, by rw [h2]; exact hj⟩, h2⟩
 have hg2 : ∀ j, j ∈ xs → getR R (dropAll xs L) j = none := fun j hj => by
   unfold getR
   rw [if_neg (show ¬ j = 0 from fun e => h0x (by rw [← e]; exact hj))]
   cases hf : findL j (dropAll xs L) with
   | none => rfl
   | some u =>
     obtain ⟨h1, h2⟩ := (find_iff hn).1 hf
     exact absurd (by rw [h2]; exact hj) (dropAll_mem xs |>.1 h1).2
 have hwin : ∀ j d, ndL R L j = some d → j ∉ xs → ∃ d', ndL R (dropAll xs L) j = some d' ∧ d'.win.par = d.win.par := fun j d hd hj => by
   refine ⟨⟨d.win, kidsL (dropAll xs L) j⟩, ?_, rfl⟩
   unfold ndL
   rw [hg j hj, (ndL_some hd).1]; rfl
 have hways : ∀ (k : Nat) (j : Int), Way (ndL R L) k j → j ∉ xs → Way (ndL R (dropAll xs L)) k j := by
   intro k
   induction k with
   | zero =>
     rintro j ⟨h1, -⟩ -
     exact ⟨h1, by rw [h1]; exact ⟨_, nd_root⟩⟩
   | succ k ih =>
     rintro j ⟨h1, d, hd, h2⟩ hj
     obtain ⟨d', h3, h4⟩ := hwin j d hd hj
     refine ⟨h1, d', h3, ?_⟩
     rw [h4]
     refine ih _ h2 fun hx => hj ?_
     obtain ⟨h5, h6⟩ := getR_some (ndL_some hd).1
     rcases h6 with ⟨h6, _⟩ | ⟨_, h6⟩
     · exact absurd h6 h1
     · have := hkid _ hx d.win.id ((kid_mem h h6 _).2 rfl)
       rw [h5] at this; exact this
 rw [← hxs]
 refine ⟨⟨hn, fun u hu => h.pos u (dropAll_mem xs |>.1 hu).1, fun u hu => ?_⟩, fun dp hdp => ?_⟩
 · obtain ⟨h1, h2⟩ := dropAll_mem xs |>.1 hu
   obtain ⟨k, hk⟩ := h.way u h1
   exact ⟨k, hways k _ hk h2⟩
 · have hal := all_same (nd' := upd (ndL R L) v.par (some ⟨dp.win, strike v.id dp.kids⟩)) n v.id hT (fun x hx => upd_other _ _ (fun e => hpx (by rw [← e, hxs]; exact hx)))
   rw [← hxs] at hal
   refine ⟨?_, hal⟩
   funext j
   unfold wipe
   by_cases hj : j ∈ xs
   · rw [if_pos hj]
     unfold ndL
     rw [hg2 j hj]; rfl
   · rw [if_neg hj]
     have hko : kidsL (dropAll xs L) j = if j = v.par then strike v.id (kidsL L j) else kidsL L j := by
       rw [dropAll_kids]
       by_cases hp : j = v.par
       · rw [if_pos hp]
         unfold strike
         refine List.filter_congr fun k hk => ?_
         rw [decide_eq_decide]
         constructor
         · intro h1 e; exact h1 (by rw [e]; exact hself)
         · intro h1 hx; exact h1 (hback j hj k hk hx)
       · rw [if_neg hp, List.filter_eq_self]
         intro k hk
         rw [decide_eq_true_iff]
         intro hx
         have := hback j hj k hk hx
         rw [this] at hk
         exact hp ((kid_mem h hv j).1 hk).symm
     unfold ndL
     rw [hg j hj, hko]
     by_cases hp : j = v.par
     · subst hp
       obtain ⟨h1, h2⟩ := ndL_some hdp
       rw [if_pos rfl, upd_same, h1, h2]; rfl
     · rw [if_neg hp, upd_other _ _ hp]
end
end Go.Proofs.YtnhchpiafchdgaaGreat
end
