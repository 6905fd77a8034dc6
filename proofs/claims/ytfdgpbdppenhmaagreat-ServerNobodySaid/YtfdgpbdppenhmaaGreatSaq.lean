/- The reference's Destroy, walked. -/
import Derived.Test.YtfdgpbdppenhmaaGreatSap
section
namespace Go.Proofs.YtfdgpbdppenhmaaGreat
open Go.RowKit Go.Shelf Go.Maps
def dropAll (gs : List Int) (L : List Win) : List Win := gs.foldl (fun l g => dropL g l) L
theorem dropAll_take {gs : List Int} {k : Nat} {x : Int} (hx : gs[k]? = some x) (L : List Win) : dropAll (gs.take (k + 1)) L = dropL x (dropAll (gs.take k) L) := by
  have hk := (List.getElem?_eq_some_iff.1 hx).1
  unfold dropAll
  rw [List.take_succ_eq_append_getElem hk, List.foldl_append]
  rw [List.getElem?_eq_getElem hk] at hx
  injection hx with hx
  rw [hx]; rfl
theorem dropL_le (i : Int) (L : List Win) : (dropL i L).length ≤ L.length := List.length_filter_le _ _
theorem dropAll_len (gs : List Int) : ∀ (L : List Win), (dropAll gs L).length ≤ L.length := by
  induction gs with
  | nil => intro L; exact Nat.le_refl _
  | cons g t ih =>
    intro L
    exact Nat.le_trans (ih (dropL g L)) (dropL_le g L)
/-- The boxes of Destroy. -/
def DsX (R : RT) (sv : Value) (g : Nat) (wb W : World) : Prop := Blk W g 54 (refA R sv) ∧ Blk W (g + 1) 54 zeroT ∧ Below wb.heap.size wb W
theorem DsX.next {R : RT} {sv : Value} {g : Nat} {wb W W' : World} (h : DsX R sv g wb W) (hb : Below W.heap.size W W') : DsX R sv g wb W' := ⟨h.1.next hb, h.2.1.next hb, hb.on h.2.2 h.2.2.size⟩
/-- The rounds of Destroy. -/
def DsS (R : RT) (g : Nat) (w1 : World) (M : List Win) (wr : World) : Prop :=
  ∃ sv, Blk wr g 54 (refA R sv) ∧ Blk wr (g + 1) 54 zeroT ∧ RO wr sv M ∧ (∀ q, sv.ownBlock = some q → q ≠ g ∧ q ≠ g + 1) ∧ w1.grownBy wr (some g)
theorem grown6 {w1 w : World} {g : Nat} (h : w1.grownBy w (some g)) (v0 v1 v2 v3 v4 v5 : Value) : w1.grownBy ((((((w.setCell ⟨g, 0, none⟩ v0).setCell ⟨g, 1, none⟩ v1).setCell ⟨g, 2, none⟩ v2).setCell ⟨g, 3, none⟩ v3).setCell ⟨g, 4, none⟩ v4).setCell ⟨g, 5, none⟩ v5) (some g) := by
  have e : ∀ (W : World) (i : Nat) (u : Value), w1.grownBy W (some g) → w1.grownBy (W.setCell ⟨g, i, none⟩ u) (some g) := fun W i u hW => only_setCell hW (p := ⟨g, i, none⟩) (.inl rfl) u
  exact e _ 5 v5 (e _ 4 v4 (e _ 3 v3 (e _ 2 v2 (e _ 1 v1 (e _ 0 v0 h)))))
theorem far6 {w : World} {g g' : Nat} {T : TypeId} {cs : Array Value} (h : Blk w g' T cs) (hn : g' ≠ g) (v0 v1 v2 v3 v4 v5 : Value) : Blk ((((((w.setCell ⟨g, 0, none⟩ v0).setCell ⟨g, 1, none⟩ v1).setCell ⟨g, 2, none⟩ v2).setCell ⟨g, 3, none⟩ v3).setCell ⟨g, 4, none⟩ v4).setCell ⟨g, 5, none⟩ v5) g' T cs := by
  have e : ∀ (W : World) (i : Nat) (u : Value), Blk W g' T cs → Blk (W.setCell ⟨g, i, none⟩ u) g' T cs := fun W i u hW => hW.far (p := ⟨g, i, none⟩) hn u
  exact e _ 5 v5 (e _ 4 v4 (e _ 3 v3 (e _ 2 v2 (e _ 1 v1 (e _ 0 v0 h)))))
theorem put6 {w : World} {g : Nat} {T : TypeId} {z0 z1 z2 z3 z4 z5 : Value} (h : Blk w g T #[z0, z1, z2, z3, z4, z5]) (v0 v1 v2 v3 v4 v5 : Value) : Blk ((((((w.setCell ⟨g, 0, none⟩ v0).setCell ⟨g, 1, none⟩ v1).setCell ⟨g, 2, none⟩ v2).setCell ⟨g, 3, none⟩ v3).setCell ⟨g, 4, none⟩ v4).setCell ⟨g, 5, none⟩ v5) g T #[v0, v1, v2, v3, v4, v5] := by
  have := (((((h.set_ 0 v0).set_ 1 v1).set_ 2 v2).set_ 3 v3).set_ 4 v4).set_ 5 v5
  simpa using this
theorem DsS.step {R : RT} {g B : Nat} {w1 w6 : World} {M : List Win} {sv0 sv : Value} (hx : Blk w6 g 54 (refA R sv0)) (hz : Blk w6 (g + 1) 54 zeroT) (ho : OwK encW 61 7 w6 B sv M) (hB : g + 1 < B) (hg : w1.grownBy w6 (some g)) :
    DsS R g w1 M ((((((w6.setCell ⟨g, 0, none⟩ (.int .i64 R.x)).setCell ⟨g, 1, none⟩ (.int .i64 R.y)).setCell ⟨g, 2, none⟩ (.int .i64 R.w)).setCell ⟨g, 3, none⟩ (.int .i64 R.h)).setCell ⟨g, 4, none⟩ (.int .i64 R.last)).setCell ⟨g, 5, none⟩ sv) := by
  have hne : ∀ k, sv.ownBlock = some k → k ≠ g ∧ k ≠ g + 1 := fun k hk => by have := (World.ownsRow.lt ho k hk).1; omega
  exact ⟨sv, put6 hx _ _ _ _ _ _, far6 hz (Nat.succ_ne_self g) _ _ _ _ _ _, row6 (OwK.less ho (Nat.zero_le _)) hx (fun k hk => (hne k hk).1) _ _ _ _ _ _, hne, grown6 hg _ _ _ _ _ _⟩
section
variable {w : World} {R : RT} {sv : Value} {L : List Win}
set_option maxRecDepth 100000 in
set_option maxHeartbeats 600000 in
theorem rdestroy_no (h : RO w sv L) (hL : L.length ≤ 1048576) {i k : Int} (hk : askL L i = k) (hk0 : k ≠ 0) :
    Calls Tryz.prog 87 #[refV R sv, .int .i64 i] w fun ex w' => ∃ sv', ex = .returned (.tuple #[refV R sv', .slice none 0 0, .int .i64 k]) ∧ RO w' sv' L ∧ Below w.heap.size w w' := by
  obtain ⟨wb, hwb⟩ : ∃ wb, wb = (w.alloc (.cells (refA R sv) 54)).alloc (.cells zeroT 54) := ⟨_, rfl⟩
  have hbel : Below w.heap.size w wb := by rw [hwb]; exact ((Below.refl _ _).alloc (Nat.le_refl _) _).alloc (by simp) _
  have hbx : DsX R sv w.heap.size wb wb := by
    refine ⟨by rw [hwb]; exact (Blk.new w _ _).alloc _, ?_, Below.refl _ _⟩
    rw [hwb]
    have := Blk.new (w.alloc (.cells (refA R sv) 54)) 54 zeroT
    rwa [World.size_alloc] at this
  obtain ⟨p, c, hsv⟩ := OwK.slice h
  obtain ⟨n, hn⟩ : ∃ n, n = L.length := ⟨_, rfl⟩
  rw [← hn] at hsv
  subst hsv
  have HF := Lib.hid (fun W (hW : Below wb.heap.size wb W) => (show RO W (.slice p n c) L from OwK.below (OwK.below h hbel) hW))
  have HO := Lib.hid h
  have HN := Lib.hid hn
  have HL := Lib.hid hL
  obtain ⟨x0, x1, x2, x3, x4, x5⟩ := hbx.1.at6.1
  have H0 := Lib.hid hbx
  have HB := Lib.hid hbel
  have HW := Lib.hid hwb
  have hn0 : (n : Int) ≤ 1048576 := by omega
  have HA := Lib.hid (fun W (hW : Below wb.heap.size wb W) => (show Calls Tryz.prog 83 #[refV R (.slice p n c), .int .i64 i] W fun ex w' => ex = .returned (.int .i64 k) ∧ Below W.heap.size W w' from by rw [← hk]; exact asked_c (R := R) (HF.out W hW).rd hL i))
  have h1 : (k == 0) = false := by simpa using hk0
  have h2 : (k != 0) = true := by simp [bne, h1]
  clear h hbel hbx hn hk hk0
  go_enter Tryz.func87, Tryz.ntmps87
  go_upto_region 1 with fail
  rw [← HW.out]
  clear hwb
  go_upto_region 2 with (go_at_call 83; ((with_reducible refine (HA.out _ (Below.refl _ _)).mono ?_); rintro ex w1 ⟨rfl, hb⟩); have H1 := Lib.hid (H0.out.next hb); obtain ⟨x0, x1, x2, x3, x4, x5⟩ := H1.out.1.at6.1; clear hb)
  refine wp_region_noPanic ?_
  refine wp_region_held_drew (S := fun wx => wx.cell? ⟨w.heap.size, 0, none⟩ = some (.int .i64 R.x) ∧ wx.cell? ⟨w.heap.size, 1, none⟩ = some (.int .i64 R.y) ∧ wx.cell? ⟨w.heap.size, 2, none⟩ = some (.int .i64 R.w) ∧ wx.cell? ⟨w.heap.size, 3, none⟩ = some (.int .i64 R.h) ∧ wx.cell? ⟨w.heap.size, 4, none⟩ = some (.int .i64 R.last) ∧ wx.cell? ⟨w.heap.size, 5, none⟩ = some (.slice p n c)) (by kernel_rfl) (by exact H1.out.1.at6.1) (fun hHeld => ?_)
  refine wpAnyH_take (i := 0) (v := ?va0) rfl (by kernel_rfl) (by kernel_rfl) (by kernel_rfl) (fun _ _ _ h => h) (Or.inl ⟨by kernel_rfl, ?ya0⟩) (by assumption) ?ra0
  case ya0 => (intro wq hSw; (try dsimp only at hSw); go_simp; (try with_reducible rfl))
  (try simp only [Act.put, List.getElem_toArray, List.getElem_cons_zero, List.setIfInBounds_toArray, List.set_cons_zero, List.set_cons_succ])
  refine wpAnyH_take (i := 1) (v := ?va1) rfl (by kernel_rfl) (by kernel_rfl) (by kernel_rfl) (fun _ _ _ h => h) (Or.inl ⟨by kernel_rfl, ?ya1⟩) (by assumption) ?ra1
  case ya1 => (intro wq hSw; (try dsimp only at hSw); go_simp; (try with_reducible rfl))
  (try simp only [Act.put, List.getElem_toArray, List.getElem_cons_succ, List.getElem_cons_zero, List.setIfInBounds_toArray, List.set_cons_zero, List.set_cons_succ])
  refine wpAnyH_take (i := 2) (v := ?va2) rfl (by kernel_rfl) (by kernel_rfl) (by kernel_rfl) (fun _ _ _ h => h) (Or.inl ⟨by kernel_rfl, ?ya2⟩) (by assumption) ?ra2
  case ya2 => (intro wq hSw; (try dsimp only at hSw); go_simp; (try with_reducible rfl))
  (try simp only [Act.put, List.getElem_toArray, List.getElem_cons_succ, List.getElem_cons_zero, List.setIfInBounds_toArray, List.set_cons_zero, List.set_cons_succ])
  refine wpAnyH_ready (rs := [3]) (by kernel_rfl) (by simp) ?_
  refine AllReadyH.cons rfl (fun K hK => ?_) AllReadyH.nil
  go_simp
  refine (HA.out _ H1.out.2.2.drew).mono ?_
  rintro ex w2 ⟨rfl, hb0⟩; have hb1 : Below w1.heap.size w1 w2 := ((Below.refl _ w1).drew).trans hb0; have H2 := Lib.hid (H1.out.next hb1); clear hb0 hb1
  (try dsimp only)
  refine hK.out _ _ (by exact H2.out.1.at6.1) (fun hHeld => ?_)
  clear hK K
  (try simp only [Act.put, List.getElem_toArray, List.getElem_cons_succ, List.getElem_cons_zero, List.setIfInBounds_toArray, List.set_cons_zero, List.set_cons_succ])
  obtain ⟨⟨z0, z1, z2, z3, z4, z5⟩, ⟨f0, f1, f2, f3, f4, f5⟩⟩ := H2.out.2.1.at6
  refine wpAnyH_ready (rs := [4]) (by kernel_rfl) (by simp) ?_
  refine AllReadyH.cons rfl (fun K hK => ?_) AllReadyH.nil
  go_simp
  refine hK.out _ _ (by exact box6 H2.out.1 (by omega) _ _ _ _ _ _) (fun hHeld => ?_)
  clear hK K
  (try simp only [Act.put, List.getElem_toArray, List.getElem_cons_succ, List.getElem_cons_zero, List.setIfInBounds_toArray, List.set_cons_zero, List.set_cons_succ])
  refine wpAnyH_take (i := 5) (v := ?va5) rfl (by kernel_rfl) (by kernel_rfl) (by kernel_rfl) (fun _ _ _ h => h) (Or.inl ⟨by kernel_rfl, ?ya5⟩) (by assumption) ?ra5
  case ya5 => (intro wq hSw; (try dsimp only at hSw); go_simp; (try with_reducible rfl))
  (try simp only [Act.put, List.getElem_toArray, List.getElem_cons_succ, List.getElem_cons_zero, List.setIfInBounds_toArray, List.set_cons_zero, List.set_cons_succ])
  refine wpAnyH_take (i := 6) (v := ?va6) rfl (by kernel_rfl) (by kernel_rfl) (by kernel_rfl) (fun _ _ _ h => h) (Or.inl ⟨by kernel_rfl, ?ya6⟩) (by assumption) ?ra6
  case ya6 => (intro wq hSw; (try dsimp only at hSw); go_simp; (try with_reducible rfl))
  (try simp only [Act.put, List.getElem_toArray, List.getElem_cons_succ, List.getElem_cons_zero, List.setIfInBounds_toArray, List.set_cons_zero, List.set_cons_succ])
  refine wpAnyH_done (by kernel_rfl) ?_ _
  refine NoPanic.normal ?_
  go_wp2_with fail
  refine bodyPost_ret (v := .tuple #[refV R (.slice p n c), .slice none 0 0, .int .i64 k]) (by simp [results, Tryz.results87, go_sem, z0, z1, z2, z3, z4, z5]) rfl ?_
  have hb := set6 (H2.out.2.2.on HB.out HB.out.size) (g := w.heap.size + 1) (by omega) (.int .i64 R.x) (.int .i64 R.y) (.int .i64 R.w) (.int .i64 R.h) (.int .i64 R.last) (.slice p n c)
  exact ⟨_, rfl, row6 (HF.out _ H2.out.2.2) H2.out.2.1 (fun k hk e => by have h1 := (World.ownsRow.lt HO.out k hk).2; omega) _ _ _ _ _ _, hb⟩
set_option maxRecDepth 100000 in
set_option maxHeartbeats 1000000 in
theorem rdestroy_yes (h : RO w sv L) (hL : L.length ≤ 1048576) {i : Int} {m : Nat} (hask : askL L i = 0) (hT : Tall (ndL R L) m i) (hlen : (allL (ndL R L) m i).length ≤ 1048576) :
    Calls Tryz.prog 87 #[refV R sv, .int .i64 i] w fun ex w' => ∃ sv' gv, ex = .returned (.tuple #[refV R sv', gv, .int .i64 0]) ∧ RO w' sv' (dropAll (allL (ndL R L) m i) L) ∧ (RdI w' gv (allL (ndL R L) m i) ∧ ∀ g, gv.ownBlock = some g → w.heap.size ≤ g) ∧ Below w.heap.size w w' := by
  obtain ⟨wb, hwb⟩ : ∃ wb, wb = (w.alloc (.cells (refA R sv) 54)).alloc (.cells zeroT 54) := ⟨_, rfl⟩
  have hbel : Below w.heap.size w wb := by rw [hwb]; exact ((Below.refl _ _).alloc (Nat.le_refl _) _).alloc (by simp) _
  have hbx : DsX R sv w.heap.size wb wb := by
    refine ⟨by rw [hwb]; exact (Blk.new w _ _).alloc _, ?_, Below.refl _ _⟩
    rw [hwb]
    have := Blk.new (w.alloc (.cells (refA R sv) 54)) 54 zeroT
    rwa [World.size_alloc] at this
  obtain ⟨p, c, hsv⟩ := OwK.slice h
  obtain ⟨n, hn⟩ : ∃ n, n = L.length := ⟨_, rfl⟩
  rw [← hn] at hsv
  subst hsv
  have HF := Lib.hid (fun W (hW : Below wb.heap.size wb W) => (show RO W (.slice p n c) L from OwK.below (OwK.below h hbel) hW))
  have HO := Lib.hid h
  have HN := Lib.hid hn
  have HL := Lib.hid hL
  obtain ⟨x0, x1, x2, x3, x4, x5⟩ := hbx.1.at6.1
  have H0 := Lib.hid hbx
  have HB := Lib.hid hbel
  have HW := Lib.hid hwb
  have hn0 : (n : Int) ≤ 1048576 := by omega
  have HA := Lib.hid (show Calls Tryz.prog 83 #[refV R (.slice p n c), .int .i64 i] wb fun ex w' => ex = .returned (.int .i64 0) ∧ Below wb.heap.size wb w' from by rw [← hask]; exact asked_c (R := R) (HF.out wb (Below.refl _ _)).rd hL i)
  have HAL := Lib.hid (fun W (hW : Below wb.heap.size wb W) => rall_c (R := R) hL m i _ W (HF.out W hW).rd hT hlen)
  have HLE := Lib.hid hlen
  obtain ⟨gone, hgo⟩ : ∃ gone, gone = allL (ndL R L) m i := ⟨_, rfl⟩
  rw [← hgo] at HAL HLE ⊢
  obtain ⟨ng, hng⟩ : ∃ ng, ng = gone.length := ⟨_, rfl⟩
  rw [← hng] at HAL HLE
  have HNG := Lib.hid hng
  have hg0 : (ng : Int) ≤ 1048576 := by have := HLE.out; omega
  clear h hbel hbx hn hask hT hlen hgo hng
  go_enter Tryz.func87, Tryz.ntmps87
  go_upto_region 1 with fail
  rw [← HW.out]
  clear hwb
  go_upto_region 3 with (go_at_call 83; ((with_reducible refine (HA.out).mono ?_); rintro ex w0 ⟨rfl, hb⟩); have H1 := Lib.hid (H0.out.next hb); obtain ⟨x0, x1, x2, x3, x4, x5⟩ := H1.out.1.at6.1; have hW1 : Below wb.heap.size wb w0 := H1.out.2.2; clear hb)
  go_upto_region 4 with (go_at_call 115; ((with_reducible refine (HAL.out _ hW1).mono ?_); rintro ex w1 ⟨v1, rfl, ho1, hb1⟩); have hrd : RdI w1 v1 gone := RdI.of (B := w0.heap.size) (by rw [← HNG.out]; exact ho1); obtain ⟨p1, c1, hv1, hc1⟩ := hrd; rw [← HNG.out] at hv1; subst hv1; have HC1 := Lib.hid hc1; have HX1 := Lib.hid (H1.out.next hb1); have HOW := Lib.hid ho1; clear hc1 hb1 ho1)
  clear x0 x1 x2 x3 x4 x5
  have HLT := Lib.hid (HX1.out.1.lt)
  have HGE := Lib.hid (fun (g : Nat) (hg : p1 = some ⟨g, 0, none⟩) => (show g ≠ w.heap.size ∧ g ≠ w.heap.size + 1 from by
    have h1 := (World.ownsRow.lt HOW.out g (by rw [hg]; rfl)).1
    have h2 := H1.out.2.1.lt
    omega))
  go_wp2_with fail
  go_loopw [8] (fun z wr => ∃ k : Nat, k ≤ ng ∧ z = .int .i64 k ∧ DsS R w.heap.size w1 (dropAll (gone.take k) L) wr) (fun z _ => ng - (intOf z).toNat)
  case atStart => exact ⟨0, Nat.zero_le _, rfl, .slice p n c, HX1.out.1, HX1.out.2.1, HF.out _ HX1.out.2.2, fun q hq => by have h1 := (World.ownsRow.lt HO.out q hq).2; omega, World.grownBy.refl _ _⟩
  case round =>
    obtain ⟨k, hk, rfl, svr, hB, hZ, hR, hne, hgr⟩ := hrel
    obtain ⟨M, hM⟩ : ∃ M, M = dropAll (gone.take k) L := ⟨_, rfl⟩
    rw [← hM] at hR
    have hML : M.length ≤ 1048576 := by rw [hM]; exact Nat.le_trans (dropAll_len _ _) hL
    have HM := Lib.hid hM
    obtain ⟨pr, nr, cr, rfl⟩ := own_sl hR
    have hi0 : (0 : Int) ≤ (k : Int) := by omega
    have HBL := Lib.hid (below_only (HX1.out.2.2.on HB.out HB.out.size) hgr (Nat.le_of_lt HLT.out) (fun q hq => by injection hq with hq; omega))
    have HBK := Lib.hid hB
    have HZ := Lib.hid hZ
    have HGR := Lib.hid hgr
    have HRO := Lib.hid hR
    have HNE := Lib.hid hne
    have HRW := Lib.hid (fun W (hW : Below wr.heap.size wr W) (x : Int) => without_c (R := R) (show RO W _ M from OwK.below hR hW).rd hML x)
    clear hB hZ hR hne hgr hM hML
    by_cases hlt : k < ng
    · obtain ⟨x, hx⟩ : ∃ x, gone[k]? = some x := ⟨_, List.getElem?_eq_getElem (by rw [← HNG.out]; exact hlt)⟩
      obtain ⟨gk, hgk, hcx⟩ := HC1.out k x hx
      have hcr : wr.cell? ⟨gk, k, none⟩ = some (.int .i64 x) := HGR.out.cell hcx (fun e => (HGE.out gk hgk).1 (by injection e))
      have HX := Lib.hid (dropAll_take hx L)
      have hi1 : (k : Int) < (ng : Int) := by omega
      obtain ⟨⟨x0, x1, x2, x3, x4, x5⟩, -⟩ := HBK.out.at6
      subst hgk
      clear hx hcx
      go_wp2_with fail
      go_region_law (first
        | (go_simp; (go_at_call 86; ((with_reducible refine (HRW.out _ (Below.refl wr.heap.size wr).drew x).mono ?_); rintro ex w5 ⟨v5, rfl, ho5, hb0⟩); have HB5 := Lib.hid (show Below wr.heap.size wr w5 from ((Below.refl _ wr).drew).trans hb0); obtain ⟨p5, m5, c5, rfl⟩ := own_sl ho5; have HO5 := Lib.hid ho5; obtain ⟨y0, y1, y2, y3, y4, y5⟩ := (HBK.out.next HB5.out).at6.1; clear hb0 ho5))
        | (go_simp; (go_at_call 85; ((with_reducible refine (with_c R _ _ _ _ _ _ w5).mono ?_); rintro ex w6 ⟨rfl, hb6⟩); have HB6 := Lib.hid (hb6.on HB5.out HB5.out.size); have HO6 := Lib.hid (OwK.below HO5.out hb6); obtain ⟨⟨x0, x1, x2, x3, x4, x5⟩, ⟨f0, f1, f2, f3, f4, f5⟩⟩ := (HBK.out.next HB6.out).at6; clear hb6)))
      all_goals (go_wp2_with fail)
      all_goals exact ⟨⟨k + 1, by omega, by go_num, by
        rw [HX.out, ← HM.out]
        exact DsS.step (HBK.out.next HB6.out) (HZ.out.next HB6.out) HO6.out HZ.out.lt (only_next HGR.out HB6.out)⟩, by simp [intOf]; omega⟩
    · obtain rfl : k = ng := by omega
      have HT := Lib.hid (show M = dropAll gone L by rw [HM.out, HNG.out, List.take_length])
      obtain ⟨⟨x0, x1, x2, x3, x4, x5⟩, -⟩ := HBK.out.at6
      obtain ⟨⟨z0, z1, z2, z3, z4, z5⟩, ⟨f0, f1, f2, f3, f4, f5⟩⟩ := HZ.out.at6
      go_wp2_with fail
      refine bodyPost_ret (v := .tuple #[refV R (.slice pr nr cr), .slice p1 k c1, .int .i64 0]) (by simp [results, Tryz.results87, go_sem, z0, z1, z2, z3, z4, z5]) rfl ?_
      refine ⟨_, _, rfl, HT.out ▸ row6 HRO.out HZ.out (fun q hq => (HNE.out q hq).2) _ _ _ _ _ _, ⟨⟨p1, c1, by rw [HNG.out], fun j x hx => ?_⟩, fun g hg => Nat.le_trans (H1.out.2.2.on HB.out HB.out.size).size (World.ownsRow.lt HOW.out g hg).1⟩, set6 HBL.out (Nat.le_succ _) _ _ _ _ _ _⟩
      obtain ⟨gk, hgk, hcx⟩ := HC1.out j x hx
      exact ⟨gk, hgk, (cell6 (p := ⟨gk, j, none⟩) (HGE.out gk hgk).2 _ _ _ _ _ _).trans (HGR.out.cell hcx (fun e => (HGE.out gk hgk).1 (by injection e)))⟩
end
end Go.Proofs.YtfdgpbdppenhmaaGreat
end
