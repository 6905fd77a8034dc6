/- Texts SuE. -/
import Derived.Test.YtnhchpiafchdgaaGreatTav
import Derived.Test.YtnhchpiafchdgaaGreatTaa
namespace Go.Proofs.YtnhchpiafchdgaaGreat
open Go.RowKit Go.Shelf Go.Maps
def RyS (w : World) (r : Nat) (Z : Zl) (X0 : Xs) (v : Value) (xs : List Int) (j : Nat) (wr : World) : Prop :=
 ∃ Z1, Ref wr r Z1 ((xs.take j).foldl Xs.forget X0) ∧ Turn (Z.foot r) (Z1.foot r) w wr ∧ RdI wr v xs ∧ (xs ≠ [] → ∀ q, v.ownBlock = some q → q < wr.heap.size ∧ ¬ Z1.foot r q)
def GmS (w : World) (wr : World) (v : Value) (xs : List Md) : Prop := OwK encM 99 3 wr w.heap.size v xs ∧ Below w.heap.size w wr
theorem GmS.put {w wr w1 : World} {v v' : Value} {xs : List Md} {u : Md} {o : Obj} (h : GmS w wr v xs) (ho : w1.ownsRow w.heap.size 99 3 v' (xs.length + 1) (xs.flatMap encM ++ encM u)) (hg : (wr.alloc o).grownBy w1 v.ownBlock) : GmS w w1 v' (xs ++ [u]) := by
 refine ⟨?_, below_only (h.2.alloc h.2.size _) hg (by have := h.2.size; simp; omega) (fun k hk => (h.1.lt hk).1)⟩
 show w1.ownsRow w.heap.size 99 3 v' (xs ++ [u]).length ((xs ++ [u]).flatMap encM)
 rw [List.length_append, List.flatMap_append]
 simpa using ho
theorem GmS.next {w wr w1 : World} {v : Value} {xs : List Md} (h : GmS w wr v xs) (hb : Below wr.heap.size wr w1) : GmS w w1 v xs := ⟨OwK.below h.1 hb, hb.on h.2 h.2.size⟩
theorem one_encM (v : Md) : ∀ u ∈ encM v, u.oneCell' = true := fun q hv => by
 simp only [encM, List.mem_cons, List.not_mem_nil, or_false] at hv
 rcases hv with rfl | rfl | rfl <;> rfl
theorem cell_set {w : World} {g r i j : Nat} (u : Value) (hne : g ≠ r) : (w.setCell ⟨r, i, none⟩ u).cell? ⟨g, j, none⟩ = w.cell? ⟨g, j, none⟩ := by
 unfold World.cell?
 dsimp only
 rw [Below.heap_setCell w _ u g hne]
theorem cell_turn {F F' : Nat → Prop} {w w' : World} {g j : Nat} {u : Value} (hT : Turn F F' w w') (h1 : g < w.heap.size) (h2 : ¬ F g) (hc : w.cell? ⟨g, j, none⟩ = some u) : w'.cell? ⟨g, j, none⟩ = some u := by
 have := hT.block g h1 h2
 unfold World.cell? at hc ⊢
 dsimp only at hc ⊢
 rw [this]; exact hc
theorem dropM_snoc {x : Int} {L : List Md} {k : Nat} {v : Md} (h : L[k]? = some v) : dropM x (L.take (k + 1)) = if v.win = x then dropM x (L.take k) else dropM x (L.take k) ++ [v] := by
 unfold dropM
 rw [show L.take (k + 1) = L.take k ++ [v] by rw [List.take_add_one, h]; rfl, List.filter_append]
 by_cases hv : v.win = x
 · rw [if_pos hv]; simp [hv]
 · rw [if_neg hv]; simp [hv]
theorem dropM_len (x : Int) (L : List Md) (k : Nat) : (dropM x (L.take k)).length ≤ L.length := by
 refine Nat.le_trans (List.length_filter_le _ _) ?_
 rw [List.length_take]; omega
section
variable {w w' w0 : World} {r : Nat} {Z : Zl} {X : Xs} {k : Nat}
theorem RyS.turn {X0 : Xs} {v : Value} {xs : List Int} {j : Nat} {wr : World} {x : Int} (hx : xs[j]? = some x) {Z1 : Zl} (hY : Ref wr r Z1 ((xs.take j).foldl Xs.forget X0) ∧ Turn (Z.foot r) (Z1.foot r) w wr ∧ RdI wr v xs ∧ (xs ≠ [] → ∀ q, v.ownBlock = some q → q < wr.heap.size ∧ ¬ Z1.foot r q))
  (k1 : RefTo wr r Z1 (((xs.take j).foldl Xs.forget X0).forget x) w') : RyS w r Z X0 v xs (j + 1) w' := by
 obtain ⟨h1, h2, h3, h4⟩ := hY
 obtain ⟨Y2, h5, h6⟩ := k1
 refine ⟨Y2, by rw [fold_snoc hx]; exact h5, h2.trans h6, rdI_turn h3 h6 h4, fun hne r hr => ?_⟩
 obtain ⟨h7, h8⟩ := h4 hne r hr
 exact ⟨Nat.lt_of_lt_of_le h7 h6.size, h6.not h7 h8⟩
set_option maxRecDepth 100000 in
set_option maxHeartbeats 16000000 in
theorem rdestroy_c (h : Ref w r Z X) (hV : V0 X k) (hML : X.M.length ≤ 1000) {i : Int} (hi : I64 i) : Calls Tryz.prog 60 #[refP r, .int .i64 i] w fun ex w' => ex = .returned (.tuple #[]) ∧ RefTo w r Z (X.destroy i) w' := by
 obtain ⟨k1, k2, k3, -⟩ := t_destroy hV.s hi
 have hHL : X.H.length ≤ 1048576 := Nat.le_trans hV.hl (Nat.le_trans hV.s.most (by decide))
 obtain ⟨b0, b1, b2, b3, b4, b5, -, -, -, -, -⟩ := h.blk.at11
 obtain ⟨pl, cl, hlv⟩ := h.l.slice
 have HC := Lib.hid (k3 w Z.lv h.l)
 rw [hlv] at b5 HC
 have HR := Lib.hid h
 by_cases hask : askL X.L i = 0
 · have herr : (tDestroy X.R i X.L).2.2 = 0 := by unfold tDestroy; rw [if_neg (fun hh => hh hask)]
   obtain ⟨X0, hX0⟩ : ∃ X0 : Xs, X0 = { X with L := (tDestroy X.R i X.L).1 } := ⟨_, rfl⟩
   obtain ⟨L1, hL1⟩ : ∃ L1, L1 = (tDestroy X.R i X.L).1 := ⟨_, rfl⟩
   obtain ⟨xs, hxs⟩ : ∃ xs, xs = (tDestroy X.R i X.L).2.1 := ⟨_, rfl⟩
   have hfin : xs.foldl Xs.forget X0 = X.destroy i := by
    unfold Xs.destroy
    rw [hxs, hX0]
    unfold tDestroy
    split
    · rfl
    · rfl
   have hF0 : Fg X0 := ⟨by rw [hX0]; exact hV.ev, by rw [hX0]; exact hV.h, fun m hm => (hV.own m (by rw [hX0] at hm; exact hm)).1⟩
   have HXF := Lib.hid (fun (j : Nat) => (show Fg ((xs.take j).foldl Xs.forget X0) ∧ ((xs.take j).foldl Xs.forget X0).M.length ≤ 1000 ∧ ((xs.take j).foldl Xs.forget X0).H.length ≤ 1048576 from
    ⟨hF0.fold _, Nat.le_trans (fold_parts X0 _).2.2.2.2.2.1.length_le (by rw [hX0]; exact hML), Nat.le_trans (fold_parts X0 _).2.2.2.2.2.2 (by rw [hX0]; exact hHL)⟩))
   have HFIN := Lib.hid hfin
   have hlen : xs.length ≤ 1000 := by rw [hxs]; exact k2
   rw [herr, ← hxs, ← hL1] at HC
   rw [← hL1] at hX0
   have HP := Lib.hid (fun (w1 : World) (hW : Below w.heap.size w w1) (sv : Value) (ho : RO w1 sv L1) => (show RefTo w1 r Z X0 _ from hX0 ▸ (h.next hW).putT (R' := X.R) (Below.refl _ _) ho))
   obtain ⟨n, hn⟩ : ∃ n, n = xs.length := ⟨_, rfl⟩
   obtain ⟨nl, hnl⟩ : ∃ n, n = L1.length := ⟨_, rfl⟩
   have HN := Lib.hid hn
   have HNL := Lib.hid hnl
   rw [← hn] at hlen
   have hn0 : (n : Int) ≤ 1000 := by omega
   clear k1 k2 k3 hX0 hfin hF0 h hV hi hask herr hlv hxs hL1 hn hnl hlen
   go_enter Tryz.func60, Tryz.ntmps60
   go_upto_region 1 with (go_at_call 87; ((with_reducible refine (HC.out).mono ?_); rintro ex w1 ⟨sv, gv, rfl, ho, hr, hb⟩); have HO := Lib.hid ho; have HRD := Lib.hid hr; have HB := Lib.hid hb; obtain ⟨p5, c5, hsv⟩ := ho.slice; rw [← HNL.out] at hsv; subst hsv; obtain ⟨p, c, hgv⟩ := rdI_own hr.1; rw [← HN.out] at hgv; subst hgv; clear ho hr hb)
   obtain ⟨wb, hwb⟩ : ∃ wb, wb = w1.alloc (.cells #[.int .i64 X.R.x, .int .i64 X.R.y, .int .i64 X.R.w, .int .i64 X.R.h, .int .i64 X.R.last, .slice p5 nl c5] 54) := ⟨_, rfl⟩
   have hbel : Below w1.heap.size w1 wb := by rw [hwb]; exact (Below.refl _ _).alloc (Nat.le_refl _) _
   have hbx : Blk wb w1.heap.size 54 #[.int .i64 X.R.x, .int .i64 X.R.y, .int .i64 X.R.w, .int .i64 X.R.h, .int .i64 X.R.last, .slice p5 nl c5] := by rw [hwb]; exact Blk.new w1 _ _
   rw [← hwb]
   have hB2 := hbel.on HB.out HB.out.size
   have hs := HR.out.next hB2
   clear b0 b1 b2 b3 b4 b5
   obtain ⟨b0, b1, b2, b3, b4, b5, -, -, -, -, -⟩ := hs.blk.at11
   obtain ⟨f0, f1, f2, f3, f4, f5⟩ := (show _ ∧ _ ∧ _ ∧ _ ∧ _ ∧ _ from ⟨hs.blk.frozen 0, hs.blk.frozen 1, hs.blk.frozen 2, hs.blk.frozen 3, hs.blk.frozen 4, hs.blk.frozen 5⟩)
   obtain ⟨x0, x1, x2, x3, x4, x5⟩ := (show _ ∧ _ ∧ _ ∧ _ ∧ _ ∧ _ from ⟨hbx.at_ (i := 0) rfl, hbx.at_ (i := 1) rfl, hbx.at_ (i := 2) rfl, hbx.at_ (i := 3) rfl, hbx.at_ (i := 4) rfl, hbx.at_ (i := 5) rfl⟩)
   have HQ := Lib.hid (HP.out wb hB2 (.slice p5 nl c5) (OwK.below HO.out hbel))
   have HRD2 := Lib.hid (And.intro (HRD.out.1.next hbel) HRD.out.2)
   have HBB := Lib.hid hB2
   clear hbel hbx hwb hs hB2
   go_upto_region 3 with fail
   obtain ⟨wc, hwc⟩ : ∃ wc, wc = ((((((wb.setCell ⟨r, 0, none⟩ (.int .i64 X.R.x)).setCell ⟨r, 1, none⟩ (.int .i64 X.R.y)).setCell ⟨r, 2, none⟩ (.int .i64 X.R.w)).setCell ⟨r, 3, none⟩ (.int .i64 X.R.h)).setCell ⟨r, 4, none⟩ (.int .i64 X.R.last)).setCell ⟨r, 5, none⟩ (.slice p5 nl c5)) := ⟨_, rfl⟩
   have HD0 := Lib.hid (show RyS w r Z X0 (.slice p n c) xs 0 wc from by
    have hQ := HQ.out
    rw [← hwc] at hQ
    obtain ⟨Z1, q1, q2⟩ := hQ
    have hlt : xs ≠ [] → ∀ q, (Value.slice p n c).ownBlock = some q → q < wb.heap.size := fun hne q hq => by
      obtain ⟨p', c', e0, hcl⟩ := HRD2.out.1
      cases hq2 : xs with
      | nil => exact absurd hq2 hne
      | cons a t =>
        obtain ⟨g, e1, e2⟩ := hcl 0 a (by rw [hq2]; rfl)
        simp only [Value.slice.injEq] at e0
        obtain ⟨rfl, -, -⟩ := e0
        subst e1
        have e3 : g = q := by simpa [Value.ownBlock] using hq
        rw [← e3]
        exact World.block_lt_of_cell? _ _ e2
    have hne : ∀ q, (Value.slice p n c).ownBlock = some q → q ≠ r := fun q hq e => by
      have := HRD2.out.2 q hq
      have h2 := HR.out.blk.lt
      omega
    have hrd : RdI wc (.slice p n c) xs := by
      obtain ⟨p', c', e0, hcl⟩ := HRD2.out.1
      refine ⟨p', c', e0, fun j x hx => ?_⟩
      obtain ⟨g, e1, e2⟩ := hcl j x hx
      refine ⟨g, e1, ?_⟩
      simp only [Value.slice.injEq] at e0
      obtain ⟨rfl, -, -⟩ := e0
      subst e1
      have hg := hne g rfl
      rw [hwc]
      rw [cell_set _ hg, cell_set _ hg, cell_set _ hg, cell_set _ hg, cell_set _ hg, cell_set _ hg]
      exact e2
    refine ⟨Z1, by rw [List.take_zero, List.foldl_nil]; exact q1, (Turn.of_below HBB.out).trans q2, hrd, fun hne2 q hq => ⟨?_, fun hf => ?_⟩⟩
    · have := hlt hne2 q hq
      have h2 : wc.heap.size = wb.heap.size := by rw [hwc]; simp [World.setCell]
      omega
    · have h1 := hlt hne2 q hq
      have h3 := HRD2.out.2 q hq
      rcases q2.foot q hf with h4 | h4
      · rcases h4 with h4 | h4
        · exact hne q hq h4
        · have := HR.out.lt (.inr (.inr (.inr (.inr h4)))); omega
      · omega)
   rw [← hwc]
   clear hwc HQ b0 b1 b2 b3 b4 b5 f0 f1 f2 f3 f4 f5 x0 x1 x2 x3 x4 x5
   go_wp2_with fail
   go_loopw [7] (fun z wr => ∃ j : Nat, j ≤ n ∧ z = .int .i64 j ∧ RyS w r Z X0 (.slice p n c) xs j wr) (fun z _ => n - (intOf z).toNat)
   case atStart => exact ⟨0, Nat.zero_le _, rfl, HD0.out⟩
   case round =>
    obtain ⟨j, hj, rfl, hD⟩ := hrel
    obtain ⟨wo, hwo⟩ : ∃ wo, wo = wr := ⟨_, rfl⟩
    subst hwo
    by_cases hlt : j < n
    · obtain ⟨x, hx⟩ : ∃ x, xs[j]? = some x := ⟨_, List.getElem?_eq_getElem (by rw [← HN.out]; exact hlt)⟩
      obtain ⟨hFg, hMl, hHl⟩ := HXF.out j
      obtain ⟨Z1, hY⟩ := hD
      obtain ⟨S1, U1, R1, N1⟩ := hY
      obtain ⟨p', c', hpe, hcell⟩ := R1
      obtain ⟨g, hp, hcx⟩ := hcell j x hx
      simp only [Value.slice.injEq] at hpe
      obtain ⟨rfl, -, rfl⟩ := hpe
      subst hp
      obtain ⟨ng1, ng2⟩ := N1 (fun e => by rw [e] at hx; simp at hx) g rfl
      have HY := Lib.hid (show Ref wo r Z1 ((xs.take j).foldl Xs.forget X0) ∧ Turn (Z.foot r) (Z1.foot r) w wo ∧ RdI wo (.slice (some ⟨g, 0, none⟩) n c) xs ∧ (xs ≠ [] → ∀ q, (Value.slice (some ⟨g, 0, none⟩) n c).ownBlock = some q → q < wo.heap.size ∧ ¬ Z1.foot r q) from ⟨S1, U1, ⟨_, c, by rw [HN.out], hcell⟩, N1⟩)
      obtain ⟨X2, hX2⟩ : ∃ X2, X2 = (xs.take j).foldl Xs.forget X0 := ⟨_, rfl⟩
      rw [← hX2] at S1 hFg hMl hHl
      have hi0' : (0 : Int) ≤ (j : Int) := by omega
      have hi1 : (j : Int) < (n : Int) := by omega
      have HT := Lib.hid (fun (W : World) (hT : RefTo wo r Z1 (X2.forget x) W) => (show RyS w r Z X0 (.slice (some ⟨g, 0, none⟩) n c) xs (j + 1) W from RyS.turn hx HY.out (by rw [← hX2]; exact hT)))
      have HOW := Lib.hid (rowner_c S1 (by omega) x)
      obtain ⟨o, ho⟩ : ∃ o, o = ownM x X2.M := ⟨_, rfl⟩
      rw [← ho] at HOW
      have HS := Lib.hid S1
      have HG := Lib.hid (And.intro ng1 ng2)
      have HXX := Lib.hid (forget_eq X2 x)
      rw [← ho] at HXX
      by_cases hc : o = 0
      · subst hc
        have HX3 := Lib.hid (show X2.forget x = { X2 with H := Pp.dropH x X2.H, M := dropM x X2.M } from by rw [HXX.out]; rfl)
        obtain ⟨X4, hX4⟩ : ∃ X4, X4 = X2 := ⟨_, rfl⟩
        obtain ⟨Z2, hZ2⟩ : ∃ Z2, Z2 = Z1 := ⟨_, rfl⟩
        have HU := Lib.hid (show Turn (Z1.foot r) (Z2.foot r) wo wo from by rw [hZ2]; exact Turn.of_below (Below.refl _ _))
        have HX4 := Lib.hid (show X2.forget x = { X4 with H := Pp.dropH x X4.H, M := dropM x X4.M } from by rw [hX4]; exact HX3.out)
        have lc := hcx
        rw [← hX4] at S1
        rw [← hZ2] at S1
        have hl4 : X4.M.length ≤ 1000 ∧ X4.H.length ≤ 1048576 := by rw [hX4]; exact ⟨hMl, hHl⟩
        have hg4 : g < wo.heap.size ∧ ¬ Z2.foot r g := by rw [hZ2]; exact ⟨ng1, ng2⟩
        have HG4 := Lib.hid hg4
        have HS4 := Lib.hid S1
        have HL4 := Lib.hid hl4
        clear hx S1 U1 N1 hcell hX2 ho hFg hMl hHl hcx HXX HX3 hX4 hZ2 hg4 hl4 ng1 ng2 HS HG
        go_upto_region 8 with (go_at_call 22; ((with_reducible refine (HOW.out).mono ?_); rintro e w3 ⟨rfl, rfl⟩))
        obtain ⟨p6, c6, hp6⟩ := HS4.out.p.slice
        have b6 := HS4.out.blk.at_ (i := 6) (v := Z2.pv) rfl
        have HDR := Lib.hid (fun W' (hW : Below wo.heap.size wo W') => Pp.rdrop_c (HS4.out.next hW).p.rd HL4.out.2 x)
        rw [hp6] at b6 HDR
        clear hp6
        refine wp_region_noPanic ?_
        refine wp_region_held_drew (S := fun wx => wx.cell? ⟨g, j, none⟩ = some (.int .i64 x)) (by kernel_rfl) (by exact lc) (fun hHeld => ?_)
        refine tk 0 ?va0 rfl ?ya0 ?ra0
        case ya0 => (intro q h; (try dsimp only at h); go_simp; (try with_reducible rfl))
        (try simp only [Act.put, p1, p3, p4, p5, p6])
        refine tk 1 ?va1 rfl ?ya1 ?ra1
        case ya1 => (intro q h; (try dsimp only at h); go_simp; (try with_reducible rfl))
        (try simp only [Act.put, p1, p2, p3, p4, p5, p6])
        refine tk 2 ?va2 rfl ?ya2 ?ra2
        case ya2 => (intro q h; (try dsimp only at h); go_simp; (try with_reducible rfl))
        (try simp only [Act.put, p1, p2, p3, p4, p5, p6])
        refine tk 3 ?va3 rfl ?ya3 ?ra3
        case ya3 => (intro q h; (try dsimp only at h); go_simp; (try with_reducible rfl))
        (try simp only [Act.put, p1, p2, p3, p4, p5, p6])
        refine tk 5 ?va5 rfl ?ya5 ?ra5
        case ya5 => (intro q h; (try dsimp only at h); go_simp; (try with_reducible rfl))
        (try simp only [Act.put, p1, p2, p3, p4, p5, p6])
        refine tk 6 ?va6 rfl ?ya6 ?ra6
        case ya6 => (intro q h; (try dsimp only at h); go_simp; (try with_reducible rfl))
        (try simp only [Act.put, p1, p2, p3, p4, p5, p6])
        refine tk 7 ?va7 rfl ?ya7 ?ra7
        case ya7 => (intro q h; (try dsimp only at h); go_simp; (try with_reducible rfl))
        (try simp only [Act.put, p1, p2, p3, p4, p5, p6])
        refine tk 8 ?va8 rfl ?ya8 ?ra8
        case ya8 => (intro q h; (try dsimp only at h); go_simp; (try with_reducible rfl))
        (try simp only [Act.put, p1, p2, p3, p4, p5, p6])
        refine wpAnyH_ready (rs := [4]) (by kernel_rfl) (by simp) ?_
        refine AllReadyH.cons rfl (fun K hK => ?_) AllReadyH.nil
        go_simp
        refine hK.out _ _ (by exact lc) (fun hHeld => ?_)
        clear hK K
        (try simp only [Act.put, p1, p2, p3, p4, p5, p6])
        refine wpAnyH_ready (rs := [9]) (by kernel_rfl) (by simp) ?_
        refine AllReadyH.cons rfl (fun K hK => ?_) AllReadyH.nil
        go_simp
        refine (HDR.out _ (Below.refl _ _).drew).mono ?_
        rintro ex w4 ⟨v4, rfl, T4, B4⟩; obtain ⟨p4, c4, hv4⟩ := T4.slice; subst hv4; have HB4 := Lib.hid (B4.on (Below.refl wo.heap.size wo).drew (Below.refl wo.heap.size wo).drew.size); have HT4 := Lib.hid T4; clear T4 B4; have lc4 := (HB4.out.cell (p := ⟨g, j, none⟩) HG4.out.1).trans lc; have b6' := (HS4.out.next HB4.out).blk.at_ (i := 6) (v := Z2.pv) rfl; have f6' := (HS4.out.next HB4.out).blk.frozen 6
        (try dsimp only)
        refine hK.out _ _ (by exact lc4) (fun hHeld => ?_)
        clear hK K
        (try simp only [Act.put, p1, p2, p3, p4, p5, p6])
        refine tk 10 ?va10 rfl ?ya10 ?ra10
        case ya10 => (intro q h; (try dsimp only at h); go_simp; (try with_reducible rfl))
        (try simp only [Act.put, p1, p2, p3, p4, p5, p6])
        refine tk 11 ?va11 rfl ?ya11 ?ra11
        case ya11 => (intro q h; (try dsimp only at h); go_simp; (try with_reducible rfl))
        (try simp only [Act.put, p1, p2, p3, p4, p5, p6])
        refine wpAnyH_ready (rs := [12]) (by kernel_rfl) (by simp) ?_
        refine AllReadyH.cons rfl (fun K hK => ?_) AllReadyH.nil
        have lc5 := (cell_set (i := 6) (.slice p4 (Pp.dropH x X4.H).length c4) (fun e => HG4.out.2 (.inl e))).trans lc4; go_simp
        refine hK.out _ _ (by exact lc5) (fun hHeld => ?_)
        clear hK K
        (try simp only [Act.put, p1, p2, p3, p4, p5, p6])
        refine wpAnyH_done (by kernel_rfl) ?_ _
        refine NoPanic.normal ?_
        go_upto_region 9 with fail
        have HP5 := Lib.hid (HS4.out.putP HB4.out (show Pp.OH w4 0 (.slice p4 (Pp.dropH x X4.H).length c4) (Pp.dropH x X4.H) from OwK.less (enc := Pp.encH) (k := 4) HT4.out (Nat.zero_le _)))
        obtain ⟨w5, hw5⟩ : ∃ w5, w5 = w4.setCell ⟨r, 6, none⟩ (.slice p4 (Pp.dropH x X4.H).length c4) := ⟨_, rfl⟩
        rw [← hw5] at lc5 HP5 ⊢
        obtain ⟨Z5, S5, U5⟩ := HP5.out
        have HU5 := Lib.hid (HU.out.trans U5)
        have HG5 := Lib.hid (show g < w5.heap.size ∧ ¬ Z5.foot r g from ⟨Nat.lt_of_lt_of_le HG4.out.1 U5.size, U5.not HG4.out.1 HG4.out.2⟩)
        have HS5 := Lib.hid S5
        obtain ⟨p7, c7, hm7, hrd7⟩ := OwK.reads encM_len S5.m
        obtain ⟨nm, hnm⟩ : ∃ nm, nm = X4.M.length := ⟨_, rfl⟩
        have hm7' : Z5.mv = .slice p7 nm c7 := by rw [hnm]; exact hm7
        have HM7 := Lib.hid (fun W (hW : Below w5.heap.size w5 W) => (show W.cell? ⟨r, 7, none⟩ = some (.slice p7 nm c7) from by rw [← hm7']; exact (HS5.out.next hW).blk.at_ (i := 7) (v := Z5.mv) rfl))
        have HE7 := Lib.hid (fun W (hW : Below w5.heap.size w5 W) (q : Nat) (v : Md) (hv : X4.M[q]? = some v) => (show ∃ b o, p7 = some ⟨b, o, none⟩ ∧ ∀ (i : Nat) (u : Value), (encM v)[i]? = some u → W.cell? ⟨b, o + q * 3 + i, none⟩ = some u from by
          obtain ⟨b, o, h1, h2, h3⟩ := hrd7 q v hv
          exact ⟨b, o, h1, fun i u hu => (hW.cell (p := ⟨b, o + q * 3 + i, none⟩) h2).trans (h3 i u hu)⟩))
        have HNM := Lib.hid hnm
        have HLL := Lib.hid (fun q => (show (dropM x (X4.M.take q)).length ≤ X4.M.length from dropM_len x X4.M q))
        have hnm0 : nm ≤ 1000 := by rw [hnm]; exact HL4.out.1
        have hnm1 : (nm : Int) ≤ 1000 := by omega
        clear lc lc4 b6 b6' f6' hw5 S5 U5 hm7 hm7' hrd7 hnm HDR HP5
        go_wp2_with fail
        go_loopw [8, 9] (fun y z wr => ∃ q : Nat, q ≤ nm ∧ z = .int .i64 q ∧ GmS w5 wr y (dropM x (X4.M.take q))) (fun _ z _ => nm - (intOf z).toNat)
        case atStart => exact ⟨0, Nat.zero_le _, rfl, OwK.nil _ _, Below.refl _ _⟩
        case round =>
          obtain ⟨q, hq, rfl, hGG⟩ := hrel
          have HGG := Lib.hid hGG
          have b7 := HM7.out wr hGG.2
          have lc6 := (hGG.2.cell (p := ⟨g, j, none⟩) HG5.out.1).trans lc5
          have hq0 : (0 : Int) ≤ (q : Int) := by omega
          by_cases hltq : q < nm
          · obtain ⟨v, hv⟩ : ∃ v, X4.M[q]? = some v := ⟨_, List.getElem?_eq_getElem (by rw [← HNM.out]; exact hltq)⟩
            obtain ⟨b, o, rfl, hb2⟩ := HE7.out wr hGG.2 q v hv
            have r0 := hb2 0 _ rfl
            have r1 := hb2 1 _ rfl
            have r2 := hb2 2 _ rfl
            simp only [Nat.add_zero] at r0
            have hsn := dropM_snoc (x := x) hv
            clear hb2 hGG hv
            have hq1 : (q : Int) < (nm : Int) := by omega
            by_cases hvi : v.win = x
            · have h2 : (v.win != x) = false := by simpa using hvi
              have HSN := Lib.hid (hsn.trans (if_pos hvi))
              clear hsn hvi
              go_upto_region 13 with fail
              go_quiet (fail)
              go_wp2_with fail
              go_roundw
              case rel => exact ⟨q + 1, by omega, by go_num, by rw [HSN.out]; exact HGG.out.next (below_drewN (Below.refl _ _) _)⟩
              case measure => simp [intOf]; omega
            · have h2 : (v.win != x) = true := by simpa using hvi
              have HSN := Lib.hid (hsn.trans (if_neg hvi))
              clear hsn hvi
              obtain ⟨i0, hi0, hz0, hz1, hz2⟩ := info_parts madInfo
              go_upto_region 13 with fail
              go_quiet (fail)
              go_wp2_with (at_builtin; refine wpList_append_own_at _ rfl (.tmp 80) (.tmp 88) 56 rfl w5.heap.size 99 i0 (.agg #[.int .i64 0, .int .i64 0, .bool false]) 3 24 Tryz.underlying56 hi0 hz0 hz1 hz2 rfl (by decide) _ _ _ rfl (World.ownsRow.alloc (own_next HGG.out.1 (below_drewN (Below.refl _ wr) nq)) _) ⟨_, 0, none⟩ 1 1 (encM v) rfl rfl (cell_list_at _ _ (encM v) _ rfl) (one_encM v) (by unfold maxLen; have := HLL.out q; have := HNM.out; omega) (by have := HLL.out q; have := HNM.out; omega) (by have := HGG.out.2.size; simp; omega) ?_; intro v3 w3 ho3 hg3 _ _; have HP := Lib.hid (GmS.put (HGG.out.next (below_drewN (Below.refl _ wr) nq)) ho3 hg3); clear ho3 hg3)
              go_roundw
              case rel => exact ⟨q + 1, by omega, by go_num, by rw [HSN.out]; exact HP.out⟩
              case measure => simp [intOf]; omega
          · obtain rfl : q = nm := by omega
            rw [HNM.out, List.take_length] at hGG
            obtain ⟨p8, c8, hy⟩ := hGG.1.slice
            subst hy
            have f7 := (HS5.out.next hGG.2).blk.frozen 7
            have HP8 := Lib.hid (HS5.out.putM hGG.2 (OwK.less hGG.1 (Nat.zero_le _)))
            clear hGG
            go_wp2_with fail
            go_roundw
            case rel => exact ⟨j + 1, by omega, by go_num, HT.out _ (by rw [HX4.out]; exact RefTo.trans HU5.out HP8.out)⟩
            case measure => simp [intOf]; omega
      · have h0' : (o != 0) = true := by simpa using hc
        have HX3 := Lib.hid (show X2.forget x = { X2.tell ⟨4, x, 0, 0, 0, 0, ⟨#[]⟩⟩ with H := Pp.dropH x X2.H, M := dropM x X2.M } from by rw [HXX.out, if_pos hc]; rfl)
        have HTL := Lib.hid (rtell_c S1 hFg.ev ⟨4, x, 0, 0, 0, 0, ⟨#[]⟩⟩)
        obtain ⟨X4, hX4⟩ : ∃ X4, X4 = X2.tell ⟨4, x, 0, 0, 0, 0, ⟨#[]⟩⟩ := ⟨_, rfl⟩
        have hp4 := tell_RL X2 ⟨4, x, 0, 0, 0, 0, ⟨#[]⟩⟩
        rw [← hX4] at HX3 HTL hp4
        have HX4 := Lib.hid (show X2.forget x = { X4 with H := Pp.dropH x X4.H, M := dropM x X4.M } from by rw [HX3.out, hp4.2.2.1, hp4.2.2.2.1])
        have HL4 := Lib.hid (show X4.M.length ≤ 1000 ∧ X4.H.length ≤ 1048576 from by rw [hp4.2.2.1, hp4.2.2.2.1]; exact ⟨hMl, hHl⟩)
        clear hx S1 U1 N1 hcell hX2 ho hFg hMl hHl HXX HX3 hX4 ng1 ng2 HS hp4 hc
        go_upto_region 8 with (first
          | (go_at_call 22; ((with_reducible refine (HOW.out).mono ?_); rintro e w3 ⟨rfl, rfl⟩))
          | (go_at_call 88; ((with_reducible refine (HTL.out).mono ?_); rintro e w2 ⟨rfl, Z2, S2, U2⟩); have lc := cell_turn U2 HG.out.1 HG.out.2 hcx; have HS4 := Lib.hid S2; have HU := Lib.hid U2; have HG4 := Lib.hid (And.intro (Nat.lt_of_lt_of_le HG.out.1 U2.size) (U2.not HG.out.1 HG.out.2)); clear S2 U2))
        obtain ⟨p6, c6, hp6⟩ := HS4.out.p.slice
        have b6 := HS4.out.blk.at_ (i := 6) (v := Z2.pv) rfl
        have HDR := Lib.hid (fun W' (hW : Below w2.heap.size w2 W') => Pp.rdrop_c (HS4.out.next hW).p.rd HL4.out.2 x)
        rw [hp6] at b6 HDR
        clear hp6
        refine wp_region_noPanic ?_
        refine wp_region_held_drew (S := fun wx => wx.cell? ⟨g, j, none⟩ = some (.int .i64 x)) (by kernel_rfl) (by exact lc) (fun hHeld => ?_)
        refine tk 0 ?vb0 rfl ?yb0 ?rb0
        case yb0 => (intro q h; (try dsimp only at h); go_simp; (try with_reducible rfl))
        (try simp only [Act.put, p1, p3, p4, p5, p6])
        refine tk 1 ?vb1 rfl ?yb1 ?rb1
        case yb1 => (intro q h; (try dsimp only at h); go_simp; (try with_reducible rfl))
        (try simp only [Act.put, p1, p2, p3, p4, p5, p6])
        refine tk 2 ?vb2 rfl ?yb2 ?rb2
        case yb2 => (intro q h; (try dsimp only at h); go_simp; (try with_reducible rfl))
        (try simp only [Act.put, p1, p2, p3, p4, p5, p6])
        refine tk 3 ?vb3 rfl ?yb3 ?rb3
        case yb3 => (intro q h; (try dsimp only at h); go_simp; (try with_reducible rfl))
        (try simp only [Act.put, p1, p2, p3, p4, p5, p6])
        refine tk 5 ?vb5 rfl ?yb5 ?rb5
        case yb5 => (intro q h; (try dsimp only at h); go_simp; (try with_reducible rfl))
        (try simp only [Act.put, p1, p2, p3, p4, p5, p6])
        refine tk 6 ?vb6 rfl ?yb6 ?rb6
        case yb6 => (intro q h; (try dsimp only at h); go_simp; (try with_reducible rfl))
        (try simp only [Act.put, p1, p2, p3, p4, p5, p6])
        refine tk 7 ?vb7 rfl ?yb7 ?rb7
        case yb7 => (intro q h; (try dsimp only at h); go_simp; (try with_reducible rfl))
        (try simp only [Act.put, p1, p2, p3, p4, p5, p6])
        refine tk 8 ?vb8 rfl ?yb8 ?rb8
        case yb8 => (intro q h; (try dsimp only at h); go_simp; (try with_reducible rfl))
        (try simp only [Act.put, p1, p2, p3, p4, p5, p6])
        refine wpAnyH_ready (rs := [4]) (by kernel_rfl) (by simp) ?_
        refine AllReadyH.cons rfl (fun K hK => ?_) AllReadyH.nil
        go_simp
        refine hK.out _ _ (by exact lc) (fun hHeld => ?_)
        clear hK K
        (try simp only [Act.put, p1, p2, p3, p4, p5, p6])
        refine wpAnyH_ready (rs := [9]) (by kernel_rfl) (by simp) ?_
        refine AllReadyH.cons rfl (fun K hK => ?_) AllReadyH.nil
        go_simp
        refine (HDR.out _ (Below.refl _ _).drew).mono ?_
        rintro ex w4 ⟨v4, rfl, T4, B4⟩; obtain ⟨p4, c4, hv4⟩ := T4.slice; subst hv4; have HB4 := Lib.hid (B4.on (Below.refl w2.heap.size w2).drew (Below.refl w2.heap.size w2).drew.size); have HT4 := Lib.hid T4; clear T4 B4; have lc4 := (HB4.out.cell (p := ⟨g, j, none⟩) HG4.out.1).trans lc; have b6' := (HS4.out.next HB4.out).blk.at_ (i := 6) (v := Z2.pv) rfl; have f6' := (HS4.out.next HB4.out).blk.frozen 6
        (try dsimp only)
        refine hK.out _ _ (by exact lc4) (fun hHeld => ?_)
        clear hK K
        (try simp only [Act.put, p1, p2, p3, p4, p5, p6])
        refine tk 10 ?vb10 rfl ?yb10 ?rb10
        case yb10 => (intro q h; (try dsimp only at h); go_simp; (try with_reducible rfl))
        (try simp only [Act.put, p1, p2, p3, p4, p5, p6])
        refine tk 11 ?vb11 rfl ?yb11 ?rb11
        case yb11 => (intro q h; (try dsimp only at h); go_simp; (try with_reducible rfl))
        (try simp only [Act.put, p1, p2, p3, p4, p5, p6])
        refine wpAnyH_ready (rs := [12]) (by kernel_rfl) (by simp) ?_
        refine AllReadyH.cons rfl (fun K hK => ?_) AllReadyH.nil
        have lc5 := (cell_set (i := 6) (.slice p4 (Pp.dropH x X4.H).length c4) (fun e => HG4.out.2 (.inl e))).trans lc4; go_simp
        refine hK.out _ _ (by exact lc5) (fun hHeld => ?_)
        clear hK K
        (try simp only [Act.put, p1, p2, p3, p4, p5, p6])
        refine wpAnyH_done (by kernel_rfl) ?_ _
        refine NoPanic.normal ?_
        go_upto_region 9 with fail
        have HP5 := Lib.hid (HS4.out.putP HB4.out (show Pp.OH w4 0 (.slice p4 (Pp.dropH x X4.H).length c4) (Pp.dropH x X4.H) from OwK.less (enc := Pp.encH) (k := 4) HT4.out (Nat.zero_le _)))
        obtain ⟨w5, hw5⟩ : ∃ w5, w5 = w4.setCell ⟨r, 6, none⟩ (.slice p4 (Pp.dropH x X4.H).length c4) := ⟨_, rfl⟩
        rw [← hw5] at lc5 HP5 ⊢
        obtain ⟨Z5, S5, U5⟩ := HP5.out
        have HU5 := Lib.hid (HU.out.trans U5)
        have HG5 := Lib.hid (show g < w5.heap.size ∧ ¬ Z5.foot r g from ⟨Nat.lt_of_lt_of_le HG4.out.1 U5.size, U5.not HG4.out.1 HG4.out.2⟩)
        have HS5 := Lib.hid S5
        obtain ⟨p7, c7, hm7, hrd7⟩ := OwK.reads encM_len S5.m
        obtain ⟨nm, hnm⟩ : ∃ nm, nm = X4.M.length := ⟨_, rfl⟩
        have hm7' : Z5.mv = .slice p7 nm c7 := by rw [hnm]; exact hm7
        have HM7 := Lib.hid (fun W (hW : Below w5.heap.size w5 W) => (show W.cell? ⟨r, 7, none⟩ = some (.slice p7 nm c7) from by rw [← hm7']; exact (HS5.out.next hW).blk.at_ (i := 7) (v := Z5.mv) rfl))
        have HE7 := Lib.hid (fun W (hW : Below w5.heap.size w5 W) (q : Nat) (v : Md) (hv : X4.M[q]? = some v) => (show ∃ b o, p7 = some ⟨b, o, none⟩ ∧ ∀ (i : Nat) (u : Value), (encM v)[i]? = some u → W.cell? ⟨b, o + q * 3 + i, none⟩ = some u from by
          obtain ⟨b, o, h1, h2, h3⟩ := hrd7 q v hv
          exact ⟨b, o, h1, fun i u hu => (hW.cell (p := ⟨b, o + q * 3 + i, none⟩) h2).trans (h3 i u hu)⟩))
        have HNM := Lib.hid hnm
        have HLL := Lib.hid (fun q => (show (dropM x (X4.M.take q)).length ≤ X4.M.length from dropM_len x X4.M q))
        have hnm0 : nm ≤ 1000 := by rw [hnm]; exact HL4.out.1
        have hnm1 : (nm : Int) ≤ 1000 := by omega
        clear lc lc4 b6 b6' f6' hw5 S5 U5 hm7 hm7' hrd7 hnm HDR HP5
        go_wp2_with fail
        go_loopw [8, 9] (fun y z wr => ∃ q : Nat, q ≤ nm ∧ z = .int .i64 q ∧ GmS w5 wr y (dropM x (X4.M.take q))) (fun _ z _ => nm - (intOf z).toNat)
        case atStart => exact ⟨0, Nat.zero_le _, rfl, OwK.nil _ _, Below.refl _ _⟩
        case round =>
          obtain ⟨q, hq, rfl, hGG⟩ := hrel
          have HGG := Lib.hid hGG
          have b7 := HM7.out wr hGG.2
          have lc6 := (hGG.2.cell (p := ⟨g, j, none⟩) HG5.out.1).trans lc5
          have hq0 : (0 : Int) ≤ (q : Int) := by omega
          by_cases hltq : q < nm
          · obtain ⟨v, hv⟩ : ∃ v, X4.M[q]? = some v := ⟨_, List.getElem?_eq_getElem (by rw [← HNM.out]; exact hltq)⟩
            obtain ⟨b, o, rfl, hb2⟩ := HE7.out wr hGG.2 q v hv
            have r0 := hb2 0 _ rfl
            have r1 := hb2 1 _ rfl
            have r2 := hb2 2 _ rfl
            simp only [Nat.add_zero] at r0
            have hsn := dropM_snoc (x := x) hv
            clear hb2 hGG hv
            have hq1 : (q : Int) < (nm : Int) := by omega
            by_cases hvi : v.win = x
            · have h2 : (v.win != x) = false := by simpa using hvi
              have HSN := Lib.hid (hsn.trans (if_pos hvi))
              clear hsn hvi
              go_upto_region 13 with fail
              go_quiet (fail)
              go_wp2_with fail
              go_roundw
              case rel => exact ⟨q + 1, by omega, by go_num, by rw [HSN.out]; exact HGG.out.next (below_drewN (Below.refl _ _) _)⟩
              case measure => simp [intOf]; omega
            · have h2 : (v.win != x) = true := by simpa using hvi
              have HSN := Lib.hid (hsn.trans (if_neg hvi))
              clear hsn hvi
              obtain ⟨i0, hi0, hz0, hz1, hz2⟩ := info_parts madInfo
              go_upto_region 13 with fail
              go_quiet (fail)
              go_wp2_with (at_builtin; refine wpList_append_own_at _ rfl (.tmp 80) (.tmp 88) 56 rfl w5.heap.size 99 i0 (.agg #[.int .i64 0, .int .i64 0, .bool false]) 3 24 Tryz.underlying56 hi0 hz0 hz1 hz2 rfl (by decide) _ _ _ rfl (World.ownsRow.alloc (own_next HGG.out.1 (below_drewN (Below.refl _ wr) nq)) _) ⟨_, 0, none⟩ 1 1 (encM v) rfl rfl (cell_list_at _ _ (encM v) _ rfl) (one_encM v) (by unfold maxLen; have := HLL.out q; have := HNM.out; omega) (by have := HLL.out q; have := HNM.out; omega) (by have := HGG.out.2.size; simp; omega) ?_; intro v3 w3 ho3 hg3 _ _; have HP := Lib.hid (GmS.put (HGG.out.next (below_drewN (Below.refl _ wr) nq)) ho3 hg3); clear ho3 hg3)
              go_roundw
              case rel => exact ⟨q + 1, by omega, by go_num, by rw [HSN.out]; exact HP.out⟩
              case measure => simp [intOf]; omega
          · obtain rfl : q = nm := by omega
            rw [HNM.out, List.take_length] at hGG
            obtain ⟨p8, c8, hy⟩ := hGG.1.slice
            subst hy
            have f7 := (HS5.out.next hGG.2).blk.frozen 7
            have HP8 := Lib.hid (HS5.out.putM hGG.2 (OwK.less hGG.1 (Nat.zero_le _)))
            clear hGG
            go_wp2_with fail
            go_roundw
            case rel => exact ⟨j + 1, by omega, by go_num, HT.out _ (by rw [HX4.out]; exact RefTo.trans HU5.out HP8.out)⟩
            case measure => simp [intOf]; omega
    · obtain rfl : j = n := by omega
      obtain ⟨Z1, S1, U1, -⟩ := hD
      rw [HN.out, List.take_length, HFIN.out] at S1
      have HQ9 := Lib.hid (show RefTo w r Z (X.destroy i) wo from ⟨Z1, S1, U1⟩)
      clear S1 U1
      go_wp2_with fail
      go_end0
      exact ⟨rfl, HQ9.out⟩
 · have hfin : X.destroy i = X := by unfold Xs.destroy; rw [if_pos hask]
   obtain ⟨er, her⟩ : ∃ er, er = (tDestroy X.R i X.L).2.2 := ⟨_, rfl⟩
   have he' : (er != 0) = true := by
    have h1 : er = askL X.L i := by rw [her]; unfold tDestroy; rw [if_pos hask]
    rw [h1]; simpa using hask
   rw [← her] at HC
   have HQ := Lib.hid (fun W (hW : Below w.heap.size w W) => (show RefTo w r Z (X.destroy i) W from by rw [hfin]; exact RefTo.same HR.out hW))
   clear k1 k2 k3 h hV hi hask her hlv hfin
   go_enter Tryz.func60, Tryz.ntmps60
   go_wp2_with (go_at_call 87; ((with_reducible refine (HC.out).mono ?_); rintro ex w1 ⟨sv, gv, rfl, ho, hr, hb⟩); have HB := Lib.hid hb; obtain ⟨p5, c5, hsv⟩ := ho.slice; subst hsv; obtain ⟨p, c, hgv⟩ := rdI_own hr.1; subst hgv; clear ho hr hb)
   (try simp only [Exit.inBlock, Exit.then]); refine bodyPost_ret (results_none rfl _ _ _) rfl ?_
   exact ⟨rfl, HQ.out _ (HB.out.alloc HB.out.size _)⟩
end
end Go.Proofs.YtnhchpiafchdgaaGreat
