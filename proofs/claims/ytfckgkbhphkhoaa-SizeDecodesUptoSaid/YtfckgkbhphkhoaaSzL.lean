/- Good and Fit in the code. -/
import Derived.Test.YtfckgkbhphkhoaaSzK
import Derived.Deep.RegionLaw
namespace Go.Proofs.Ytfckgkbhphkhoaa
open Go.RowKit
namespace Sz
attribute [local go_sem ↓] eql_hints
theorem has_iff (s : Sd) (h : s.Ok) (n : Int) (w : World) : Calls Try.prog 36 #[.agg #[.int .i64 s.l, .int .i64 s.m, .int .i64 s.b, .int .i64 s.i], .int .i64 n] w fun e w' => e = .returned (.bool (hasB s n)) ∧ Below w.heap.size w w' := has_c s h n w
theorem fit_near {n : Hn} (hb : Bd n) {a : Int} (k : WG n a) (a1 : 0 ≤ a) (a2 : a ≤ 65535) (t : Int) : Near (Gd n a) t (nearV (heightsS n a) t) := by
  have ok := heights_ok hb a1 a2
  have hw := (wg_iff hb a).1 k
  exact (near_side _ ok.i1 ok.b2 t hw.2).congr (fun z => ⟨fun h => (gd_iff hb a z).2 ⟨widths_wide hw.1, h⟩, fun h => ((gd_iff hb a z).1 h).2⟩)
theorem fw_near {n : Hn} {sx a : Int} {ok : Bool} (hs : Some n) (h : FwP n sx a ok) : Near (WG n) sx a := by
  rcases h with ⟨-, h⟩ | ⟨-, h⟩
  · exact h
  · obtain ⟨z, hz⟩ := hs
    exact absurd hz (h z)
theorem wg_b {n : Hn} (hb : Bd n) {a : Int} (k : WG n a) : 1 ≤ a ∧ a ≤ 65535 := widths_b hb (wg_w hb k)
set_option maxHeartbeats 2000000 in
theorem fit_c (h : Hn) (x t : Int) (w : World) : Calls Try.prog 16 #[.agg #[.int .i64 h.minW, .int .i64 h.minH, .int .i64 h.maxW, .int .i64 h.maxH, .int .i64 h.baseW, .int .i64 h.baseH, .int .i64 h.incW, .int .i64 h.incH, .int .i64 h.lowX, .int .i64 h.lowY, .int .i64 h.highX, .int .i64 h.highY], .int .i64 x, .int .i64 t] w fun e w' => ∃ n a b, e = .returned (.tuple #[.int .i64 a, .int .i64 b]) ∧ NormP h n ∧ FitP n x t a b ∧ Below w.heap.size w w' := by
  have A0 := HB.new w h
  have W0 : Below w.heap.size w (w.alloc (.cells (#[.int .i64 h.minW, .int .i64 h.minH, .int .i64 h.maxW, .int .i64 h.maxH, .int .i64 h.baseW, .int .i64 h.baseH, .int .i64 h.incW, .int .i64 h.incH, .int .i64 h.lowX, .int .i64 h.lowY, .int .i64 h.highX, .int .i64 h.highY]) 23)) := by repeat' (first | (with_reducible exact Below.refl _ _) | (with_reducible assumption) | (with_reducible refine Below.alloc ?_ ?_ _) | (with_reducible refine Below.drew ?_) | (with_reducible refine Below.setCell ?_ ?_ _) | (with_reducible refine Below.on (by with_reducible assumption) ?_ ?_) | go_size)
  have HX := Lib.hid (fun W : World => span_c x 0 65535 W)
  have HT := Lib.hid (fun W : World => span_c t 0 65535 W)
  have hx1 := spanI_le x 0 65535
  have hx2 := spanI_ge x 0 65535 (by omega)
  have ht1 := spanI_le t 0 65535
  have ht2 := spanI_ge t 0 65535 (by omega)
  obtain ⟨sx, hsx⟩ : ∃ v, spanI x 0 65535 = v := ⟨_, rfl⟩
  obtain ⟨st, hst⟩ : ∃ v, spanI t 0 65535 = v := ⟨_, rfl⟩
  have HFP := Lib.hid (fun (n : Hn) (a b : Int) (p : Near (WG n) (spanI x 0 65535) a) (q : Near (Gd n a) (spanI t 0 65535) b) => (show FitP n x t a b from ⟨p, q⟩))
  rw [hsx] at HX HFP hx1 hx2
  rw [hst] at HT HFP ht1 ht2
  clear hsx hst
  go_enter Try.func16, Try.ntmps16
  go_upto_region 2 with (go_at_call 13; ((with_reducible refine (normal_c h _).mono ?_); rintro e w1 ⟨n, rfl, hN, hb1⟩); have A1 := A0.next hb1; have W1 := bnext W0 hb1 W0.size; obtain ⟨⟨k0, k1, k2, k3, k4, k5, k6, k7, k8, k9, k10, k11⟩, ⟨kf0, kf1, kf2, kf3, kf4, kf5, kf6, kf7, kf8, kf9, kf10, kf11⟩⟩ := A1.out)
  have HNP := Lib.hid hN
  have hbd := hN.right.1
  have A2 := A1.put12 n
  have W2 := below_set12 W1 (Nat.le_refl _) n
  clear k0 k1 k2 k3 k4 k5 k6 k7 k8 k9 k10 k11 kf0 kf1 kf2 kf3 kf4 kf5 kf6 kf7 kf8 kf9 kf10 kf11 A1 W1 A0 W0 hb1 hN
  generalize (World.setCell (World.setCell (World.setCell (World.setCell (World.setCell (World.setCell (World.setCell (World.setCell (World.setCell (World.setCell (World.setCell (World.setCell w1 ⟨w.heap.size, 0, none⟩ (.int .i64 n.minW)) ⟨w.heap.size, 1, none⟩ (.int .i64 n.minH)) ⟨w.heap.size, 2, none⟩ (.int .i64 n.maxW)) ⟨w.heap.size, 3, none⟩ (.int .i64 n.maxH)) ⟨w.heap.size, 4, none⟩ (.int .i64 n.baseW)) ⟨w.heap.size, 5, none⟩ (.int .i64 n.baseH)) ⟨w.heap.size, 6, none⟩ (.int .i64 n.incW)) ⟨w.heap.size, 7, none⟩ (.int .i64 n.incH)) ⟨w.heap.size, 8, none⟩ (.int .i64 n.lowX)) ⟨w.heap.size, 9, none⟩ (.int .i64 n.lowY)) ⟨w.heap.size, 10, none⟩ (.int .i64 n.highX)) ⟨w.heap.size, 11, none⟩ (.int .i64 n.highY)) = w2 at *
  clear w1
  obtain ⟨⟨k0, k1, k2, k3, k4, k5, k6, k7, k8, k9, k10, k11⟩, ⟨kf0, kf1, kf2, kf3, kf4, kf5, kf6, kf7, kf8, kf9, kf10, kf11⟩⟩ := A2.out
  have HW := Lib.hid (fun W : World => fitWidth_c n hbd sx hx1 hx2 W)
  go_region_law (go_simp; first | (go_at_call 32; ((with_reducible refine (HX.out _).mono ?_); rintro e w3 ⟨rfl, rfl⟩)) | (go_at_call 31; ((with_reducible refine (HW.out _).mono ?_); rintro e w3 ⟨a, ok, rfl, hP, hb3⟩)))
  all_goals
    have A3 := (HB.drew A2).next hb3
    have W3 := bnext (Below.drew W2) hb3 (Below.drew W2).size
    have hN3 := fw_near HNP.out.right.2 hP
    have ha := wg_b hbd hN3.1
    have okh := heights_ok hbd (by omega : 0 ≤ a) ha.2
    have HH := Lib.hid (fun W : World => heights_c n hbd a (by omega) ha.2 W)
    have HNr := Lib.hid (fun W : World => near_c (heightsS n a) okh st ht1 ht2 W)
    have HF := Lib.hid (HFP.out n a _ hN3 (fit_near hbd hN3.1 (by omega) ha.2 st))
    obtain ⟨q, hq⟩ : ∃ q, heightsS n a = q := ⟨_, rfl⟩
    rw [hq] at HH HNr HF
    clear hq okh hN3 hP A2 W2 hb3 k0 k1 k2 k3 k4 k5 k6 k7 k8 k9 k10 k11 kf0 kf1 kf2 kf3 kf4 kf5 kf6 kf7 kf8 kf9 kf10 kf11
    obtain ⟨⟨k0, k1, k2, k3, k4, k5, k6, k7, k8, k9, k10, k11⟩, ⟨kf0, kf1, kf2, kf3, kf4, kf5, kf6, kf7, kf8, kf9, kf10, kf11⟩⟩ := A3.out
    go_wp2_with first
      | (go_at_call 33; ((with_reducible refine (HH.out _).mono ?_); rintro e w4 ⟨rfl, hb4⟩); have W4 := bnext W3 hb4 W3.size)
      | (go_at_call 32; ((with_reducible refine (HT.out _).mono ?_); rintro e w5 ⟨rfl, rfl⟩); skip)
      | (go_at_call 34; ((with_reducible refine (HNr.out _).mono ?_); rintro e w6 ⟨rfl, hb6⟩); have W6 := bnext W4 hb6 W4.size)
    go_ret2
    exact ⟨n, a, _, rfl, HNP.out, HF.out, W6⟩
def goodB (h : Hn) (x t : Int) : Bool := eqB h (bounded h) && hasB (widthsS h) x && hasB (heightsS h x) t
theorem goodB_iff (h : Hn) (x t : Int) : goodB h x t = true ↔ h = bounded h ∧ Gd h x t := by
  unfold goodB
  rw [Bool.and_eq_true, Bool.and_eq_true, eqB_iff, hasB_iff, hasB_iff]
  constructor
  · rintro ⟨⟨h1, h2⟩, h3⟩; exact ⟨h1, (gd_has ((bounded_iff h).1 h1) x t).2 ⟨h2, h3⟩⟩
  · rintro ⟨h1, h2⟩
    have := (gd_has ((bounded_iff h).1 h1) x t).1 h2
    exact ⟨⟨h1, this.1⟩, this.2⟩
set_option maxHeartbeats 4000000 in
theorem good_c (h : Hn) (x t : Int) (w : World) : Calls Try.prog 18 #[.agg #[.int .i64 h.minW, .int .i64 h.minH, .int .i64 h.maxW, .int .i64 h.maxH, .int .i64 h.baseW, .int .i64 h.baseH, .int .i64 h.incW, .int .i64 h.incH, .int .i64 h.lowX, .int .i64 h.lowY, .int .i64 h.highX, .int .i64 h.highY], .int .i64 x, .int .i64 t] w fun e w' => e = .returned (.bool (goodB h x t)) ∧ Below w.heap.size w w' := by
  have HA := Lib.hid (HB.drew (HB.new w h))
  have W0 : Below w.heap.size w (w.alloc (.cells (#[.int .i64 h.minW, .int .i64 h.minH, .int .i64 h.maxW, .int .i64 h.maxH, .int .i64 h.baseW, .int .i64 h.baseH, .int .i64 h.incW, .int .i64 h.incH, .int .i64 h.lowX, .int .i64 h.lowY, .int .i64 h.highX, .int .i64 h.highY]) 23)) := by repeat' (first | (with_reducible exact Below.refl _ _) | (with_reducible assumption) | (with_reducible refine Below.alloc ?_ ?_ _) | (with_reducible refine Below.drew ?_) | (with_reducible refine Below.setCell ?_ ?_ _) | (with_reducible refine Below.on (by with_reducible assumption) ?_ ?_) | go_size)
  have HW0 := Lib.hid (Below.drew W0)
  have HBo := Lib.hid (fun W : World => bounded_c h W)
  clear W0
  have HG := Lib.hid (show goodB h x t = (eqB h (bounded h) && hasB (widthsS h) x && hasB (heightsS h x) t) from rfl)
  have hbi := bounded_iff h
  cases he : eqB h (bounded h)
  · have E : goodB h x t = false := by rw [HG.out, he]; rfl
    rw [E]
    obtain ⟨k, hk⟩ : ∃ k, bounded h = k := ⟨_, rfl⟩
    rw [hk] at HBo he
    clear hk hbi E HG
    go_enter Try.func18, Try.ntmps18
    go_upto_region 1 with fail
    refine wp_region_noPanic ?_
    refine wp_region_held_drew (S := fun wx => wx.cell? ⟨w.heap.size, 0, none⟩ = some (.int .i64 h.minW) ∧ wx.cell? ⟨w.heap.size, 1, none⟩ = some (.int .i64 h.minH) ∧ wx.cell? ⟨w.heap.size, 2, none⟩ = some (.int .i64 h.maxW) ∧ wx.cell? ⟨w.heap.size, 3, none⟩ = some (.int .i64 h.maxH) ∧ wx.cell? ⟨w.heap.size, 4, none⟩ = some (.int .i64 h.baseW) ∧ wx.cell? ⟨w.heap.size, 5, none⟩ = some (.int .i64 h.baseH) ∧ wx.cell? ⟨w.heap.size, 6, none⟩ = some (.int .i64 h.incW) ∧ wx.cell? ⟨w.heap.size, 7, none⟩ = some (.int .i64 h.incH) ∧ wx.cell? ⟨w.heap.size, 8, none⟩ = some (.int .i64 h.lowX) ∧ wx.cell? ⟨w.heap.size, 9, none⟩ = some (.int .i64 h.lowY) ∧ wx.cell? ⟨w.heap.size, 10, none⟩ = some (.int .i64 h.highX) ∧ wx.cell? ⟨w.heap.size, 11, none⟩ = some (.int .i64 h.highY)) (by kernel_rfl) (by exact HA.out.out.1) (fun hHeld => ?_)
    refine wpAnyH_take (i := 0) (v := ?va0) rfl (by kernel_rfl) (by kernel_rfl) (by kernel_rfl) (fun _ _ _ h => h) (Or.inl ⟨by kernel_rfl, ?ya0⟩) (by assumption) ?ra0
    case ya0 => (intro wq hSw; (try dsimp only at hSw); go_simp; (try with_reducible rfl))
    (try simp only [Act.put, List.getElem_toArray, List.getElem_cons_zero, List.setIfInBounds_toArray, List.set_cons_zero, List.set_cons_succ])
    refine wpAnyH_take (i := 1) (v := ?va1) rfl (by kernel_rfl) (by kernel_rfl) (by kernel_rfl) (fun _ _ _ h => h) (Or.inl ⟨by kernel_rfl, ?ya1⟩) (by assumption) ?ra1
    case ya1 => (intro wq hSw; (try dsimp only at hSw); go_simp; (try with_reducible rfl))
    (try simp only [Act.put, List.getElem_toArray, List.getElem_cons_succ, List.getElem_cons_zero, List.setIfInBounds_toArray, List.set_cons_zero, List.set_cons_succ])
    refine wpAnyH_ready (rs := [2]) (by kernel_rfl) (by simp) ?_
    refine AllReadyH.cons rfl (fun K hK => ?_) AllReadyH.nil
    go_simp
    refine (HBo.out _).mono ?_
    rintro ex w2 ⟨rfl, hb2⟩; have A2 := HA.out.next hb2; have W2 := bnext HW0.out hb2 HW0.out.size; have HA2 := Lib.hid A2; have HW2 := Lib.hid W2; clear A2 W2 hb2
    (try dsimp only)
    refine hK.out _ _ (by exact HA2.out.out.1) (fun hHeld => ?_)
    clear hK K
    (try simp only [Act.put, List.getElem_toArray, List.getElem_cons_succ, List.getElem_cons_zero, List.setIfInBounds_toArray, List.set_cons_zero, List.set_cons_succ])
    refine wpAnyH_take (i := 3) (v := ?va3) rfl (by kernel_rfl) (by kernel_rfl) (by kernel_rfl) (fun _ _ _ h => h) (Or.inl ⟨by kernel_rfl, ?ya3⟩) (by assumption) ?ra3
    case ya3 => (intro wq hSw; (try dsimp only at hSw); go_simp; (try with_reducible rfl))
    (try simp only [Act.put, List.getElem_toArray, List.getElem_cons_succ, List.getElem_cons_zero, List.setIfInBounds_toArray, List.set_cons_zero, List.set_cons_succ])
    refine wpAnyH_take (i := 4) (v := ?va4) rfl (by kernel_rfl) (by kernel_rfl) (by kernel_rfl) (fun _ _ _ h => h) (Or.inl ⟨by kernel_rfl, ?ya4⟩) (by assumption) ?ra4
    case ya4 => (intro wq hSw; (try dsimp only at hSw); go_simp; (try with_reducible rfl))
    (try simp only [Act.put, List.getElem_toArray, List.getElem_cons_succ, List.getElem_cons_zero, List.setIfInBounds_toArray, List.set_cons_zero, List.set_cons_succ])
    refine wpAnyH_take (i := 5) (v := undef) rfl (by kernel_rfl) (by kernel_rfl) (by kernel_rfl) (fun _ _ _ h => h) (Or.inr ⟨by kernel_rfl, rfl⟩) (by assumption) ?_
    (try simp only [Act.put, List.getElem_toArray, List.getElem_cons_succ, List.getElem_cons_zero, List.setIfInBounds_toArray, List.set_cons_zero, List.set_cons_succ])
    refine wpAnyH_take (i := 6) (v := undef) rfl (by kernel_rfl) (by kernel_rfl) (by kernel_rfl) (fun _ _ _ h => h) (Or.inr ⟨by kernel_rfl, rfl⟩) (by assumption) ?_
    (try simp only [Act.put, List.getElem_toArray, List.getElem_cons_succ, List.getElem_cons_zero, List.setIfInBounds_toArray, List.set_cons_zero, List.set_cons_succ])
    refine wpAnyH_take (i := 7) (v := undef) rfl (by kernel_rfl) (by kernel_rfl) (by kernel_rfl) (fun _ _ _ h => h) (Or.inr ⟨by kernel_rfl, rfl⟩) (by assumption) ?_
    (try simp only [Act.put, List.getElem_toArray, List.getElem_cons_succ, List.getElem_cons_zero, List.setIfInBounds_toArray, List.set_cons_zero, List.set_cons_succ])
    refine wpAnyH_take (i := 8) (v := undef) rfl (by kernel_rfl) (by kernel_rfl) (by kernel_rfl) (fun _ _ _ h => h) (Or.inr ⟨by kernel_rfl, rfl⟩) (by assumption) ?_
    (try simp only [Act.put, List.getElem_toArray, List.getElem_cons_succ, List.getElem_cons_zero, List.setIfInBounds_toArray, List.set_cons_zero, List.set_cons_succ])
    refine wpAnyH_take (i := 9) (v := ?va9) rfl (by kernel_rfl) (by kernel_rfl) (by kernel_rfl) (fun _ _ _ h => h) (Or.inl ⟨by kernel_rfl, ?ya9⟩) (by assumption) ?ra9
    case ya9 => (intro wq hSw; (try dsimp only at hSw); go_simp; (try with_reducible rfl))
    (try simp only [Act.put, List.getElem_toArray, List.getElem_cons_succ, List.getElem_cons_zero, List.setIfInBounds_toArray, List.set_cons_zero, List.set_cons_succ])
    refine wpAnyH_take (i := 10) (v := ?va10) rfl (by kernel_rfl) (by kernel_rfl) (by kernel_rfl) (fun _ _ _ h => h) (Or.inl ⟨by kernel_rfl, ?ya10⟩) (by assumption) ?ra10
    case ya10 => (intro wq hSw; (try dsimp only at hSw); go_simp; (try with_reducible rfl))
    (try simp only [Act.put, List.getElem_toArray, List.getElem_cons_succ, List.getElem_cons_zero, List.setIfInBounds_toArray, List.set_cons_zero, List.set_cons_succ])
    refine wpAnyH_take (i := 11) (v := undef) rfl (by kernel_rfl) (by kernel_rfl) (by kernel_rfl) (fun _ _ _ h => h) (Or.inr ⟨by kernel_rfl, rfl⟩) (by assumption) ?_
    (try simp only [Act.put, List.getElem_toArray, List.getElem_cons_succ, List.getElem_cons_zero, List.setIfInBounds_toArray, List.set_cons_zero, List.set_cons_succ])
    refine wpAnyH_take (i := 12) (v := undef) rfl (by kernel_rfl) (by kernel_rfl) (by kernel_rfl) (fun _ _ _ h => h) (Or.inr ⟨by kernel_rfl, rfl⟩) (by assumption) ?_
    (try simp only [Act.put, List.getElem_toArray, List.getElem_cons_succ, List.getElem_cons_zero, List.setIfInBounds_toArray, List.set_cons_zero, List.set_cons_succ])
    refine wpAnyH_take (i := 13) (v := undef) rfl (by kernel_rfl) (by kernel_rfl) (by kernel_rfl) (fun _ _ _ h => h) (Or.inr ⟨by kernel_rfl, rfl⟩) (by assumption) ?_
    (try simp only [Act.put, List.getElem_toArray, List.getElem_cons_succ, List.getElem_cons_zero, List.setIfInBounds_toArray, List.set_cons_zero, List.set_cons_succ])
    refine wpAnyH_take (i := 14) (v := undef) rfl (by kernel_rfl) (by kernel_rfl) (by kernel_rfl) (fun _ _ _ h => h) (Or.inr ⟨by kernel_rfl, rfl⟩) (by assumption) ?_
    (try simp only [Act.put, List.getElem_toArray, List.getElem_cons_succ, List.getElem_cons_zero, List.setIfInBounds_toArray, List.set_cons_zero, List.set_cons_succ])
    refine wpAnyH_take (i := 15) (v := undef) rfl (by kernel_rfl) (by kernel_rfl) (by kernel_rfl) (fun _ _ _ h => h) (Or.inr ⟨by kernel_rfl, rfl⟩) (by assumption) ?_
    (try simp only [Act.put, List.getElem_toArray, List.getElem_cons_succ, List.getElem_cons_zero, List.setIfInBounds_toArray, List.set_cons_zero, List.set_cons_succ])
    refine wpAnyH_take (i := 16) (v := ?va16) rfl (by kernel_rfl) (by kernel_rfl) (by kernel_rfl) (fun _ _ _ h => h) (Or.inl ⟨by kernel_rfl, ?ya16⟩) (by assumption) ?ra16
    case ya16 => (intro wq hSw; (try dsimp only at hSw); go_simp; (try with_reducible rfl))
    (try simp only [Act.put, List.getElem_toArray, List.getElem_cons_succ, List.getElem_cons_zero, List.setIfInBounds_toArray, List.set_cons_zero, List.set_cons_succ])
    refine wpAnyH_take (i := 17) (v := ?va17) rfl (by kernel_rfl) (by kernel_rfl) (by kernel_rfl) (fun _ _ _ h => h) (Or.inl ⟨by kernel_rfl, ?ya17⟩) (by assumption) ?ra17
    case ya17 => (intro wq hSw; (try dsimp only at hSw); go_simp; (try with_reducible rfl))
    (try simp only [Act.put, List.getElem_toArray, List.getElem_cons_succ, List.getElem_cons_zero, List.setIfInBounds_toArray, List.set_cons_zero, List.set_cons_succ])
    refine wpAnyH_done (by kernel_rfl) ?_ _
    refine NoPanic.normal ?_
    go_wp2_with fail
    go_ret
    exact ⟨rfl, HW2.out⟩
  · have hb : Bd h := hbi.1 ((eqB_iff _ _).1 he)
    have HWi := Lib.hid (fun W : World => widths_c h hb W)
    have HHa := Lib.hid (fun W : World => has_c (widthsS h) (widths_ok hb) x W)
    cases hx : hasB (widthsS h) x
    · have E : goodB h x t = false := by rw [HG.out, he, hx]; rfl
      rw [E]
      rw [hx] at HHa
      obtain ⟨k, hk⟩ : ∃ k, bounded h = k := ⟨_, rfl⟩
      rw [hk] at HBo he
      obtain ⟨s, hs⟩ : ∃ s, widthsS h = s := ⟨_, rfl⟩
      rw [hs] at HWi HHa
      clear hk hbi E HG hb hs hx
      go_enter Try.func18, Try.ntmps18
      go_upto_region 1 with fail
      refine wp_region_noPanic ?_
      refine wp_region_held_drew (S := fun wx => wx.cell? ⟨w.heap.size, 0, none⟩ = some (.int .i64 h.minW) ∧ wx.cell? ⟨w.heap.size, 1, none⟩ = some (.int .i64 h.minH) ∧ wx.cell? ⟨w.heap.size, 2, none⟩ = some (.int .i64 h.maxW) ∧ wx.cell? ⟨w.heap.size, 3, none⟩ = some (.int .i64 h.maxH) ∧ wx.cell? ⟨w.heap.size, 4, none⟩ = some (.int .i64 h.baseW) ∧ wx.cell? ⟨w.heap.size, 5, none⟩ = some (.int .i64 h.baseH) ∧ wx.cell? ⟨w.heap.size, 6, none⟩ = some (.int .i64 h.incW) ∧ wx.cell? ⟨w.heap.size, 7, none⟩ = some (.int .i64 h.incH) ∧ wx.cell? ⟨w.heap.size, 8, none⟩ = some (.int .i64 h.lowX) ∧ wx.cell? ⟨w.heap.size, 9, none⟩ = some (.int .i64 h.lowY) ∧ wx.cell? ⟨w.heap.size, 10, none⟩ = some (.int .i64 h.highX) ∧ wx.cell? ⟨w.heap.size, 11, none⟩ = some (.int .i64 h.highY)) (by kernel_rfl) (by exact HA.out.out.1) (fun hHeld => ?_)
      refine wpAnyH_take (i := 0) (v := ?vb0) rfl (by kernel_rfl) (by kernel_rfl) (by kernel_rfl) (fun _ _ _ h => h) (Or.inl ⟨by kernel_rfl, ?yb0⟩) (by assumption) ?rb0
      case yb0 => (intro wq hSw; (try dsimp only at hSw); go_simp; (try with_reducible rfl))
      (try simp only [Act.put, List.getElem_toArray, List.getElem_cons_zero, List.setIfInBounds_toArray, List.set_cons_zero, List.set_cons_succ])
      refine wpAnyH_take (i := 1) (v := ?vb1) rfl (by kernel_rfl) (by kernel_rfl) (by kernel_rfl) (fun _ _ _ h => h) (Or.inl ⟨by kernel_rfl, ?yb1⟩) (by assumption) ?rb1
      case yb1 => (intro wq hSw; (try dsimp only at hSw); go_simp; (try with_reducible rfl))
      (try simp only [Act.put, List.getElem_toArray, List.getElem_cons_succ, List.getElem_cons_zero, List.setIfInBounds_toArray, List.set_cons_zero, List.set_cons_succ])
      refine wpAnyH_ready (rs := [2]) (by kernel_rfl) (by simp) ?_
      refine AllReadyH.cons rfl (fun K hK => ?_) AllReadyH.nil
      go_simp
      refine (HBo.out _).mono ?_
      rintro ex w2 ⟨rfl, hb2⟩; have A2 := HA.out.next hb2; have W2 := bnext HW0.out hb2 HW0.out.size; have HA2 := Lib.hid A2; have HW2 := Lib.hid W2; clear A2 W2 hb2
      (try dsimp only)
      refine hK.out _ _ (by exact HA2.out.out.1) (fun hHeld => ?_)
      clear hK K
      (try simp only [Act.put, List.getElem_toArray, List.getElem_cons_succ, List.getElem_cons_zero, List.setIfInBounds_toArray, List.set_cons_zero, List.set_cons_succ])
      refine wpAnyH_take (i := 3) (v := ?vb3) rfl (by kernel_rfl) (by kernel_rfl) (by kernel_rfl) (fun _ _ _ h => h) (Or.inl ⟨by kernel_rfl, ?yb3⟩) (by assumption) ?rb3
      case yb3 => (intro wq hSw; (try dsimp only at hSw); go_simp; (try with_reducible rfl))
      (try simp only [Act.put, List.getElem_toArray, List.getElem_cons_succ, List.getElem_cons_zero, List.setIfInBounds_toArray, List.set_cons_zero, List.set_cons_succ])
      refine wpAnyH_take (i := 4) (v := ?vb4) rfl (by kernel_rfl) (by kernel_rfl) (by kernel_rfl) (fun _ _ _ h => h) (Or.inl ⟨by kernel_rfl, ?yb4⟩) (by assumption) ?rb4
      case yb4 => (intro wq hSw; (try dsimp only at hSw); go_simp; (try with_reducible rfl))
      (try simp only [Act.put, List.getElem_toArray, List.getElem_cons_succ, List.getElem_cons_zero, List.setIfInBounds_toArray, List.set_cons_zero, List.set_cons_succ])
      refine wpAnyH_take (i := 5) (v := ?vb5) rfl (by kernel_rfl) (by kernel_rfl) (by kernel_rfl) (fun _ _ _ h => h) (Or.inl ⟨by kernel_rfl, ?yb5⟩) (by assumption) ?rb5
      case yb5 => (intro wq hSw; (try dsimp only at hSw); go_simp; (try with_reducible rfl))
      (try simp only [Act.put, List.getElem_toArray, List.getElem_cons_succ, List.getElem_cons_zero, List.setIfInBounds_toArray, List.set_cons_zero, List.set_cons_succ])
      refine wpAnyH_take (i := 7) (v := ?vb7) rfl (by kernel_rfl) (by kernel_rfl) (by kernel_rfl) (fun _ _ _ h => h) (Or.inl ⟨by kernel_rfl, ?yb7⟩) (by assumption) ?rb7
      case yb7 => (intro wq hSw; (try dsimp only at hSw); go_simp; (try with_reducible rfl))
      (try simp only [Act.put, List.getElem_toArray, List.getElem_cons_succ, List.getElem_cons_zero, List.setIfInBounds_toArray, List.set_cons_zero, List.set_cons_succ])
      refine wpAnyH_ready (rs := [6]) (by kernel_rfl) (by simp) ?_
      refine AllReadyH.cons rfl (fun K hK => ?_) AllReadyH.nil
      go_simp
      refine (HWi.out _).mono ?_
      rintro ex w3 ⟨rfl, hb3⟩; have A3 := HA2.out.next hb3; have W3 := bnext HW2.out hb3 HW2.out.size; have HA3 := Lib.hid A3; have HW3 := Lib.hid W3; clear A3 W3 hb3
      (try dsimp only)
      refine hK.out _ _ (by exact HA3.out.out.1) (fun hHeld => ?_)
      clear hK K
      (try simp only [Act.put, List.getElem_toArray, List.getElem_cons_succ, List.getElem_cons_zero, List.setIfInBounds_toArray, List.set_cons_zero, List.set_cons_succ])
      refine wpAnyH_ready (rs := [8]) (by kernel_rfl) (by simp) ?_
      refine AllReadyH.cons rfl (fun K hK => ?_) AllReadyH.nil
      go_simp
      refine (HHa.out _).mono ?_
      rintro ex w4 ⟨rfl, hb4⟩; have A4 := HA3.out.next hb4; have W4 := bnext HW3.out hb4 HW3.out.size; have HA4 := Lib.hid A4; have HW4 := Lib.hid W4; clear A4 W4 hb4
      (try dsimp only)
      refine hK.out _ _ (by exact HA4.out.out.1) (fun hHeld => ?_)
      clear hK K
      (try simp only [Act.put, List.getElem_toArray, List.getElem_cons_succ, List.getElem_cons_zero, List.setIfInBounds_toArray, List.set_cons_zero, List.set_cons_succ])
      refine wpAnyH_take (i := 9) (v := ?vb9) rfl (by kernel_rfl) (by kernel_rfl) (by kernel_rfl) (fun _ _ _ h => h) (Or.inl ⟨by kernel_rfl, ?yb9⟩) (by assumption) ?rb9
      case yb9 => (intro wq hSw; (try dsimp only at hSw); go_simp; (try with_reducible rfl))
      (try simp only [Act.put, List.getElem_toArray, List.getElem_cons_succ, List.getElem_cons_zero, List.setIfInBounds_toArray, List.set_cons_zero, List.set_cons_succ])
      refine wpAnyH_take (i := 10) (v := ?vb10) rfl (by kernel_rfl) (by kernel_rfl) (by kernel_rfl) (fun _ _ _ h => h) (Or.inl ⟨by kernel_rfl, ?yb10⟩) (by assumption) ?rb10
      case yb10 => (intro wq hSw; (try dsimp only at hSw); go_simp; (try with_reducible rfl))
      (try simp only [Act.put, List.getElem_toArray, List.getElem_cons_succ, List.getElem_cons_zero, List.setIfInBounds_toArray, List.set_cons_zero, List.set_cons_succ])
      refine wpAnyH_take (i := 11) (v := undef) rfl (by kernel_rfl) (by kernel_rfl) (by kernel_rfl) (fun _ _ _ h => h) (Or.inr ⟨by kernel_rfl, rfl⟩) (by assumption) ?_
      (try simp only [Act.put, List.getElem_toArray, List.getElem_cons_succ, List.getElem_cons_zero, List.setIfInBounds_toArray, List.set_cons_zero, List.set_cons_succ])
      refine wpAnyH_take (i := 12) (v := undef) rfl (by kernel_rfl) (by kernel_rfl) (by kernel_rfl) (fun _ _ _ h => h) (Or.inr ⟨by kernel_rfl, rfl⟩) (by assumption) ?_
      (try simp only [Act.put, List.getElem_toArray, List.getElem_cons_succ, List.getElem_cons_zero, List.setIfInBounds_toArray, List.set_cons_zero, List.set_cons_succ])
      refine wpAnyH_take (i := 13) (v := undef) rfl (by kernel_rfl) (by kernel_rfl) (by kernel_rfl) (fun _ _ _ h => h) (Or.inr ⟨by kernel_rfl, rfl⟩) (by assumption) ?_
      (try simp only [Act.put, List.getElem_toArray, List.getElem_cons_succ, List.getElem_cons_zero, List.setIfInBounds_toArray, List.set_cons_zero, List.set_cons_succ])
      refine wpAnyH_take (i := 14) (v := undef) rfl (by kernel_rfl) (by kernel_rfl) (by kernel_rfl) (fun _ _ _ h => h) (Or.inr ⟨by kernel_rfl, rfl⟩) (by assumption) ?_
      (try simp only [Act.put, List.getElem_toArray, List.getElem_cons_succ, List.getElem_cons_zero, List.setIfInBounds_toArray, List.set_cons_zero, List.set_cons_succ])
      refine wpAnyH_take (i := 15) (v := undef) rfl (by kernel_rfl) (by kernel_rfl) (by kernel_rfl) (fun _ _ _ h => h) (Or.inr ⟨by kernel_rfl, rfl⟩) (by assumption) ?_
      (try simp only [Act.put, List.getElem_toArray, List.getElem_cons_succ, List.getElem_cons_zero, List.setIfInBounds_toArray, List.set_cons_zero, List.set_cons_succ])
      refine wpAnyH_take (i := 16) (v := ?vb16) rfl (by kernel_rfl) (by kernel_rfl) (by kernel_rfl) (fun _ _ _ h => h) (Or.inl ⟨by kernel_rfl, ?yb16⟩) (by assumption) ?rb16
      case yb16 => (intro wq hSw; (try dsimp only at hSw); go_simp; (try with_reducible rfl))
      (try simp only [Act.put, List.getElem_toArray, List.getElem_cons_succ, List.getElem_cons_zero, List.setIfInBounds_toArray, List.set_cons_zero, List.set_cons_succ])
      refine wpAnyH_take (i := 17) (v := ?vb17) rfl (by kernel_rfl) (by kernel_rfl) (by kernel_rfl) (fun _ _ _ h => h) (Or.inl ⟨by kernel_rfl, ?yb17⟩) (by assumption) ?rb17
      case yb17 => (intro wq hSw; (try dsimp only at hSw); go_simp; (try with_reducible rfl))
      (try simp only [Act.put, List.getElem_toArray, List.getElem_cons_succ, List.getElem_cons_zero, List.setIfInBounds_toArray, List.set_cons_zero, List.set_cons_succ])
      refine wpAnyH_done (by kernel_rfl) ?_ _
      refine NoPanic.normal ?_
      go_wp2_with fail
      go_ret
      exact ⟨rfl, HW4.out⟩
    · have hxb := widths_b hb ((hasB_iff _ _).1 hx)
      have HHe := Lib.hid (fun W : World => heights_c h hb x (by omega) hxb.2 W)
      have HHb := Lib.hid (fun W : World => has_c (heightsS h x) (heights_ok hb (by omega) hxb.2) t W)
      have E : goodB h x t = hasB (heightsS h x) t := by rw [HG.out, he, hx]; rfl
      rw [E]
      rw [hx] at HHa
      obtain ⟨k, hk⟩ : ∃ k, bounded h = k := ⟨_, rfl⟩
      rw [hk] at HBo he
      obtain ⟨s, hs⟩ : ∃ s, widthsS h = s := ⟨_, rfl⟩
      rw [hs] at HWi HHa
      obtain ⟨b, hbb⟩ : ∃ b, hasB (heightsS h x) t = b := ⟨_, rfl⟩
      rw [hbb] at HHb
      rw [hbb]
      obtain ⟨q, hq⟩ : ∃ q, heightsS h x = q := ⟨_, rfl⟩
      rw [hq] at HHe HHb
      clear hk hbi E HG hb hs hx hbb hq hxb
      go_enter Try.func18, Try.ntmps18
      go_upto_region 1 with fail
      refine wp_region_noPanic ?_
      refine wp_region_held_drew (S := fun wx => wx.cell? ⟨w.heap.size, 0, none⟩ = some (.int .i64 h.minW) ∧ wx.cell? ⟨w.heap.size, 1, none⟩ = some (.int .i64 h.minH) ∧ wx.cell? ⟨w.heap.size, 2, none⟩ = some (.int .i64 h.maxW) ∧ wx.cell? ⟨w.heap.size, 3, none⟩ = some (.int .i64 h.maxH) ∧ wx.cell? ⟨w.heap.size, 4, none⟩ = some (.int .i64 h.baseW) ∧ wx.cell? ⟨w.heap.size, 5, none⟩ = some (.int .i64 h.baseH) ∧ wx.cell? ⟨w.heap.size, 6, none⟩ = some (.int .i64 h.incW) ∧ wx.cell? ⟨w.heap.size, 7, none⟩ = some (.int .i64 h.incH) ∧ wx.cell? ⟨w.heap.size, 8, none⟩ = some (.int .i64 h.lowX) ∧ wx.cell? ⟨w.heap.size, 9, none⟩ = some (.int .i64 h.lowY) ∧ wx.cell? ⟨w.heap.size, 10, none⟩ = some (.int .i64 h.highX) ∧ wx.cell? ⟨w.heap.size, 11, none⟩ = some (.int .i64 h.highY)) (by kernel_rfl) (by exact HA.out.out.1) (fun hHeld => ?_)
      refine wpAnyH_take (i := 0) (v := ?vc0) rfl (by kernel_rfl) (by kernel_rfl) (by kernel_rfl) (fun _ _ _ h => h) (Or.inl ⟨by kernel_rfl, ?yc0⟩) (by assumption) ?rc0
      case yc0 => (intro wq hSw; (try dsimp only at hSw); go_simp; (try with_reducible rfl))
      (try simp only [Act.put, List.getElem_toArray, List.getElem_cons_zero, List.setIfInBounds_toArray, List.set_cons_zero, List.set_cons_succ])
      refine wpAnyH_take (i := 1) (v := ?vc1) rfl (by kernel_rfl) (by kernel_rfl) (by kernel_rfl) (fun _ _ _ h => h) (Or.inl ⟨by kernel_rfl, ?yc1⟩) (by assumption) ?rc1
      case yc1 => (intro wq hSw; (try dsimp only at hSw); go_simp; (try with_reducible rfl))
      (try simp only [Act.put, List.getElem_toArray, List.getElem_cons_succ, List.getElem_cons_zero, List.setIfInBounds_toArray, List.set_cons_zero, List.set_cons_succ])
      refine wpAnyH_ready (rs := [2]) (by kernel_rfl) (by simp) ?_
      refine AllReadyH.cons rfl (fun K hK => ?_) AllReadyH.nil
      go_simp
      refine (HBo.out _).mono ?_
      rintro ex w2 ⟨rfl, hb2⟩; have A2 := HA.out.next hb2; have W2 := bnext HW0.out hb2 HW0.out.size; have HA2 := Lib.hid A2; have HW2 := Lib.hid W2; clear A2 W2 hb2
      (try dsimp only)
      refine hK.out _ _ (by exact HA2.out.out.1) (fun hHeld => ?_)
      clear hK K
      (try simp only [Act.put, List.getElem_toArray, List.getElem_cons_succ, List.getElem_cons_zero, List.setIfInBounds_toArray, List.set_cons_zero, List.set_cons_succ])
      refine wpAnyH_take (i := 3) (v := ?vc3) rfl (by kernel_rfl) (by kernel_rfl) (by kernel_rfl) (fun _ _ _ h => h) (Or.inl ⟨by kernel_rfl, ?yc3⟩) (by assumption) ?rc3
      case yc3 => (intro wq hSw; (try dsimp only at hSw); go_simp; (try with_reducible rfl))
      (try simp only [Act.put, List.getElem_toArray, List.getElem_cons_succ, List.getElem_cons_zero, List.setIfInBounds_toArray, List.set_cons_zero, List.set_cons_succ])
      refine wpAnyH_take (i := 4) (v := ?vc4) rfl (by kernel_rfl) (by kernel_rfl) (by kernel_rfl) (fun _ _ _ h => h) (Or.inl ⟨by kernel_rfl, ?yc4⟩) (by assumption) ?rc4
      case yc4 => (intro wq hSw; (try dsimp only at hSw); go_simp; (try with_reducible rfl))
      (try simp only [Act.put, List.getElem_toArray, List.getElem_cons_succ, List.getElem_cons_zero, List.setIfInBounds_toArray, List.set_cons_zero, List.set_cons_succ])
      refine wpAnyH_take (i := 5) (v := ?vc5) rfl (by kernel_rfl) (by kernel_rfl) (by kernel_rfl) (fun _ _ _ h => h) (Or.inl ⟨by kernel_rfl, ?yc5⟩) (by assumption) ?rc5
      case yc5 => (intro wq hSw; (try dsimp only at hSw); go_simp; (try with_reducible rfl))
      (try simp only [Act.put, List.getElem_toArray, List.getElem_cons_succ, List.getElem_cons_zero, List.setIfInBounds_toArray, List.set_cons_zero, List.set_cons_succ])
      refine wpAnyH_take (i := 7) (v := ?vc7) rfl (by kernel_rfl) (by kernel_rfl) (by kernel_rfl) (fun _ _ _ h => h) (Or.inl ⟨by kernel_rfl, ?yc7⟩) (by assumption) ?rc7
      case yc7 => (intro wq hSw; (try dsimp only at hSw); go_simp; (try with_reducible rfl))
      (try simp only [Act.put, List.getElem_toArray, List.getElem_cons_succ, List.getElem_cons_zero, List.setIfInBounds_toArray, List.set_cons_zero, List.set_cons_succ])
      refine wpAnyH_ready (rs := [6]) (by kernel_rfl) (by simp) ?_
      refine AllReadyH.cons rfl (fun K hK => ?_) AllReadyH.nil
      go_simp
      refine (HWi.out _).mono ?_
      rintro ex w3 ⟨rfl, hb3⟩; have A3 := HA2.out.next hb3; have W3 := bnext HW2.out hb3 HW2.out.size; have HA3 := Lib.hid A3; have HW3 := Lib.hid W3; clear A3 W3 hb3
      (try dsimp only)
      refine hK.out _ _ (by exact HA3.out.out.1) (fun hHeld => ?_)
      clear hK K
      (try simp only [Act.put, List.getElem_toArray, List.getElem_cons_succ, List.getElem_cons_zero, List.setIfInBounds_toArray, List.set_cons_zero, List.set_cons_succ])
      refine wpAnyH_ready (rs := [8]) (by kernel_rfl) (by simp) ?_
      refine AllReadyH.cons rfl (fun K hK => ?_) AllReadyH.nil
      go_simp
      refine (HHa.out _).mono ?_
      rintro ex w4 ⟨rfl, hb4⟩; have A4 := HA3.out.next hb4; have W4 := bnext HW3.out hb4 HW3.out.size; have HA4 := Lib.hid A4; have HW4 := Lib.hid W4; clear A4 W4 hb4
      (try dsimp only)
      refine hK.out _ _ (by exact HA4.out.out.1) (fun hHeld => ?_)
      clear hK K
      (try simp only [Act.put, List.getElem_toArray, List.getElem_cons_succ, List.getElem_cons_zero, List.setIfInBounds_toArray, List.set_cons_zero, List.set_cons_succ])
      refine wpAnyH_take (i := 9) (v := ?vc9) rfl (by kernel_rfl) (by kernel_rfl) (by kernel_rfl) (fun _ _ _ h => h) (Or.inl ⟨by kernel_rfl, ?yc9⟩) (by assumption) ?rc9
      case yc9 => (intro wq hSw; (try dsimp only at hSw); go_simp; (try with_reducible rfl))
      (try simp only [Act.put, List.getElem_toArray, List.getElem_cons_succ, List.getElem_cons_zero, List.setIfInBounds_toArray, List.set_cons_zero, List.set_cons_succ])
      refine wpAnyH_take (i := 10) (v := ?vc10) rfl (by kernel_rfl) (by kernel_rfl) (by kernel_rfl) (fun _ _ _ h => h) (Or.inl ⟨by kernel_rfl, ?yc10⟩) (by assumption) ?rc10
      case yc10 => (intro wq hSw; (try dsimp only at hSw); go_simp; (try with_reducible rfl))
      (try simp only [Act.put, List.getElem_toArray, List.getElem_cons_succ, List.getElem_cons_zero, List.setIfInBounds_toArray, List.set_cons_zero, List.set_cons_succ])
      refine wpAnyH_take (i := 11) (v := ?vc11) rfl (by kernel_rfl) (by kernel_rfl) (by kernel_rfl) (fun _ _ _ h => h) (Or.inl ⟨by kernel_rfl, ?yc11⟩) (by assumption) ?rc11
      case yc11 => (intro wq hSw; (try dsimp only at hSw); go_simp; (try with_reducible rfl))
      (try simp only [Act.put, List.getElem_toArray, List.getElem_cons_succ, List.getElem_cons_zero, List.setIfInBounds_toArray, List.set_cons_zero, List.set_cons_succ])
      refine wpAnyH_take (i := 12) (v := ?vc12) rfl (by kernel_rfl) (by kernel_rfl) (by kernel_rfl) (fun _ _ _ h => h) (Or.inl ⟨by kernel_rfl, ?yc12⟩) (by assumption) ?rc12
      case yc12 => (intro wq hSw; (try dsimp only at hSw); go_simp; (try with_reducible rfl))
      (try simp only [Act.put, List.getElem_toArray, List.getElem_cons_succ, List.getElem_cons_zero, List.setIfInBounds_toArray, List.set_cons_zero, List.set_cons_succ])
      refine wpAnyH_take (i := 14) (v := ?vc14) rfl (by kernel_rfl) (by kernel_rfl) (by kernel_rfl) (fun _ _ _ h => h) (Or.inl ⟨by kernel_rfl, ?yc14⟩) (by assumption) ?rc14
      case yc14 => (intro wq hSw; (try dsimp only at hSw); go_simp; (try with_reducible rfl))
      (try simp only [Act.put, List.getElem_toArray, List.getElem_cons_succ, List.getElem_cons_zero, List.setIfInBounds_toArray, List.set_cons_zero, List.set_cons_succ])
      refine wpAnyH_ready (rs := [13]) (by kernel_rfl) (by simp) ?_
      refine AllReadyH.cons rfl (fun K hK => ?_) AllReadyH.nil
      go_simp
      refine (HHe.out _).mono ?_
      rintro ex w5 ⟨rfl, hb5⟩; have A5 := HA4.out.next hb5; have W5 := bnext HW4.out hb5 HW4.out.size; have HA5 := Lib.hid A5; have HW5 := Lib.hid W5; clear A5 W5 hb5
      (try dsimp only)
      refine hK.out _ _ (by exact HA5.out.out.1) (fun hHeld => ?_)
      clear hK K
      (try simp only [Act.put, List.getElem_toArray, List.getElem_cons_succ, List.getElem_cons_zero, List.setIfInBounds_toArray, List.set_cons_zero, List.set_cons_succ])
      refine wpAnyH_ready (rs := [15]) (by kernel_rfl) (by simp) ?_
      refine AllReadyH.cons rfl (fun K hK => ?_) AllReadyH.nil
      go_simp
      refine (HHb.out _).mono ?_
      rintro ex w6 ⟨rfl, hb6⟩; have A6 := HA5.out.next hb6; have W6 := bnext HW5.out hb6 HW5.out.size; have HA6 := Lib.hid A6; have HW6 := Lib.hid W6; clear A6 W6 hb6
      (try dsimp only)
      refine hK.out _ _ (by exact HA6.out.out.1) (fun hHeld => ?_)
      clear hK K
      (try simp only [Act.put, List.getElem_toArray, List.getElem_cons_succ, List.getElem_cons_zero, List.setIfInBounds_toArray, List.set_cons_zero, List.set_cons_succ])
      refine wpAnyH_take (i := 16) (v := ?vc16) rfl (by kernel_rfl) (by kernel_rfl) (by kernel_rfl) (fun _ _ _ h => h) (Or.inl ⟨by kernel_rfl, ?yc16⟩) (by assumption) ?rc16
      case yc16 => (intro wq hSw; (try dsimp only at hSw); go_simp; (try with_reducible rfl))
      (try simp only [Act.put, List.getElem_toArray, List.getElem_cons_succ, List.getElem_cons_zero, List.setIfInBounds_toArray, List.set_cons_zero, List.set_cons_succ])
      refine wpAnyH_take (i := 17) (v := ?vc17) rfl (by kernel_rfl) (by kernel_rfl) (by kernel_rfl) (fun _ _ _ h => h) (Or.inl ⟨by kernel_rfl, ?yc17⟩) (by assumption) ?rc17
      case yc17 => (intro wq hSw; (try dsimp only at hSw); go_simp; (try with_reducible rfl))
      (try simp only [Act.put, List.getElem_toArray, List.getElem_cons_succ, List.getElem_cons_zero, List.setIfInBounds_toArray, List.set_cons_zero, List.set_cons_succ])
      refine wpAnyH_done (by kernel_rfl) ?_ _
      refine NoPanic.normal ?_
      go_wp2_with fail
      go_ret
      exact ⟨rfl, HW6.out⟩
end Sz
end Go.Proofs.Ytfckgkbhphkhoaa
