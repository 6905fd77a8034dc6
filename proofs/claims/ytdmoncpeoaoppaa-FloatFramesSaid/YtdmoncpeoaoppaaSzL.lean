/- Good and Fit in the code. -/
import Derived.Test.YtdmoncpeoaoppaaSzK
import Derived.Deep.RegionLaw
namespace Go.Proofs.Ytdmoncpeoaoppaa
open Go.RowKit
namespace Sz
attribute [local go_sem ↓] eql_hints
theorem fit_near {n : Hn} (hb : Bd n) {a : Int} (k : WG n a) (a1 : 0 ≤ a) (a2 : a ≤ 65535) (t : Int) : Near (Gd n a) t (nearV (heightsS n a) t) := by
  have ok := heights_ok hb a1 a2
  have hw := (wg_iff hb a).1 k
  exact (near_side _ ok.i1 ok.b2 t hw.2).congr (fun z => ⟨fun h => (gd_iff hb a z).2 ⟨widths_wide hw.1, h⟩, fun h => ((gd_iff hb a z).1 h).2⟩)
theorem fw_near {n : Hn} {sx a : Int} {ok : Bool} (hs : Some n) (h : FwP n sx a ok) : Near (WG n) sx a := by
  rcases h with ⟨-, h⟩ | ⟨-, h⟩
  · exact h
  · obtain ⟨z, hz⟩ := hs
    exact absurd hz (h z)
theorem wg_b {n : Hn} (hb : Bd n) {a : Int} (k : WG n a) : 1 ≤ a ∧ a ≤ 65535 := widths_b hb (wg_w hb k)
set_option maxHeartbeats 2000000 in
theorem fit_c (h : Hn) (x t : Int) (w : World) : Calls Try.prog 26 #[.agg #[.int .i64 h.minW, .int .i64 h.minH, .int .i64 h.maxW, .int .i64 h.maxH, .int .i64 h.baseW, .int .i64 h.baseH, .int .i64 h.incW, .int .i64 h.incH, .int .i64 h.lowX, .int .i64 h.lowY, .int .i64 h.highX, .int .i64 h.highY], .int .i64 x, .int .i64 t] w fun e w' => ∃ n a b, e = .returned (.tuple #[.int .i64 a, .int .i64 b]) ∧ NormP h n ∧ FitP n x t a b ∧ Below w.heap.size w w' := by
  have A0 := HB.new w h
  have W0 : Below w.heap.size w (w.alloc (.cells (#[.int .i64 h.minW, .int .i64 h.minH, .int .i64 h.maxW, .int .i64 h.maxH, .int .i64 h.baseW, .int .i64 h.baseH, .int .i64 h.incW, .int .i64 h.incH, .int .i64 h.lowX, .int .i64 h.lowY, .int .i64 h.highX, .int .i64 h.highY]) 25)) := by repeat' (first | (with_reducible exact Below.refl _ _) | (with_reducible assumption) | (with_reducible refine Below.alloc ?_ ?_ _) | (with_reducible refine Below.drew ?_) | (with_reducible refine Below.setCell ?_ ?_ _) | (with_reducible refine Below.on (by with_reducible assumption) ?_ ?_) | go_size)
  have HX := Lib.hid (fun W : World => span_c x 0 65535 W)
  have HT := Lib.hid (fun W : World => span_c t 0 65535 W)
  have hx1 := spanI_le x 0 65535
  have hx2 := spanI_ge x 0 65535 (by omega)
  have ht1 := spanI_le t 0 65535
  have ht2 := spanI_ge t 0 65535 (by omega)
  obtain ⟨sx, hsx⟩ : ∃ v, spanI x 0 65535 = v := ⟨_, rfl⟩
  obtain ⟨st, hst⟩ : ∃ v, spanI t 0 65535 = v := ⟨_, rfl⟩
  have HFP := Lib.hid (fun (n : Hn) (a b : Int) (p : Near (WG n) (spanI x 0 65535) a) (q : Near (Gd n a) (spanI t 0 65535) b) => (show FitP n x t a b from ⟨p, q⟩))
  rw [hsx] at HX HFP hx1 hx2
  rw [hst] at HT HFP ht1 ht2
  clear hsx hst
  go_enter Try.func26, Try.ntmps26
  go_upto_region 2 with (go_at_call 58; ((with_reducible refine (normal_c h _).mono ?_); rintro e w1 ⟨n, rfl, hN, hb1⟩); have A1 := A0.next hb1; have W1 := bnext W0 hb1 W0.size; obtain ⟨⟨k0, k1, k2, k3, k4, k5, k6, k7, k8, k9, k10, k11⟩, ⟨kf0, kf1, kf2, kf3, kf4, kf5, kf6, kf7, kf8, kf9, kf10, kf11⟩⟩ := A1.out)
  have HNP := Lib.hid hN
  have hbd := hN.right.1
  have A2 := A1.put12 n
  have W2 := below_set12 W1 (Nat.le_refl _) n
  clear k0 k1 k2 k3 k4 k5 k6 k7 k8 k9 k10 k11 kf0 kf1 kf2 kf3 kf4 kf5 kf6 kf7 kf8 kf9 kf10 kf11 A1 W1 A0 W0 hb1 hN
  generalize (World.setCell (World.setCell (World.setCell (World.setCell (World.setCell (World.setCell (World.setCell (World.setCell (World.setCell (World.setCell (World.setCell (World.setCell w1 ⟨w.heap.size, 0, none⟩ (.int .i64 n.minW)) ⟨w.heap.size, 1, none⟩ (.int .i64 n.minH)) ⟨w.heap.size, 2, none⟩ (.int .i64 n.maxW)) ⟨w.heap.size, 3, none⟩ (.int .i64 n.maxH)) ⟨w.heap.size, 4, none⟩ (.int .i64 n.baseW)) ⟨w.heap.size, 5, none⟩ (.int .i64 n.baseH)) ⟨w.heap.size, 6, none⟩ (.int .i64 n.incW)) ⟨w.heap.size, 7, none⟩ (.int .i64 n.incH)) ⟨w.heap.size, 8, none⟩ (.int .i64 n.lowX)) ⟨w.heap.size, 9, none⟩ (.int .i64 n.lowY)) ⟨w.heap.size, 10, none⟩ (.int .i64 n.highX)) ⟨w.heap.size, 11, none⟩ (.int .i64 n.highY)) = w2 at *
  clear w1
  obtain ⟨⟨k0, k1, k2, k3, k4, k5, k6, k7, k8, k9, k10, k11⟩, ⟨kf0, kf1, kf2, kf3, kf4, kf5, kf6, kf7, kf8, kf9, kf10, kf11⟩⟩ := A2.out
  have HW := Lib.hid (fun W : World => fitWidth_c n hbd sx hx1 hx2 W)
  go_region_law (go_simp; first | (go_at_call 60; ((with_reducible refine (HX.out _).mono ?_); rintro e w3 ⟨rfl, rfl⟩)) | (go_at_call 59; ((with_reducible refine (HW.out _).mono ?_); rintro e w3 ⟨a, ok, rfl, hP, hb3⟩)))
  all_goals
    have A3 := (HB.drew A2).next hb3
    have W3 := bnext (Below.drew W2) hb3 (Below.drew W2).size
    have hN3 := fw_near HNP.out.right.2 hP
    have ha := wg_b hbd hN3.1
    have okh := heights_ok hbd (by omega : 0 ≤ a) ha.2
    have HH := Lib.hid (fun W : World => heights_c n hbd a (by omega) ha.2 W)
    have HNr := Lib.hid (fun W : World => near_c (heightsS n a) okh st ht1 ht2 W)
    have HF := Lib.hid (HFP.out n a _ hN3 (fit_near hbd hN3.1 (by omega) ha.2 st))
    obtain ⟨q, hq⟩ : ∃ q, heightsS n a = q := ⟨_, rfl⟩
    rw [hq] at HH HNr HF
    clear hq okh hN3 hP A2 W2 hb3 k0 k1 k2 k3 k4 k5 k6 k7 k8 k9 k10 k11 kf0 kf1 kf2 kf3 kf4 kf5 kf6 kf7 kf8 kf9 kf10 kf11
    obtain ⟨⟨k0, k1, k2, k3, k4, k5, k6, k7, k8, k9, k10, k11⟩, ⟨kf0, kf1, kf2, kf3, kf4, kf5, kf6, kf7, kf8, kf9, kf10, kf11⟩⟩ := A3.out
    go_wp2_with first
      | (go_at_call 61; ((with_reducible refine (HH.out _).mono ?_); rintro e w4 ⟨rfl, hb4⟩); have W4 := bnext W3 hb4 W3.size)
      | (go_at_call 60; ((with_reducible refine (HT.out _).mono ?_); rintro e w5 ⟨rfl, rfl⟩); skip)
      | (go_at_call 62; ((with_reducible refine (HNr.out _).mono ?_); rintro e w6 ⟨rfl, hb6⟩); have W6 := bnext W4 hb6 W4.size)
    go_ret2
    exact ⟨n, a, _, rfl, HNP.out, HF.out, W6⟩
def goodB (h : Hn) (x t : Int) : Bool := eqB h (bounded h) && hasB (widthsS h) x && hasB (heightsS h x) t
theorem goodB_iff (h : Hn) (x t : Int) : goodB h x t = true ↔ h = bounded h ∧ Gd h x t := by
  unfold goodB
  rw [Bool.and_eq_true, Bool.and_eq_true, eqB_iff, hasB_iff, hasB_iff]
  constructor
  · rintro ⟨⟨h1, h2⟩, h3⟩; exact ⟨h1, (gd_has ((bounded_iff h).1 h1) x t).2 ⟨h2, h3⟩⟩
  · rintro ⟨h1, h2⟩
    have := (gd_has ((bounded_iff h).1 h1) x t).1 h2
    exact ⟨⟨h1, this.1⟩, this.2⟩
end Sz
end Go.Proofs.Ytdmoncpeoaoppaa
