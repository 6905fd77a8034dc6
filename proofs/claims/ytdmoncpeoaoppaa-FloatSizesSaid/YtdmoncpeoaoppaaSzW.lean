/- The document's find, Normal and Fit, walked. -/
import Derived.Test.YtdmoncpeoaoppaaSzT
import Derived.Test.YtdmoncpeoaoppaaSzU
import Derived.Test.YtdmoncpeoaoppaaSzV
namespace Go.Proofs.Ytdmoncpeoaoppaa
open Go.RowKit
namespace Sz
theorem height_c (h : Hn) (hb : Bd h) (x t : Int) (x1 : 0 ≤ x) (x2 : x ≤ 65535) (t1 : 0 ≤ t) (t2 : t ≤ 65535) (w : World) : Calls Try.prog 69 #[.agg #[.int .i64 h.minW, .int .i64 h.minH, .int .i64 h.maxW, .int .i64 h.maxH, .int .i64 h.baseW, .int .i64 h.baseH, .int .i64 h.incW, .int .i64 h.incH, .int .i64 h.lowX, .int .i64 h.lowY, .int .i64 h.highX, .int .i64 h.highY], .int .i64 x, .int .i64 t] w fun e w' => ∃ y, e = .returned (.int .i64 y) ∧ HtP h x t y ∧ Below w.heap.size w w' := by
  by_cases c1 : h.maxH = 0
  · by_cases c2 : h.minH < h.baseH
    · exact height_a h hb c1 c2 x t x1 x2 t1 t2 w
    · exact height_b h hb c1 c2 x t x1 x2 t1 t2 w
  · by_cases c2 : h.minH < h.baseH
    · exact height_c1 h hb c1 c2 x t x1 x2 t1 t2 w
    · exact height_d h hb c1 c2 x t x1 x2 t1 t2 w
/-- What find tells. -/
def FdP (h : Hn) (n t x y : Int) : Prop := (0 < x ∧ Near (WG h) n x ∧ Near (Gd h x) t y) ∨ (x = 0 ∧ y = 0 ∧ ∀ z, ¬ WG h z)
theorem ht_wg {h : Hn} (hb : Bd h) {x t y : Int} (k : HtP h x t y) (a : alongB x h.minW h.maxW h.baseW h.incW = true) (hy : 0 < y) : WG h x ∧ Near (Gd h x) t y := by
  rw [alongB_iff] at a
  rcases k with ⟨-, k⟩ | ⟨k, -⟩
  · exact ⟨⟨y, (gd_iff hb x y).2 ⟨a, k.1⟩⟩, k.congr (fun z => ⟨fun c => (gd_iff hb x z).2 ⟨a, c⟩, fun c => ((gd_iff hb x z).1 c).2⟩)⟩
  · omega
theorem ht_no {h : Hn} (hb : Bd h) {x t y : Int} (k : HtP h x t y) (hy : ¬ 0 < y) : ¬ WG h x := by
  rintro ⟨z, hz⟩
  rcases k with ⟨k, -⟩ | ⟨-, k⟩
  · exact hy k
  · exact k z ((gd_iff hb x z).1 hz).2
theorem along_no {h : Hn} {x : Int} (a : alongB x h.minW h.maxW h.baseW h.incW = false) : ¬ WG h x := by
  rintro ⟨z, hz⟩
  have := (alongB_iff x h.minW h.maxW h.baseW h.incW).2 hz.1
  rw [a] at this; cases this
theorem ht_pos {h : Hn} {x t y y' : Int} (k : HtP h x t y) (hy : 0 < y) (k' : HtP h x t y') : 0 < y' := by
  rcases k' with ⟨k', -⟩ | ⟨-, k'⟩
  · exact k'
  · rcases k with ⟨-, k⟩ | ⟨k, -⟩
    · exact absurd k.1 (k' y)
    · omega
def D1 (h : Hn) (n v : Int) : Prop := v ≤ n ∧ ∀ z, WG h z → z ≤ n → z ≤ v
def U1 (h : Hn) (n v : Int) : Prop := n < v ∧ v ≤ 65536 ∧ (∀ z, WG h z → n < z) ∧ ∀ z, WG h z → v ≤ z
section
variable {h : Hn} {n v t y : Int}
theorem wg_min {z : Int} (hb : Bd h) (k : WG h z) : h.minW ≤ z ∧ 1 ≤ z ∧ z ≤ 65535 := by
  have a := widths_b hb (wg_w hb k)
  obtain ⟨y, hy⟩ := k
  have : max h.minW h.baseW ≤ z := hy.1.1
  omega
theorem D1.hit (d : D1 h n v) (k : WG h v) (k2 : Near (Gd h v) t y) (hv : 0 < v) : FdP h n t v y :=
  .inl ⟨hv, ⟨k, fun _ z hz c => d.2 z hz c, fun c => absurd c (by have := d.1; omega)⟩, k2⟩
theorem D1.miss (d : D1 h n v) (k : ¬ WG h v) : D1 h n (v - 1) := by
  refine ⟨by have := d.1; omega, fun z hz c => ?_⟩
  have h1 := d.2 z hz c
  have h2 : z ≠ v := fun e => k (e ▸ hz)
  omega
theorem D1.out (hb : Bd h) (d : D1 h n v) (hm : v < h.minW) (n2 : n ≤ 65535) : U1 h n (n + 1) := by
  have q : ∀ z, WG h z → n < z := by
    intro z hz
    rcases Int.lt_or_le n z with c | c
    · exact c
    · have := d.2 z hz c; have := (wg_min hb hz).1; omega
  exact ⟨by omega, by omega, q, fun z hz => by have := q z hz; omega⟩
theorem U1.hit (d : U1 h n v) (k : WG h v) (k2 : Near (Gd h v) t y) (hv : 0 < v) : FdP h n t v y :=
  .inl ⟨hv, ⟨k, fun c => absurd c (by have := d.1; omega), fun _ z hz => d.2.2.2 z hz⟩, k2⟩
theorem U1.miss (d : U1 h n v) (k : ¬ WG h v) (hm : v ≤ 65535) : U1 h n (v + 1) := by
  refine ⟨by have := d.1; omega, by omega, d.2.2.1, fun z hz => ?_⟩
  have h1 := d.2.2.2 z hz
  have h2 : z ≠ v := fun e => k (e ▸ hz)
  omega
theorem U1.out (hb : Bd h) (d : U1 h n v) (hm : ¬ v ≤ 65535) : FdP h n t 0 0 :=
  .inr ⟨rfl, rfl, fun z hz => by have := d.2.2.2 z hz; have := (wg_min hb hz).2.2; omega⟩
end
def FdW (w : World) (h : Hn) (W : World) : Prop := HB W w.heap.size h ∧ Below w.heap.size w W
theorem FdW.next {w : World} {h : Hn} {W W' : World} (a : FdW w h W) (hb : Below W.heap.size W W') : FdW w h W' := ⟨a.1.next hb, bnext a.2 hb a.2.size⟩
theorem height_yes {h : Hn} (hb : Bd h) {x t : Int} (hw : WG h x) (t1 : 0 ≤ t) (t2 : t ≤ 65535) (w : World) : Calls Try.prog 69 #[.agg #[.int .i64 h.minW, .int .i64 h.minH, .int .i64 h.maxW, .int .i64 h.maxH, .int .i64 h.baseW, .int .i64 h.baseH, .int .i64 h.incW, .int .i64 h.incH, .int .i64 h.lowX, .int .i64 h.lowY, .int .i64 h.highX, .int .i64 h.highY], .int .i64 x, .int .i64 t] w fun e w' => ∃ y, e = .returned (.int .i64 y) ∧ 0 < y ∧ Near (Gd h x) t y ∧ Below w.heap.size w w' := by
  have hx := (wg_min hb hw).2
  have ha : alongB x h.minW h.maxW h.baseW h.incW = true := by
    obtain ⟨z, hz⟩ := hw
    exact (alongB_iff _ _ _ _ _).2 hz.1
  refine (height_c h hb x t (by omega) hx.2 t1 t2 w).mono ?_
  rintro e w1 ⟨y, rfl, hP, hb1⟩
  have hy : 0 < y := by
    rcases Int.lt_or_le 0 y with c | c
    · exact c
    · exact absurd hw (ht_no hb hP (by omega))
  exact ⟨y, rfl, hy, (ht_wg hb hP ha hy).2, hb1⟩
theorem height_nil {h : Hn} (hb : Bd h) {x t : Int} (hw : ¬ WG h x) (ha : alongB x h.minW h.maxW h.baseW h.incW = true) (x1 : 0 ≤ x) (x2 : x ≤ 65535) (t1 : 0 ≤ t) (t2 : t ≤ 65535) (w : World) : Calls Try.prog 69 #[.agg #[.int .i64 h.minW, .int .i64 h.minH, .int .i64 h.maxW, .int .i64 h.maxH, .int .i64 h.baseW, .int .i64 h.baseH, .int .i64 h.incW, .int .i64 h.incH, .int .i64 h.lowX, .int .i64 h.lowY, .int .i64 h.highX, .int .i64 h.highY], .int .i64 x, .int .i64 t] w fun e w' => e = .returned (.int .i64 0) ∧ Below w.heap.size w w' := by
  refine (height_c h hb x t x1 x2 t1 t2 w).mono ?_
  rintro e w1 ⟨y, rfl, hP, hb1⟩
  have hy : y = 0 := by
    rcases hP with ⟨hy, hN⟩ | ⟨hy, -⟩
    · exact absurd (ht_wg hb (.inl ⟨hy, hN⟩) ha hy).1 hw
    · exact hy
  subst hy
  exact ⟨rfl, hb1⟩
set_option maxHeartbeats 8000000 in
theorem find_c (h : Hn) (hb : Bd h) (n t : Int) (n1 : 0 ≤ n) (n2 : n ≤ 65535) (t1 : 0 ≤ t) (t2 : t ≤ 65535) (w : World) : Calls Try.prog 49 #[.agg #[.int .i64 h.minW, .int .i64 h.minH, .int .i64 h.maxW, .int .i64 h.maxH, .int .i64 h.baseW, .int .i64 h.baseH, .int .i64 h.incW, .int .i64 h.incH, .int .i64 h.lowX, .int .i64 h.lowY, .int .i64 h.highX, .int .i64 h.highY], .int .i64 n, .int .i64 t] w fun e w' => ∃ x y, e = .returned (.tuple #[.int .i64 x, .int .i64 y]) ∧ FdP h n t x y ∧ Below w.heap.size w w' := by
  have A0 := HB.new w h
  have W0 : Below w.heap.size w (w.alloc (.cells (#[.int .i64 h.minW, .int .i64 h.minH, .int .i64 h.maxW, .int .i64 h.maxH, .int .i64 h.baseW, .int .i64 h.baseH, .int .i64 h.incW, .int .i64 h.incH, .int .i64 h.lowX, .int .i64 h.lowY, .int .i64 h.highX, .int .i64 h.highY]) 25)) := by repeat' (first | (with_reducible exact Below.refl _ _) | (with_reducible assumption) | (with_reducible refine Below.alloc ?_ ?_ _) | (with_reducible refine Below.drew ?_) | (with_reducible refine Below.setCell ?_ ?_ _) | (with_reducible refine Below.on (by with_reducible assumption) ?_ ?_) | go_size)
  have HF := Lib.hid (show FdW w h (w.alloc (.cells (#[.int .i64 h.minW, .int .i64 h.minH, .int .i64 h.maxW, .int .i64 h.maxH, .int .i64 h.baseW, .int .i64 h.baseH, .int .i64 h.incW, .int .i64 h.incH, .int .i64 h.lowX, .int .i64 h.lowY, .int .i64 h.highX, .int .i64 h.highY]) 25)) from ⟨A0, W0⟩)
  have HAl := Lib.hid (fun (v : Int) (a : v ≤ 65536) (W : World) => along_c v h.minW h.maxW h.baseW h.incW hb.w.b1 hb.w.i1 (by omega) W)
  have HHt := Lib.hid (fun (v : Int) (a : 0 ≤ v) (b : v ≤ 65535) (W : World) => height_c h hb v t a b t1 t2 W)
  have hm := hb.w.l1
  have hm2 := hb.w.l2
  have HBD := Lib.hid hb
  clear A0 W0 hb
  go_enter Try.func49, Try.ntmps49
  go_wp2_with fail
  generalize w.alloc (.cells (#[.int .i64 h.minW, .int .i64 h.minH, .int .i64 h.maxW, .int .i64 h.maxH, .int .i64 h.baseW, .int .i64 h.baseH, .int .i64 h.incW, .int .i64 h.incH, .int .i64 h.lowX, .int .i64 h.lowY, .int .i64 h.highX, .int .i64 h.highY]) 25) = w1 at *
  go_loopw [8] (fun z wr => ∃ v, z = .int .i64 v ∧ D1 h n v ∧ FdW w h wr) (fun z _ => (intOf z).toNat)
  case atStart => exact ⟨n, rfl, ⟨Int.le_refl _, fun z _ c => c⟩, HF.out⟩
  case round =>
    obtain ⟨v, rfl, hR, hW⟩ := hrel
    clear HF
    have hvn := hR.1
    by_cases cv : h.minW ≤ v
    · skip
      have HR := Lib.hid hR
      have HG := Lib.hid hW
      clear hR hW
      obtain ⟨⟨k0, k1, k2, k3, k4, k5, k6, k7, k8, k9, k10, k11⟩, ⟨kf0, kf1, kf2, kf3, kf4, kf5, kf6, kf7, kf8, kf9, kf10, kf11⟩⟩ := HG.out.1.out
      by_cases hw : WG h v
      · have ha : alongB v h.minW h.maxW h.baseW h.incW = true := by
          obtain ⟨z, hz⟩ := hw
          exact (alongB_iff _ _ _ _ _).2 hz.1
        have HA1 := Lib.hid (HAl.out v (by omega))
        rw [ha] at HA1
        have HY := Lib.hid (fun W : World => height_yes HBD.out hw t1 t2 W)
        have HFD := Lib.hid (fun (y : Int) (k : Near (Gd h v) t y) => HR.out.hit hw k (by omega))
        clear ha hw
        go_upto_region 5 with first
          | (go_at_call 50; ((with_reducible refine (HA1.out _).mono ?_); rintro e w1 ⟨rfl, rfl⟩); skip)
          | (go_at_call 69; ((with_reducible refine (HY.out _).mono ?_); rintro e w5 ⟨y, rfl, hy, hn, hb5⟩); have HG5 := Lib.hid (HG.out.next hb5); clear hb5)
        clear k0 k1 k2 k3 k4 k5 k6 k7 k8 k9 k10 k11 kf0 kf1 kf2 kf3 kf4 kf5 kf6 kf7 kf8 kf9 kf10 kf11
        obtain ⟨⟨k0, k1, k2, k3, k4, k5, k6, k7, k8, k9, k10, k11⟩, ⟨kf0, kf1, kf2, kf3, kf4, kf5, kf6, kf7, kf8, kf9, kf10, kf11⟩⟩ := HG5.out.1.out
        go_wp2_with (go_at_call 69; ((with_reducible refine (HY.out _).mono ?_); rintro e w6 ⟨y', rfl, hy', hn', hb6⟩); have HG6 := Lib.hid (HG5.out.next hb6); clear hb6)
        go_ret2
        exact ⟨_, _, rfl, HFD.out _ hn', HG6.out.2⟩
      · have HM := Lib.hid (HR.out.miss hw)
        cases ha : alongB v h.minW h.maxW h.baseW h.incW
        · have HA1 := Lib.hid (HAl.out v (by omega))
          rw [ha] at HA1
          clear ha hw
          go_wp2_with (go_at_call 50; ((with_reducible refine (HA1.out _).mono ?_); rintro e w1 ⟨rfl, rfl⟩); skip)
          refine ⟨⟨_, rfl, HM.out, HG.out⟩, ?_⟩
          simp only [intOf]
          omega
        · have HA1 := Lib.hid (HAl.out v (by omega))
          rw [ha] at HA1
          have HY := Lib.hid (fun W : World => height_nil HBD.out hw ha (by omega) (by omega) t1 t2 W)
          clear ha hw
          go_wp2_with first
            | (go_at_call 50; ((with_reducible refine (HA1.out _).mono ?_); rintro e w1 ⟨rfl, rfl⟩); skip)
            | (go_at_call 69; ((with_reducible refine (HY.out _).mono ?_); rintro e w5 ⟨rfl, hb5⟩); have HG5 := Lib.hid (HG.out.next hb5); clear hb5)
          refine ⟨⟨_, rfl, HM.out, HG5.out⟩, ?_⟩
          simp only [intOf]
          omega
    · have hU := hR.out HBD.out (by omega) n2
      have HG0 := Lib.hid hW
      have HU0 := Lib.hid hU
      clear hR hW hU
      obtain ⟨⟨k0, k1, k2, k3, k4, k5, k6, k7, k8, k9, k10, k11⟩, ⟨kf0, kf1, kf2, kf3, kf4, kf5, kf6, kf7, kf8, kf9, kf10, kf11⟩⟩ := HG0.out.1.out
      go_wp2_with fail
      clear k0 k1 k2 k3 k4 k5 k6 k7 k8 k9 k10 k11 kf0 kf1 kf2 kf3 kf4 kf5 kf6 kf7 kf8 kf9 kf10 kf11
      go_loopw [9] (fun z wr => ∃ v, z = .int .i64 v ∧ U1 h n v ∧ FdW w h wr) (fun z _ => (65536 - intOf z).toNat)
      case atStart => exact ⟨n + 1, rfl, HU0.out, HG0.out⟩
      case round =>
        obtain ⟨v, rfl, hR, hW⟩ := hrel
        clear HG0 HU0 hvn cv
        have hvn := hR.1
        have hv2 := hR.2.1
        by_cases cv : v ≤ 65535
        · skip
          have HR := Lib.hid hR
          have HG := Lib.hid hW
          clear hR hW
          obtain ⟨⟨k0, k1, k2, k3, k4, k5, k6, k7, k8, k9, k10, k11⟩, ⟨kf0, kf1, kf2, kf3, kf4, kf5, kf6, kf7, kf8, kf9, kf10, kf11⟩⟩ := HG.out.1.out
          by_cases hw : WG h v
          · have ha : alongB v h.minW h.maxW h.baseW h.incW = true := by
              obtain ⟨z, hz⟩ := hw
              exact (alongB_iff _ _ _ _ _).2 hz.1
            have HA1 := Lib.hid (HAl.out v (by omega))
            rw [ha] at HA1
            have HY := Lib.hid (fun W : World => height_yes HBD.out hw t1 t2 W)
            have HFD := Lib.hid (fun (y : Int) (k : Near (Gd h v) t y) => HR.out.hit hw k (by omega))
            clear ha hw
            go_upto_region 10 with first
              | (go_at_call 50; ((with_reducible refine (HA1.out _).mono ?_); rintro e w1 ⟨rfl, rfl⟩); skip)
              | (go_at_call 69; ((with_reducible refine (HY.out _).mono ?_); rintro e w5 ⟨y, rfl, hy, hn, hb5⟩); have HG5 := Lib.hid (HG.out.next hb5); clear hb5)
            clear k0 k1 k2 k3 k4 k5 k6 k7 k8 k9 k10 k11 kf0 kf1 kf2 kf3 kf4 kf5 kf6 kf7 kf8 kf9 kf10 kf11
            obtain ⟨⟨k0, k1, k2, k3, k4, k5, k6, k7, k8, k9, k10, k11⟩, ⟨kf0, kf1, kf2, kf3, kf4, kf5, kf6, kf7, kf8, kf9, kf10, kf11⟩⟩ := HG5.out.1.out
            go_wp2_with (go_at_call 69; ((with_reducible refine (HY.out _).mono ?_); rintro e w6 ⟨y', rfl, hy', hn', hb6⟩); have HG6 := Lib.hid (HG5.out.next hb6); clear hb6)
            go_ret2
            exact ⟨_, _, rfl, HFD.out _ hn', HG6.out.2⟩
          · have HM := Lib.hid (HR.out.miss hw cv)
            cases ha : alongB v h.minW h.maxW h.baseW h.incW
            · have HA1 := Lib.hid (HAl.out v (by omega))
              rw [ha] at HA1
              clear ha hw
              go_wp2_with (go_at_call 50; ((with_reducible refine (HA1.out _).mono ?_); rintro e w1 ⟨rfl, rfl⟩); skip)
              refine ⟨⟨_, rfl, HM.out, HG.out⟩, ?_⟩
              simp only [intOf]
              omega
            · have HA1 := Lib.hid (HAl.out v (by omega))
              rw [ha] at HA1
              have HY := Lib.hid (fun W : World => height_nil HBD.out hw ha (by omega) (by omega) t1 t2 W)
              clear ha hw
              go_wp2_with first
                | (go_at_call 50; ((with_reducible refine (HA1.out _).mono ?_); rintro e w1 ⟨rfl, rfl⟩); skip)
                | (go_at_call 69; ((with_reducible refine (HY.out _).mono ?_); rintro e w5 ⟨rfl, hb5⟩); have HG5 := Lib.hid (HG.out.next hb5); clear hb5)
              refine ⟨⟨_, rfl, HM.out, HG5.out⟩, ?_⟩
              simp only [intOf]
              omega
        · have HR := Lib.hid (hR.out (t := t) HBD.out cv)
          have HG := Lib.hid hW
          clear hR hW
          go_wp2_with fail
          go_ret2
          exact ⟨_, _, rfl, HR.out, HG.out.2⟩
end Sz
end Go.Proofs.Ytdmoncpeoaoppaa
