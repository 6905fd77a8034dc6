/- The laws of sizes, walked. -/
import Derived.Test.YtfckgkbhphkhoaaSzY
import Derived.Test.YtfckgkbhphkhoaaSzO
namespace Go.Proofs.Ytfckgkbhphkhoaa
open Go.RowKit
namespace Sz
/-- The chapter's examples. -/
theorem ex1 {n : Hn} {a b : Int} (hn : NormP ⟨10, 10, 0, 0, 4, 4, 5, 5, 0, 0, 0, 0⟩ n) (k : FitP n 30 3 a b) : a = 29 ∧ b = 14 := by
  have hb : Bd ⟨10, 10, 0, 0, 4, 4, 5, 5, 0, 0, 0, 0⟩ := ⟨⟨by decide, by decide, .inl rfl, by decide, by decide, by decide, by decide, by decide⟩, ⟨by decide, by decide, .inl rfl, by decide, by decide, by decide, by decide, by decide⟩, .inl ⟨rfl, rfl, rfl, rfl⟩⟩
  have G : ∀ x y, Gd ⟨10, 10, 0, 0, 4, 4, 5, 5, 0, 0, 0, 0⟩ x y ↔ (10 ≤ x ∧ x ≤ 65535 ∧ (x - 4) % 5 = 0) ∧ (10 ≤ y ∧ y ≤ 65535 ∧ (y - 4) % 5 = 0) := by
    intro x y
    unfold Gd wideS tallS newS Sd.S mx
    simp only []
    simp
    omega
  have e := hn.one (.of hb ⟨29, 14, (G _ _).2 (by omega)⟩)
  subst e
  have k1 : FitP ⟨10, 10, 0, 0, 4, 4, 5, 5, 0, 0, 0, 0⟩ 30 3 29 14 := by
    have e1 : spanI 30 0 65535 = 30 := by decide
    have e2 : spanI 3 0 65535 = 3 := by decide
    unfold FitP; rw [e1, e2]
    refine ⟨⟨⟨14, (G _ _).2 (by omega)⟩, fun _ z hz hn => ?_, fun c => absurd c (by omega)⟩, (G _ _).2 (by omega), fun c => absurd c (by omega), fun _ z hz => ?_⟩
    · obtain ⟨v, hv⟩ := hz
      have := (G _ _).1 hv
      omega
    · have := (G _ _).1 hz
      omega
  exact k.one k1
theorem ex2 {n : Hn} {a b : Int} (hn : NormP ⟨0, 0, 0, 0, 0, 0, 0, 0, 1, 1, 1, 1⟩ n) (k : FitP n 30 20 a b) : a = 30 ∧ b = 30 := by
  have e0 : bounded ⟨0, 0, 0, 0, 0, 0, 0, 0, 1, 1, 1, 1⟩ = ⟨1, 1, 0, 0, 0, 0, 1, 1, 1, 1, 1, 1⟩ := by
    unfold bounded
    rw [if_pos (by decide)]
    exact Hn.same (by decide) (by decide) (by decide) (by decide) (by decide) (by decide) (by decide) (by decide) rfl rfl rfl rfl
  have G : ∀ x y, Gd ⟨1, 1, 0, 0, 0, 0, 1, 1, 1, 1, 1, 1⟩ x y ↔ (1 ≤ x ∧ x ≤ 65535) ∧ x = y := by
    intro x y
    unfold Gd wideS tallS newS Sd.S mx
    simp only []
    simp
    omega
  have hs : Some (bounded ⟨0, 0, 0, 0, 0, 0, 0, 0, 1, 1, 1, 1⟩) := by rw [e0]; exact ⟨1, 1, (G _ _).2 (by omega)⟩
  have e := hn.1 hs
  rw [e0] at e
  subst e
  have k1 : FitP ⟨1, 1, 0, 0, 0, 0, 1, 1, 1, 1, 1, 1⟩ 30 20 30 30 := by
    have e1 : spanI 30 0 65535 = 30 := by decide
    have e2 : spanI 20 0 65535 = 20 := by decide
    unfold FitP; rw [e1, e2]
    refine ⟨.self ⟨30, (G _ _).2 (by omega)⟩, (G _ _).2 (by omega), fun c => absurd c (by omega), fun _ z hz => ?_⟩
    have := (G _ _).1 hz
    omega
  exact k.one k1
theorem awake_c (w : World) : Calls Try.prog 12 #[] w fun e w' => e = .returned (.bool true) ∧ Below w.heap.size w w' := by
  have H1 := Lib.hid (fun W : World => (fit_c ⟨10, 10, 0, 0, 4, 4, 5, 5, 0, 0, 0, 0⟩ 30 3 W).mono (R' := fun e w' => e = .returned (.tuple #[.int .i64 29, .int .i64 14]) ∧ Below W.heap.size W w') (by rintro e w1 ⟨n, a, b, rfl, hn, hf, hb⟩; obtain ⟨rfl, rfl⟩ := ex1 hn hf; exact ⟨rfl, hb⟩))
  have H2 := Lib.hid (fun W : World => (fit_c ⟨0, 0, 0, 0, 0, 0, 0, 0, 1, 1, 1, 1⟩ 30 20 W).mono (R' := fun e w' => e = .returned (.tuple #[.int .i64 30, .int .i64 30]) ∧ Below W.heap.size W w') (by rintro e w1 ⟨n, a, b, rfl, hn, hf, hb⟩; obtain ⟨rfl, rfl⟩ := ex2 hn hf; exact ⟨rfl, hb⟩))
  go_enter Try.func12, Try.ntmps12
  go_wp2_with (first | (go_at_call 16; ((with_reducible refine (H1.out _).mono ?_); rintro e w1 ⟨rfl, hb1⟩); skip) | (go_at_call 16; ((with_reducible refine (H2.out _).mono ?_); rintro e w2 ⟨rfl, hb2⟩); skip))
  go_ret
  exact ⟨rfl, bnext hb1 hb2 hb1.size⟩
set_option maxHeartbeats 4000000 in
theorem good_w (h : Hn) (x t : Int) (w : World) : Calls Try.prog 6 #[.agg #[.int .i64 h.minW, .int .i64 h.minH, .int .i64 h.maxW, .int .i64 h.maxH, .int .i64 h.baseW, .int .i64 h.baseH, .int .i64 h.incW, .int .i64 h.incH, .int .i64 h.lowX, .int .i64 h.lowY, .int .i64 h.highX, .int .i64 h.highY], .int .i64 x, .int .i64 t] w fun e w' => e = .returned (.bool true) ∧ Below w.heap.size w w' := by
  have A0 := HB.new w h
  have W0 : Below w.heap.size w (w.alloc (.cells (#[.int .i64 h.minW, .int .i64 h.minH, .int .i64 h.maxW, .int .i64 h.maxH, .int .i64 h.baseW, .int .i64 h.baseH, .int .i64 h.incW, .int .i64 h.incH, .int .i64 h.lowX, .int .i64 h.lowY, .int .i64 h.highX, .int .i64 h.highY]) 23)) := by repeat' (first | (with_reducible exact Below.refl _ _) | (with_reducible assumption) | (with_reducible refine Below.alloc ?_ ?_ _) | (with_reducible refine Below.drew ?_) | (with_reducible refine Below.setCell ?_ ?_ _) | (with_reducible refine Below.on (by with_reducible assumption) ?_ ?_) | go_size)
  go_enter Try.func6, Try.ntmps6
  go_upto_region 2 with (go_at_call 16; ((with_reducible refine (fit_c h x t _).mono ?_); rintro e w1 ⟨n, a, b, rfl, hN, hF, hb1⟩); have A1 := A0.next hb1; have W1 := bnext W0 hb1 W0.size)
  have HN := Lib.hid hN
  have hbd := hN.right.1
  have E1 := Lib.hid ((gdB_iff n a b).2 hF.good)
  have E2 := Lib.hid ((goodB_iff n a b).2 ⟨(bounded_iff n).2 hbd, hF.good⟩)
  have HG := Lib.hid (fun W : World => rgood_c n hbd a b W)
  have HG2 := Lib.hid (fun W : World => good_c n a b W)
  rw [E1.out] at HG
  rw [E2.out] at HG2
  clear hN hF A0 W0 hb1
  obtain ⟨⟨k0, k1, k2, k3, k4, k5, k6, k7, k8, k9, k10, k11⟩, ⟨kf0, kf1, kf2, kf3, kf4, kf5, kf6, kf7, kf8, kf9, kf10, kf11⟩⟩ := A1.out
  go_wp2_with first
    | (go_at_call 14; ((with_reducible refine (rnorm_c h _).mono ?_); rintro e w2 ⟨n2, rfl, hN2, hb2⟩); obtain rfl := HN.out.one hN2; have A2 := A1.next hb2; have W2 := bnext W1 hb2 W1.size; clear k0 k1 k2 k3 k4 k5 k6 k7 k8 k9 k10 k11 kf0 kf1 kf2 kf3 kf4 kf5 kf6 kf7 kf8 kf9 kf10 kf11; obtain ⟨⟨k0, k1, k2, k3, k4, k5, k6, k7, k8, k9, k10, k11⟩, ⟨kf0, kf1, kf2, kf3, kf4, kf5, kf6, kf7, kf8, kf9, kf10, kf11⟩⟩ := A2.out)
    | (go_at_call 19; ((with_reducible refine (HG.out _).mono ?_); rintro e w3 ⟨rfl, hb3⟩); have A3 := A2.next hb3; have W3 := bnext W2 hb3 W2.size; clear k0 k1 k2 k3 k4 k5 k6 k7 k8 k9 k10 k11 kf0 kf1 kf2 kf3 kf4 kf5 kf6 kf7 kf8 kf9 kf10 kf11; obtain ⟨⟨k0, k1, k2, k3, k4, k5, k6, k7, k8, k9, k10, k11⟩, ⟨kf0, kf1, kf2, kf3, kf4, kf5, kf6, kf7, kf8, kf9, kf10, kf11⟩⟩ := A3.out)
    | (go_at_call 13; ((with_reducible refine (normal_c h _).mono ?_); rintro e w4 ⟨n4, rfl, hN4, hb4⟩); obtain rfl := HN.out.one hN4; have W4 := bnext W3 hb4 W3.size)
    | (go_at_call 18; ((with_reducible refine (HG2.out _).mono ?_); rintro e w5 ⟨rfl, hb5⟩); have W5 := bnext W4 hb5 W4.size)
    | (go_at_call 12; ((with_reducible refine (awake_c _).mono ?_); rintro e w6 ⟨rfl, hb6⟩); have W6 := bnext W5 hb6 W5.size)
  go_ret
  exact ⟨rfl, W6⟩
set_option maxHeartbeats 4000000 in
theorem stays_w (h : Hn) (x t : Int) (w : World) : Calls Try.prog 7 #[.agg #[.int .i64 h.minW, .int .i64 h.minH, .int .i64 h.maxW, .int .i64 h.maxH, .int .i64 h.baseW, .int .i64 h.baseH, .int .i64 h.incW, .int .i64 h.incH, .int .i64 h.lowX, .int .i64 h.lowY, .int .i64 h.highX, .int .i64 h.highY], .int .i64 x, .int .i64 t] w fun e w' => e = .returned (.bool true) ∧ Below w.heap.size w w' := by
  have A0 := HB.new w h
  have W0 : Below w.heap.size w (w.alloc (.cells (#[.int .i64 h.minW, .int .i64 h.minH, .int .i64 h.maxW, .int .i64 h.maxH, .int .i64 h.baseW, .int .i64 h.baseH, .int .i64 h.incW, .int .i64 h.incH, .int .i64 h.lowX, .int .i64 h.lowY, .int .i64 h.highX, .int .i64 h.highY]) 23)) := by repeat' (first | (with_reducible exact Below.refl _ _) | (with_reducible assumption) | (with_reducible refine Below.alloc ?_ ?_ _) | (with_reducible refine Below.drew ?_) | (with_reducible refine Below.setCell ?_ ?_ _) | (with_reducible refine Below.on (by with_reducible assumption) ?_ ?_) | go_size)
  go_enter Try.func7, Try.ntmps7
  go_upto_region 2 with (go_at_call 16; ((with_reducible refine (fit_c h x t _).mono ?_); rintro e w1 ⟨n, a, b, rfl, hN, hF, hb1⟩); have A1 := A0.next hb1; have W1 := bnext W0 hb1 W0.size)
  have HN := Lib.hid hN
  have HF := Lib.hid hF
  have hbd := hN.right.1
  clear hN hF A0 W0 hb1
  obtain ⟨⟨k0, k1, k2, k3, k4, k5, k6, k7, k8, k9, k10, k11⟩, ⟨kf0, kf1, kf2, kf3, kf4, kf5, kf6, kf7, kf8, kf9, kf10, kf11⟩⟩ := A1.out
  have HF2 := Lib.hid (fun W : World => (fit_c h a b W).mono (R' := fun e w' => e = .returned (.tuple #[.int .i64 a, .int .i64 b]) ∧ Below W.heap.size W w') (by rintro e w1 ⟨n2, u, v, rfl, hN2, hF2, hb2⟩; obtain rfl := HN.out.one hN2; obtain ⟨rfl, rfl⟩ := (FitP.self hbd HF.out.good).one hF2; exact ⟨rfl, hb2⟩))
  have HNo := Lib.hid (fun W : World => (rnorm_c h W).mono (R' := fun e w' => e = .returned (.agg #[.int .i64 n.minW, .int .i64 n.minH, .int .i64 n.maxW, .int .i64 n.maxH, .int .i64 n.baseW, .int .i64 n.baseH, .int .i64 n.incW, .int .i64 n.incH, .int .i64 n.lowX, .int .i64 n.lowY, .int .i64 n.highX, .int .i64 n.highY]) ∧ Below W.heap.size W w') (by rintro e w1 ⟨n2, rfl, hN2, hb2⟩; obtain rfl := HN.out.one hN2; exact ⟨rfl, hb2⟩))
  have HG := Lib.hid (fun W : World => rgood_c n hbd x t W)
  cases hg : gdB n x t
  · rw [hg] at HG
    have hne : ¬ (a = x ∧ b = t) := by
      rintro ⟨rfl, rfl⟩
      have := (gdB_iff n a b).2 HF.out.good
      rw [hg] at this; cases this
    clear HN HF hg
    by_cases ha : a = x
    · have hbt : (b != t) = true := by simp only [bne_iff_ne, ne_eq]; exact fun c => hne ⟨ha, c⟩
      have hax : (a != x) = false := by simp [ha]
      clear hne ha
      go_wp2_with first
        | (go_at_call 16; ((with_reducible refine (HF2.out _).mono ?_); rintro e w2 ⟨rfl, hb2⟩); have A2 := A1.next hb2; have W2 := bnext W1 hb2 W1.size; clear k0 k1 k2 k3 k4 k5 k6 k7 k8 k9 k10 k11 kf0 kf1 kf2 kf3 kf4 kf5 kf6 kf7 kf8 kf9 kf10 kf11; obtain ⟨⟨k0, k1, k2, k3, k4, k5, k6, k7, k8, k9, k10, k11⟩, ⟨kf0, kf1, kf2, kf3, kf4, kf5, kf6, kf7, kf8, kf9, kf10, kf11⟩⟩ := A2.out)
        | (go_at_call 14; ((with_reducible refine (HNo.out _).mono ?_); rintro e w3 ⟨rfl, hb3⟩); have W3 := bnext W2 hb3 W2.size)
        | (go_at_call 19; ((with_reducible refine (HG.out _).mono ?_); rintro e w4 ⟨rfl, hb4⟩); have W4 := bnext W3 hb4 W3.size)
        | (go_at_call 12; ((with_reducible refine (awake_c _).mono ?_); rintro e w6 ⟨rfl, hb6⟩); have W6 := bnext W4 hb6 W4.size)
      go_ret
      exact ⟨rfl, W6⟩
    · have hax : (a != x) = true := by simp [ha]
      clear hne ha
      go_wp2_with first
        | (go_at_call 16; ((with_reducible refine (HF2.out _).mono ?_); rintro e w2 ⟨rfl, hb2⟩); have A2 := A1.next hb2; have W2 := bnext W1 hb2 W1.size; clear k0 k1 k2 k3 k4 k5 k6 k7 k8 k9 k10 k11 kf0 kf1 kf2 kf3 kf4 kf5 kf6 kf7 kf8 kf9 kf10 kf11; obtain ⟨⟨k0, k1, k2, k3, k4, k5, k6, k7, k8, k9, k10, k11⟩, ⟨kf0, kf1, kf2, kf3, kf4, kf5, kf6, kf7, kf8, kf9, kf10, kf11⟩⟩ := A2.out)
        | (go_at_call 14; ((with_reducible refine (HNo.out _).mono ?_); rintro e w3 ⟨rfl, hb3⟩); have W3 := bnext W2 hb3 W2.size)
        | (go_at_call 19; ((with_reducible refine (HG.out _).mono ?_); rintro e w4 ⟨rfl, hb4⟩); have W4 := bnext W3 hb4 W3.size)
        | (go_at_call 12; ((with_reducible refine (awake_c _).mono ?_); rintro e w6 ⟨rfl, hb6⟩); have W6 := bnext W4 hb6 W4.size)
      go_ret
      exact ⟨rfl, W6⟩
  · rw [hg] at HG
    obtain ⟨hax, hbt⟩ := HF.out.one (FitP.self hbd ((gdB_iff n x t).1 hg))
    subst hax hbt
    clear HN HF hg
    go_wp2_with first
      | (go_at_call 16; ((with_reducible refine (HF2.out _).mono ?_); rintro e w2 ⟨rfl, hb2⟩); have A2 := A1.next hb2; have W2 := bnext W1 hb2 W1.size; clear k0 k1 k2 k3 k4 k5 k6 k7 k8 k9 k10 k11 kf0 kf1 kf2 kf3 kf4 kf5 kf6 kf7 kf8 kf9 kf10 kf11; obtain ⟨⟨k0, k1, k2, k3, k4, k5, k6, k7, k8, k9, k10, k11⟩, ⟨kf0, kf1, kf2, kf3, kf4, kf5, kf6, kf7, kf8, kf9, kf10, kf11⟩⟩ := A2.out)
      | (go_at_call 14; ((with_reducible refine (HNo.out _).mono ?_); rintro e w3 ⟨rfl, hb3⟩); have W3 := bnext W2 hb3 W2.size)
      | (go_at_call 19; ((with_reducible refine (HG.out _).mono ?_); rintro e w4 ⟨rfl, hb4⟩); have W4 := bnext W3 hb4 W3.size)
      | (go_at_call 12; ((with_reducible refine (awake_c _).mono ?_); rintro e w6 ⟨rfl, hb6⟩); have W6 := bnext W4 hb6 W4.size)
    go_ret
    exact ⟨rfl, W6⟩
end Sz
end Go.Proofs.Ytfckgkbhphkhoaa
