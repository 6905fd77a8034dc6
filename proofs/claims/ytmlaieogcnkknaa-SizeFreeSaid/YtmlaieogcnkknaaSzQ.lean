/- SizeNear, walked. -/
import Derived.Test.YtmlaieogcnkknaaSzZ
import Derived.Deep.DeepCutAuto
namespace Go.Proofs.Ytmlaieogcnkknaa
open Go.RowKit
namespace Sz
def Two3 (w : World) (h n : Hn) (g : Nat) (W : World) : Prop := HB W w.heap.size h ∧ HB W g n ∧ Below w.heap.size w W
theorem Two3.next {w : World} {h n : Hn} {g : Nat} {W W' : World} (a : Two3 w h n g W) (hb : Below W.heap.size W W') : Two3 w h n g W' := ⟨a.1.next hb, a.2.1.next hb, bnext a.2.2 hb a.2.2.size⟩
set_option maxRecDepth 100000 in
set_option maxHeartbeats 8000000 in
theorem near_w (h : Hn) (x t o : Int) (w : World) (x1 : 0 ≤ x ∧ x ≤ 65535) (t1 : 0 ≤ t ∧ t ≤ 65535) (o1 : 0 ≤ o ∧ o ≤ 65535) : Calls Try.prog 8 #[.agg #[.int .i64 h.minW, .int .i64 h.minH, .int .i64 h.maxW, .int .i64 h.maxH, .int .i64 h.baseW, .int .i64 h.baseH, .int .i64 h.incW, .int .i64 h.incH, .int .i64 h.lowX, .int .i64 h.lowY, .int .i64 h.highX, .int .i64 h.highY], .int .u16 x, .int .u16 t, .int .u16 o] w fun e w' => e = .returned (.bool true) ∧ Below w.heap.size w w' := by
  obtain ⟨x1, x2⟩ := x1
  obtain ⟨t1, t2⟩ := t1
  obtain ⟨o1, o2⟩ := o1
  have f1 : IntKind.i64.wrap x = x := IntWalk.i64_in _ (by omega)
  have f2 : IntKind.i64.wrap t = t := IntWalk.i64_in _ (by omega)
  have f3 : IntKind.i64.wrap o = o := IntWalk.i64_in _ (by omega)
  have A0 := HB.new w h
  have W0 : Below w.heap.size w (w.alloc (.cells (#[.int .i64 h.minW, .int .i64 h.minH, .int .i64 h.maxW, .int .i64 h.maxH, .int .i64 h.baseW, .int .i64 h.baseH, .int .i64 h.incW, .int .i64 h.incH, .int .i64 h.lowX, .int .i64 h.lowY, .int .i64 h.highX, .int .i64 h.highY]) 23)) := by repeat' (first | (with_reducible exact Below.refl _ _) | (with_reducible assumption) | (with_reducible refine Below.alloc ?_ ?_ _) | (with_reducible refine Below.drew ?_) | (with_reducible refine Below.setCell ?_ ?_ _) | (with_reducible refine Below.on (by with_reducible assumption) ?_ ?_) | go_size)
  go_enter Try.func8, Try.ntmps8
  go_upto_region 2 with (go_at_call 14; ((with_reducible refine (rnorm_c h _).mono ?_); rintro e w1 ⟨n, rfl, hN, hb1⟩); have A1 := A0.next hb1; have W1 := bnext W0 hb1 W0.size)
  have HN := Lib.hid hN
  have hbd := hN.right.1
  have hT : Two3 w h n w1.heap.size (w1.alloc (.cells (#[.int .i64 n.minW, .int .i64 n.minH, .int .i64 n.maxW, .int .i64 n.maxH, .int .i64 n.baseW, .int .i64 n.baseH, .int .i64 n.incW, .int .i64 n.incH, .int .i64 n.lowX, .int .i64 n.lowY, .int .i64 n.highX, .int .i64 n.highY]) 23)) := ⟨A1.alloc _, HB.new w1 n, W1.alloc W1.size _⟩
  clear A1 W1 A0 W0 hb1 hN
  generalize w1.alloc (.cells (#[.int .i64 n.minW, .int .i64 n.minH, .int .i64 n.maxW, .int .i64 n.maxH, .int .i64 n.baseW, .int .i64 n.baseH, .int .i64 n.incW, .int .i64 n.incH, .int .i64 n.lowX, .int .i64 n.lowY, .int .i64 n.highX, .int .i64 n.highY]) 23) = w2 at *
  generalize w1.heap.size = g at *
  have HT := Lib.hid hT
  clear hT
  obtain ⟨⟨k0, k1, k2, k3, k4, k5, k6, k7, k8, k9, k10, k11⟩, ⟨kf0, kf1, kf2, kf3, kf4, kf5, kf6, kf7, kf8, kf9, kf10, kf11⟩⟩ := HT.out.1.out
  go_upto_region 4 with (go_at_call 16; ((with_reducible refine (fit_c h x t _).mono ?_); rintro e w3 ⟨n3, a, b, rfl, hN3, hF3, hb3⟩); have HTa := Lib.hid (HT.out.next hb3); clear hb3)
  obtain rfl := HN.out.one hN3
  clear k0 k1 k2 k3 k4 k5 k6 k7 k8 k9 k10 k11 kf0 kf1 kf2 kf3 kf4 kf5 kf6 kf7 kf8 kf9 kf10 kf11 HT hN3
  have HF := Lib.hid hF3
  clear hF3
  obtain ⟨⟨k0, k1, k2, k3, k4, k5, k6, k7, k8, k9, k10, k11⟩, ⟨kf0, kf1, kf2, kf3, kf4, kf5, kf6, kf7, kf8, kf9, kf10, kf11⟩⟩ := HTa.out.2.1.out
  have HG := Lib.hid (fun W : World => rgood_c n hbd a o W)
  have hNT := fun k : Gd n a o => HF.out.near_t t1 t2 k
  have hNW := fun (v : Int) (k : Gd n o v) => HF.out.near_w x1 x2 k
  have HNW := Lib.hid hNW
  clear hNW
  obtain ⟨z, hz⟩ : ∃ z, gdB n a o = z := ⟨_, rfl⟩
  have HNT := Lib.hid (fun c : z = true => hNT ((gdB_iff n a o).1 (hz.trans c)))
  rw [hz] at HG
  clear hNT hz
  go_cut [53] (fun c wx => c = .bool false ∧ Two3 w h n g wx)
  case first =>
    cases z
    · go_wp2_with (go_at_call 19; ((with_reducible refine (HG.out _).mono ?_); rintro e w4 ⟨rfl, hb4⟩); have HTb := Lib.hid (HTa.out.next hb4); clear hb4)
      go_meet
      exact ⟨by first | rfl | exact congrArg Value.bool (by simp <;> omega), HTb.out⟩
    · obtain ⟨q1, q2⟩ := HNT.out rfl
      by_cases c1 : b < o
      · have c2 : ¬ o ≤ t := fun c => q1 ⟨c1, c⟩
        have c4 : ¬ o < b := by omega
        clear q1 q2
        by_cases c3 : t < b
        all_goals
          go_wp2_with (go_at_call 19; ((with_reducible refine (HG.out _).mono ?_); rintro e w4 ⟨rfl, hb4⟩); have HTb := Lib.hid (HTa.out.next hb4); clear hb4)
          go_meet
          exact ⟨by first | rfl | exact congrArg Value.bool (by simp <;> omega), HTb.out⟩
      · by_cases c3 : t < b
        · have c4 : ¬ o < b := fun c => q2 ⟨c3, c⟩
          clear q1 q2
          go_wp2_with (go_at_call 19; ((with_reducible refine (HG.out _).mono ?_); rintro e w4 ⟨rfl, hb4⟩); have HTb := Lib.hid (HTa.out.next hb4); clear hb4)
          go_meet
          exact ⟨by first | rfl | exact congrArg Value.bool (by simp <;> omega), HTb.out⟩
        · clear q1 q2
          go_wp2_with (go_at_call 19; ((with_reducible refine (HG.out _).mono ?_); rintro e w4 ⟨rfl, hb4⟩); have HTb := Lib.hid (HTa.out.next hb4); clear hb4)
          go_meet
          exact ⟨by first | rfl | exact congrArg Value.bool (by simp <;> omega), HTb.out⟩
  case rest =>
    obtain ⟨rfl, hT⟩ := hcut
    clear k0 k1 k2 k3 k4 k5 k6 k7 k8 k9 k10 k11 kf0 kf1 kf2 kf3 kf4 kf5 kf6 kf7 kf8 kf9 kf10 kf11 HTa HNT HG
    have HT := Lib.hid hT
    clear hT
    obtain ⟨⟨k0, k1, k2, k3, k4, k5, k6, k7, k8, k9, k10, k11⟩, ⟨kf0, kf1, kf2, kf3, kf4, kf5, kf6, kf7, kf8, kf9, kf10, kf11⟩⟩ := HT.out.1.out
    have HF5 : (¬ (a < o ∧ o ≤ x) ∧ ¬ (x < a ∧ o < a)) ∨ (∀ v, ¬ Gd n o v) := by
      by_cases e : ∃ v, Gd n o v
      · obtain ⟨v, hv⟩ := e
        exact .inl (HNW.out v hv)
      · exact .inr fun v hv => e ⟨v, hv⟩
    by_cases cc : (a < o ∧ o ≤ x) ∨ (x < a ∧ o < a)
    · have hno : ∀ v, ¬ Gd n o v := by
        rcases HF5 with c | c
        · exact absurd cc (by rintro (c' | c'); exact c.1 c'; exact c.2 c')
        · exact c
      have HF6 := Lib.hid (fun W : World => (fit_c h o t W).mono (R' := fun e w' => ∃ u v, e = .returned (.tuple #[.int .i64 u, .int .i64 v]) ∧ (u != o) = true ∧ Below W.heap.size W w') (by rintro e w1 ⟨n2, u, v, rfl, hN2, hF2, hb2⟩; obtain rfl := HN.out.one hN2; exact ⟨u, v, rfl, by simp only [bne_iff_ne, ne_eq]; rintro rfl; exact hno v hF2.good, hb2⟩))
      clear HF5 hno HF HNW HN
      rcases cc with ⟨d1, d2⟩ | ⟨d3, d4⟩
      · go_wp2_with first
          | (go_at_call 16; ((with_reducible refine (HF6.out _).mono ?_); rintro e w5 ⟨u, v, rfl, huo, hb5⟩); have HT5 := Lib.hid (HT.out.next hb5); clear hb5)
          | (go_at_call 12; ((with_reducible refine (awake_c _).mono ?_); rintro e w6 ⟨rfl, hb6⟩); have HT6 := Lib.hid (HT5.out.next hb6); clear hb6)
        go_ret
        exact ⟨rfl, HT6.out.2.2⟩
      · have d1 : ¬ a < o := by omega
        go_wp2_with first
          | (go_at_call 16; ((with_reducible refine (HF6.out _).mono ?_); rintro e w5 ⟨u, v, rfl, huo, hb5⟩); have HT5 := Lib.hid (HT.out.next hb5); clear hb5)
          | (go_at_call 12; ((with_reducible refine (awake_c _).mono ?_); rintro e w6 ⟨rfl, hb6⟩); have HT6 := Lib.hid (HT5.out.next hb6); clear hb6)
        go_ret
        exact ⟨rfl, HT6.out.2.2⟩
    · clear HF5 HF HNW HN
      by_cases d1 : a < o
      · have d2 : ¬ o ≤ x := fun c => cc (.inl ⟨d1, c⟩)
        have d4 : ¬ o < a := by omega
        clear cc
        by_cases d3 : x < a
        all_goals
          go_wp2_with (go_at_call 12; ((with_reducible refine (awake_c _).mono ?_); rintro e w6 ⟨rfl, hb6⟩); have HT6 := Lib.hid (HT.out.next hb6); clear hb6)
          go_ret
          exact ⟨rfl, HT6.out.2.2⟩
      · by_cases d3 : x < a
        · have d4 : ¬ o < a := fun c => cc (.inr ⟨d3, c⟩)
          clear cc
          go_wp2_with (go_at_call 12; ((with_reducible refine (awake_c _).mono ?_); rintro e w6 ⟨rfl, hb6⟩); have HT6 := Lib.hid (HT.out.next hb6); clear hb6)
          go_ret
          exact ⟨rfl, HT6.out.2.2⟩
        · clear cc
          go_wp2_with (go_at_call 12; ((with_reducible refine (awake_c _).mono ?_); rintro e w6 ⟨rfl, hb6⟩); have HT6 := Lib.hid (HT.out.next hb6); clear hb6)
          go_ret
          exact ⟨rfl, HT6.out.2.2⟩
theorem u16_b {x : Int} (h : (Lit.int .u16 x).wf = true) : 0 ≤ x ∧ x ≤ 65535 := by
  simp [Lit.wf] at h
  have h1 : IntKind.min .u16 = 0 := rfl
  have h2 : IntKind.max .u16 = 65535 := rfl
  omega
theorem near_v (h : Hn) (x t o : Int) (w : World) (x1 : (Lit.int .u16 x).wf = true) (t1 : (Lit.int .u16 t).wf = true) (o1 : (Lit.int .u16 o).wf = true) : Calls Try.prog 8 #[.agg #[.int .i64 h.minW, .int .i64 h.minH, .int .i64 h.maxW, .int .i64 h.maxH, .int .i64 h.baseW, .int .i64 h.baseH, .int .i64 h.incW, .int .i64 h.incH, .int .i64 h.lowX, .int .i64 h.lowY, .int .i64 h.highX, .int .i64 h.highY], .int .u16 x, .int .u16 t, .int .u16 o] w fun e w' => e = .returned (.bool true) ∧ Below w.heap.size w w' :=
  near_w h x t o w (u16_b x1) (u16_b t1) (u16_b o1)
end Sz
end Go.Proofs.Ytmlaieogcnkknaa
