/- The document's IsNormal and Good, walked. -/
import Derived.Test.YtdmoncpeoaoppaaSzR
import Derived.Deep.DeepCutAuto
namespace Go.Proofs.Ytdmoncpeoaoppaa
open Go.RowKit
namespace Sz
def gdB (h : Hn) (x y : Int) : Bool := alongB x h.minW h.maxW h.baseW h.incW && alongB y h.minH h.maxH h.baseH h.incH && decide (h.lowX = 0 ∨ h.lowX * y ≤ x * h.lowY ∧ x * h.highY ≤ h.highX * y)
theorem gdB_iff (h : Hn) (x y : Int) : gdB h x y = true ↔ Gd h x y := by
  unfold gdB Gd wideS tallS
  rw [Bool.and_eq_true, Bool.and_eq_true, alongB_iff, alongB_iff, decide_eq_true_iff]
  exact ⟨fun ⟨⟨a, b⟩, c⟩ => ⟨a, b, c⟩, fun ⟨a, b, c⟩ => ⟨⟨a, b⟩, c⟩⟩
set_option maxHeartbeats 4000000 in
theorem rgood_c (h : Hn) (hb : Bd h) (x y : Int) (w : World) : Calls Try.prog 21 #[.agg #[.int .i64 h.minW, .int .i64 h.minH, .int .i64 h.maxW, .int .i64 h.maxH, .int .i64 h.baseW, .int .i64 h.baseH, .int .i64 h.incW, .int .i64 h.incH, .int .i64 h.lowX, .int .i64 h.lowY, .int .i64 h.highX, .int .i64 h.highY], .int .i64 x, .int .i64 y] w fun e w' => e = .returned (.bool (gdB h x y)) ∧ Below w.heap.size w w' := by
  have A0 := HB.new w h
  have W0 : Below w.heap.size w (w.alloc (.cells (#[.int .i64 h.minW, .int .i64 h.minH, .int .i64 h.maxW, .int .i64 h.maxH, .int .i64 h.baseW, .int .i64 h.baseH, .int .i64 h.incW, .int .i64 h.incH, .int .i64 h.lowX, .int .i64 h.lowY, .int .i64 h.highX, .int .i64 h.highY]) 25)) := by repeat' (first | (with_reducible exact Below.refl _ _) | (with_reducible assumption) | (with_reducible refine Below.alloc ?_ ?_ _) | (with_reducible refine Below.drew ?_) | (with_reducible refine Below.setCell ?_ ?_ _) | (with_reducible refine Below.on (by with_reducible assumption) ?_ ?_) | go_size)
  have no : (¬ Gd h x y) → gdB h x y = false := fun k => by rw [← Bool.not_eq_true, gdB_iff]; exact k
  by_cases c1 : x < 1
  · rw [no (fun k => by have := gd_b hb k; omega)]; clear no
    go_enter Try.func21, Try.ntmps21
    go_wp2_with fail
    go_ret
    exact ⟨rfl, W0⟩
  by_cases c2 : y < 1
  · rw [no (fun k => by have := gd_b hb k; omega)]; clear no
    go_enter Try.func21, Try.ntmps21
    go_wp2_with fail
    go_ret
    exact ⟨rfl, W0⟩
  by_cases c3 : 65535 < x
  · rw [no (fun k => by have := gd_b hb k; omega)]; clear no
    go_enter Try.func21, Try.ntmps21
    go_wp2_with fail
    go_ret
    exact ⟨rfl, W0⟩
  by_cases c4 : 65535 < y
  · rw [no (fun k => by have := gd_b hb k; omega)]; clear no
    go_enter Try.func21, Try.ntmps21
    go_wp2_with fail
    go_ret
    exact ⟨rfl, W0⟩
  have HX := Lib.hid (fun W : World => along_c x h.minW h.maxW h.baseW h.incW hb.w.b1 hb.w.i1 (by omega) W)
  have HY := Lib.hid (fun W : World => along_c y h.minH h.maxH h.baseH h.incH hb.t.b1 hb.t.i1 (by omega) W)
  have HG : gdB h x y = (alongB x h.minW h.maxW h.baseW h.incW && alongB y h.minH h.maxH h.baseH h.incH && decide (h.lowX = 0 ∨ h.lowX * y ≤ x * h.lowY ∧ x * h.highY ≤ h.highX * y)) := rfl
  obtain ⟨bx, hbx⟩ : ∃ b, alongB x h.minW h.maxW h.baseW h.incW = b := ⟨_, rfl⟩
  obtain ⟨byy, hby⟩ : ∃ b, alongB y h.minH h.maxH h.baseH h.incH = b := ⟨_, rfl⟩
  rw [hbx] at HX HG
  rw [hby] at HY HG
  clear no hbx hby
  cases bx
  · rw [HG, Bool.false_and, Bool.false_and]; clear HG
    go_enter Try.func21, Try.ntmps21
    go_wp2_with (go_at_call 50; ((with_reducible refine (HX.out _).mono ?_); rintro e w1 ⟨rfl, rfl⟩); skip)
    go_ret
    exact ⟨rfl, W0⟩
  cases byy
  · rw [HG, Bool.true_and, Bool.false_and]; clear HG
    go_enter Try.func21, Try.ntmps21
    go_wp2_with (first | (go_at_call 50; ((with_reducible refine (HX.out _).mono ?_); rintro e w1 ⟨rfl, rfl⟩); skip) | (go_at_call 50; ((with_reducible refine (HY.out _).mono ?_); rintro e w1 ⟨rfl, rfl⟩); skip))
    go_ret
    exact ⟨rfl, W0⟩
  rw [Bool.true_and, Bool.true_and] at HG
  by_cases h0 : h.lowX = 0
  · rw [HG, decide_eq_true (.inl h0)]; clear HG
    have h1 : (h.lowX == 0) = true := by simp [h0]
    clear h0
    go_enter Try.func21, Try.ntmps21
    go_wp2_with (first | (go_at_call 50; ((with_reducible refine (HX.out _).mono ?_); rintro e w1 ⟨rfl, rfl⟩); skip) | (go_at_call 50; ((with_reducible refine (HY.out _).mono ?_); rintro e w1 ⟨rfl, rfl⟩); skip))
    go_ret
    exact ⟨rfl, W0⟩
  have ha : Asp h.lowX h.lowY h.highX h.highY := hb.a.resolve_left (fun z => h0 z.1)
  have p1 := mul_b (by have := ha.a1; omega : 0 ≤ h.lowX) ha.a2 (by omega : 0 ≤ y) (by omega)
  have p2 := mul_b (by omega : 0 ≤ x) (by omega) (by have := ha.b1; omega : 0 ≤ h.lowY) ha.b2
  have p3 := mul_b (by omega : 0 ≤ x) (by omega) (by have := ha.d1; omega : 0 ≤ h.highY) ha.d2
  have p4 := mul_b (by have := ha.c1; omega : 0 ≤ h.highX) ha.c2 (by omega : 0 ≤ y) (by omega)
  obtain ⟨P, hP⟩ : ∃ P, h.lowX * y = P := ⟨_, rfl⟩
  obtain ⟨Q, hQ⟩ : ∃ Q, x * h.lowY = Q := ⟨_, rfl⟩
  obtain ⟨R, hR⟩ : ∃ R, x * h.highY = R := ⟨_, rfl⟩
  obtain ⟨S, hS⟩ : ∃ S, h.highX * y = S := ⟨_, rfl⟩
  rw [hP, hQ, hR, hS] at HG
  rw [hP] at p1; rw [hQ] at p2; rw [hR] at p3; rw [hS] at p4
  have f1 : IntKind.i64.wrap P = P := IntWalk.i64_in _ (by omega)
  have f2 : IntKind.i64.wrap Q = Q := IntWalk.i64_in _ (by omega)
  have f3 : IntKind.i64.wrap R = R := IntWalk.i64_in _ (by omega)
  have f4 : IntKind.i64.wrap S = S := IntWalk.i64_in _ (by omega)
  have h1 : (h.lowX == 0) = false := by simp [h0]
  by_cases d1 : P ≤ Q
  · have E : decide (h.lowX = 0 ∨ P ≤ Q ∧ R ≤ S) = decide (R ≤ S) := by simp [h0, d1]
    rw [HG, E]; clear HG E h0 ha hb
    go_enter Try.func21, Try.ntmps21
    go_wp2_with (first | (go_at_call 50; ((with_reducible refine (HX.out _).mono ?_); rintro e w1 ⟨rfl, rfl⟩); skip) | (go_at_call 50; ((with_reducible refine (HY.out _).mono ?_); rintro e w1 ⟨rfl, rfl⟩); skip))
    go_ret
    exact ⟨rfl, W0⟩
  · have E : decide (h.lowX = 0 ∨ P ≤ Q ∧ R ≤ S) = false := by simp [h0, d1]
    rw [HG, E]; clear HG E h0 ha hb
    go_enter Try.func21, Try.ntmps21
    go_wp2_with (first | (go_at_call 50; ((with_reducible refine (HX.out _).mono ?_); rintro e w1 ⟨rfl, rfl⟩); skip) | (go_at_call 50; ((with_reducible refine (HY.out _).mono ?_); rintro e w1 ⟨rfl, rfl⟩); skip))
    go_ret
    exact ⟨rfl, W0⟩
/-- What IsNormal tells of hints whose ways are normal. -/
def zaB (h : Hn) : Bool := decide (h.lowX = 0 ∧ h.lowY = 0 ∧ h.highX = 0 ∧ h.highY = 0) || aspB h.lowX h.lowY h.highX h.highY
theorem zaB_iff {h : Hn} (h1 : Way h.minW h.maxW h.baseW h.incW) (h2 : Way h.minH h.maxH h.baseH h.incH) : zaB h = true ↔ Bd h := by
  unfold zaB
  rw [Bool.or_eq_true, decide_eq_true_iff, aspB_iff]
  exact ⟨fun k => ⟨h1, h2, k⟩, fun k => k.a⟩
set_option maxRecDepth 100000 in
set_option maxHeartbeats 8000000 in
theorem normal_is (h : Hn) (h1 : Way h.minW h.maxW h.baseW h.incW) (h2 : Way h.minH h.maxH h.baseH h.incH) (w : World) : Calls Try.prog 48 #[.agg #[.int .i64 h.minW, .int .i64 h.minH, .int .i64 h.maxW, .int .i64 h.maxH, .int .i64 h.baseW, .int .i64 h.baseH, .int .i64 h.incW, .int .i64 h.incH, .int .i64 h.lowX, .int .i64 h.lowY, .int .i64 h.highX, .int .i64 h.highY]] w fun e w' => e = .returned (.bool (zaB h)) ∧ Below w.heap.size w w' := by
  have A0 := HB.new w h
  have W0 : Below w.heap.size w (w.alloc (.cells (#[.int .i64 h.minW, .int .i64 h.minH, .int .i64 h.maxW, .int .i64 h.maxH, .int .i64 h.baseW, .int .i64 h.baseH, .int .i64 h.incW, .int .i64 h.incH, .int .i64 h.lowX, .int .i64 h.lowY, .int .i64 h.highX, .int .i64 h.highY]) 25)) := by repeat' (first | (with_reducible exact Below.refl _ _) | (with_reducible assumption) | (with_reducible refine Below.alloc ?_ ?_ _) | (with_reducible refine Below.drew ?_) | (with_reducible refine Below.setCell ?_ ?_ _) | (with_reducible refine Below.on (by with_reducible assumption) ?_ ?_) | go_size)
  have yes : ∀ n l : Int, l ≤ n → n ≤ 65535 → ∀ W : World, Calls Try.prog 68 #[.int .i64 n, .int .i64 l] W fun e w' => e = .returned (.bool true) ∧ W = w' := fun n l a b W => by
    have := whole_c n l W
    rw [decide_eq_true ⟨a, b⟩] at this
    exact this
  have any : ∀ (n : Int) (b : Bool), (decide (1 ≤ n ∧ n ≤ 65535)) = b → ∀ W : World, Calls Try.prog 68 #[.int .i64 n, .int .i64 1] W fun e w' => e = .returned (.bool b) ∧ W = w' := fun n b e W => by
    have := whole_c n 1 W
    rw [e] at this
    exact this
  have H1 := Lib.hid (yes h.minW 1 h1.l1 h1.l2)
  have H2 := Lib.hid (yes h.minH 1 h2.l1 h2.l2)
  have H3 := Lib.hid (yes h.incW 1 h1.i1 h1.i2)
  have H4 := Lib.hid (yes h.incH 1 h2.i1 h2.i2)
  have H5 := Lib.hid (yes h.baseW 0 h1.b1 h1.b2)
  have H6 := Lib.hid (yes h.baseH 0 h2.b1 h2.b2)
  have H7 := Lib.hid (fun c : h.maxW ≠ 0 => yes h.maxW h.minW (h1.m1.resolve_left c) h1.m2)
  have H8 := Lib.hid (fun c : h.maxH ≠ 0 => yes h.maxH h.minH (h2.m1.resolve_left c) h2.m2)
  have HANY := Lib.hid any
  obtain ⟨z, hz⟩ : ∃ z, zaB h = z := ⟨_, rfl⟩
  have HZ : (decide (h.lowX = 0 ∧ h.lowY = 0 ∧ h.highX = 0 ∧ h.highY = 0) || aspB h.lowX h.lowY h.highX h.highY) = z := hz
  rw [hz]
  clear hz yes any h1 h2
  obtain ⟨b1, hb1⟩ : ∃ b, decide (1 ≤ h.lowX ∧ h.lowX ≤ 65535) = b := ⟨_, rfl⟩
  obtain ⟨b2, hb2⟩ : ∃ b, decide (1 ≤ h.lowY ∧ h.lowY ≤ 65535) = b := ⟨_, rfl⟩
  obtain ⟨b3, hb3⟩ : ∃ b, decide (1 ≤ h.highX ∧ h.highX ≤ 65535) = b := ⟨_, rfl⟩
  obtain ⟨b4, hb4⟩ : ∃ b, decide (1 ≤ h.highY ∧ h.highY ≤ 65535) = b := ⟨_, rfl⟩
  have K1 := Lib.hid (HANY.out _ _ hb1)
  have K2 := Lib.hid (HANY.out _ _ hb2)
  have K3 := Lib.hid (HANY.out _ _ hb3)
  have K4 := Lib.hid (HANY.out _ _ hb4)
  clear HANY
  have HASP : aspB h.lowX h.lowY h.highX h.highY = (b1 && b2 && b3 && b4 && decide (h.lowX * h.highY ≤ h.highX * h.lowY)) := by
    rw [← hb1, ← hb2, ← hb3, ← hb4, Bool.eq_iff_iff, aspB_iff]
    simp only [Bool.and_eq_true, decide_eq_true_iff]
    exact ⟨fun k => ⟨⟨⟨⟨⟨k.a1, k.a2⟩, k.b1, k.b2⟩, k.c1, k.c2⟩, k.d1, k.d2⟩, k.le⟩, fun ⟨⟨⟨⟨⟨a, b⟩, c, d⟩, e, f⟩, g, i⟩, j⟩ => ⟨a, b, c, d, e, f, g, i, j⟩⟩
  rw [HASP] at HZ
  clear HASP
  have HZZ := Lib.hid HZ
  have HB1 := Lib.hid hb1
  have HB2 := Lib.hid hb2
  have HB3 := Lib.hid hb3
  have HB4 := Lib.hid hb4
  clear HZ hb1 hb2 hb3 hb4
  go_enter Try.func48, Try.ntmps48
  go_upto_region 3 with (first | (go_at_call 68; ((with_reducible refine (H1.out _).mono ?_); rintro e w1 ⟨rfl, rfl⟩); skip) | (go_at_call 68; ((with_reducible refine (H2.out _).mono ?_); rintro e w1 ⟨rfl, rfl⟩); skip) | (go_at_call 68; ((with_reducible refine (H3.out _).mono ?_); rintro e w1 ⟨rfl, rfl⟩); skip) | (go_at_call 68; ((with_reducible refine (H4.out _).mono ?_); rintro e w1 ⟨rfl, rfl⟩); skip) | (go_at_call 68; ((with_reducible refine (H5.out _).mono ?_); rintro e w1 ⟨rfl, rfl⟩); skip) | (go_at_call 68; ((with_reducible refine (H6.out _).mono ?_); rintro e w1 ⟨rfl, rfl⟩); skip))
  generalize w.alloc (.cells (#[.int .i64 h.minW, .int .i64 h.minH, .int .i64 h.maxW, .int .i64 h.maxH, .int .i64 h.baseW, .int .i64 h.baseH, .int .i64 h.incW, .int .i64 h.incH, .int .i64 h.lowX, .int .i64 h.lowY, .int .i64 h.highX, .int .i64 h.highY]) 25) = w1 at *
  obtain ⟨⟨k0, k1, k2, k3, k4, k5, k6, k7, k8, k9, k10, k11⟩, ⟨kf0, kf1, kf2, kf3, kf4, kf5, kf6, kf7, kf8, kf9, kf10, kf11⟩⟩ := A0.out
  go_cut [60] (fun c wx => c = .bool false ∧ wx = w1)
  case first =>
    by_cases c1 : h.maxW = 0
    · have e1 : (h.maxW != 0) = false := by simp [c1]
      clear c1
      by_cases c2 : h.maxH = 0
      · have e2 : (h.maxH != 0) = false := by simp [c2]
        clear c2
        go_wp2_with fail
        go_meet
        exact ⟨rfl, rfl⟩
      · have e2 : (h.maxH != 0) = true := by simp [c2]
        have HM2 := Lib.hid (H8.out c2)
        clear c2
        go_wp2_with (go_at_call 68; ((with_reducible refine (HM2.out _).mono ?_); rintro e w1 ⟨rfl, rfl⟩); skip)
        go_meet
        exact ⟨rfl, rfl⟩
    · have e1 : (h.maxW != 0) = true := by simp [c1]
      have HM1 := Lib.hid (H7.out c1)
      clear c1
      by_cases c2 : h.maxH = 0
      · have e2 : (h.maxH != 0) = false := by simp [c2]
        clear c2
        go_wp2_with (go_at_call 68; ((with_reducible refine (HM1.out _).mono ?_); rintro e w1 ⟨rfl, rfl⟩); skip)
        go_meet
        exact ⟨rfl, rfl⟩
      · have e2 : (h.maxH != 0) = true := by simp [c2]
        have HM2 := Lib.hid (H8.out c2)
        clear c2
        go_wp2_with (first | (go_at_call 68; ((with_reducible refine (HM1.out _).mono ?_); rintro e w1 ⟨rfl, rfl⟩); skip) | (go_at_call 68; ((with_reducible refine (HM2.out _).mono ?_); rintro e w1 ⟨rfl, rfl⟩); skip))
        go_meet
        exact ⟨rfl, rfl⟩
  case rest =>
    obtain ⟨rfl, hwc⟩ := hcut
    subst hwc
    clear H1 H2 H3 H4 H5 H6 H7 H8
    by_cases z1 : h.lowX = 0
    · skip
      by_cases z2 : h.lowY = 0
      · skip
        by_cases z3 : h.highX = 0
        · skip
          by_cases z4 : h.highY = 0
          · skip
            have E : z = true := by rw [← HZZ.out]; simp [z1, z2, z3, z4]
            subst E
            have e1 : (h.lowX == 0) = true := by simp [z1]
            have e2 : (h.lowY == 0) = true := by simp [z2]
            have e3 : (h.highX == 0) = true := by simp [z3]
            have e4 : (h.highY == 0) = true := by simp [z4]
            clear z1 z2 z3 z4
            go_wp2_with fail
            go_ret
            exact ⟨rfl, W0⟩
          · have E0 : b1 = false := by rw [← HB1.out, z1]; rfl
            subst E0
            have E : z = false := by rw [← HZZ.out]; simp [z4]
            subst E
            have e1 : (h.lowX == 0) = true := by simp [z1]
            have e2 : (h.lowY == 0) = true := by simp [z2]
            have e3 : (h.highX == 0) = true := by simp [z3]
            have e4 : (h.highY == 0) = false := by simp [z4]
            clear z1 z2 z3 z4
            go_wp2_with (go_at_call 68; ((with_reducible refine (K1.out _).mono ?_); rintro e w1 ⟨rfl, rfl⟩); skip)
            go_ret
            exact ⟨rfl, W0⟩
        · have E0 : b1 = false := by rw [← HB1.out, z1]; rfl
          subst E0
          have E : z = false := by rw [← HZZ.out]; simp [z3]
          subst E
          have e1 : (h.lowX == 0) = true := by simp [z1]
          have e2 : (h.lowY == 0) = true := by simp [z2]
          have e3 : (h.highX == 0) = false := by simp [z3]
          clear z1 z2 z3
          go_wp2_with (go_at_call 68; ((with_reducible refine (K1.out _).mono ?_); rintro e w1 ⟨rfl, rfl⟩); skip)
          go_ret
          exact ⟨rfl, W0⟩
      · have E0 : b1 = false := by rw [← HB1.out, z1]; rfl
        subst E0
        have E : z = false := by rw [← HZZ.out]; simp [z2]
        subst E
        have e1 : (h.lowX == 0) = true := by simp [z1]
        have e2 : (h.lowY == 0) = false := by simp [z2]
        clear z1 z2
        go_wp2_with (go_at_call 68; ((with_reducible refine (K1.out _).mono ?_); rintro e w1 ⟨rfl, rfl⟩); skip)
        go_ret
        exact ⟨rfl, W0⟩
    · have e1 : (h.lowX == 0) = false := by simp [z1]
      cases b1
      · have E : z = false := by rw [← HZZ.out]; simp [z1]
        subst E
        clear z1
        go_wp2_with (first | (go_at_call 68; ((with_reducible refine (K1.out _).mono ?_); rintro e w1 ⟨rfl, rfl⟩); skip))
        go_ret
        exact ⟨rfl, W0⟩
      cases b2
      · have E : z = false := by rw [← HZZ.out]; simp [z1]
        subst E
        clear z1
        go_wp2_with (first | (go_at_call 68; ((with_reducible refine (K1.out _).mono ?_); rintro e w1 ⟨rfl, rfl⟩); skip) | (go_at_call 68; ((with_reducible refine (K2.out _).mono ?_); rintro e w1 ⟨rfl, rfl⟩); skip))
        go_ret
        exact ⟨rfl, W0⟩
      cases b3
      · have E : z = false := by rw [← HZZ.out]; simp [z1]
        subst E
        clear z1
        go_wp2_with (first | (go_at_call 68; ((with_reducible refine (K1.out _).mono ?_); rintro e w1 ⟨rfl, rfl⟩); skip) | (go_at_call 68; ((with_reducible refine (K2.out _).mono ?_); rintro e w1 ⟨rfl, rfl⟩); skip) | (go_at_call 68; ((with_reducible refine (K3.out _).mono ?_); rintro e w1 ⟨rfl, rfl⟩); skip))
        go_ret
        exact ⟨rfl, W0⟩
      cases b4
      · have E : z = false := by rw [← HZZ.out]; simp [z1]
        subst E
        clear z1
        go_wp2_with (first | (go_at_call 68; ((with_reducible refine (K1.out _).mono ?_); rintro e w1 ⟨rfl, rfl⟩); skip) | (go_at_call 68; ((with_reducible refine (K2.out _).mono ?_); rintro e w1 ⟨rfl, rfl⟩); skip) | (go_at_call 68; ((with_reducible refine (K3.out _).mono ?_); rintro e w1 ⟨rfl, rfl⟩); skip) | (go_at_call 68; ((with_reducible refine (K4.out _).mono ?_); rintro e w1 ⟨rfl, rfl⟩); skip))
        go_ret
        exact ⟨rfl, W0⟩
      have r1 := of_decide_eq_true HB1.out
      have r2 := of_decide_eq_true HB2.out
      have r3 := of_decide_eq_true HB3.out
      have r4 := of_decide_eq_true HB4.out
      have p1 := mul_b (by omega : 0 ≤ h.lowX) r1.2 (by omega : 0 ≤ h.highY) r4.2
      have p2 := mul_b (by omega : 0 ≤ h.highX) r3.2 (by omega : 0 ≤ h.lowY) r2.2
      have E : z = decide (h.lowX * h.highY ≤ h.highX * h.lowY) := by rw [← HZZ.out]; simp [z1]
      obtain ⟨P, hP⟩ : ∃ P, h.lowX * h.highY = P := ⟨_, rfl⟩
      obtain ⟨Q, hQ⟩ : ∃ Q, h.highX * h.lowY = Q := ⟨_, rfl⟩
      rw [hP] at p1; rw [hQ] at p2
      rw [hP, hQ] at E
      have f1 : IntKind.i64.wrap P = P := IntWalk.i64_in _ (by omega)
      have f2 : IntKind.i64.wrap Q = Q := IntWalk.i64_in _ (by omega)
      have HE := Lib.hid E
      clear z1 r1 r2 r3 r4 p1 p2 E HZZ HB1 HB2 HB3 HB4
      go_wp2_with (first | (go_at_call 68; ((with_reducible refine (K1.out _).mono ?_); rintro e w1 ⟨rfl, rfl⟩); skip) | (go_at_call 68; ((with_reducible refine (K2.out _).mono ?_); rintro e w1 ⟨rfl, rfl⟩); skip) | (go_at_call 68; ((with_reducible refine (K3.out _).mono ?_); rintro e w1 ⟨rfl, rfl⟩); skip) | (go_at_call 68; ((with_reducible refine (K4.out _).mono ?_); rintro e w1 ⟨rfl, rfl⟩); skip))
      go_ret
      exact ⟨ret_bool HE.out.symm, W0⟩
end Sz
end Go.Proofs.Ytdmoncpeoaoppaa
