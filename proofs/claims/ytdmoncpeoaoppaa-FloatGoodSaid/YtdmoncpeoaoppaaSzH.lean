/- Hints in the code: oneWay, aspect, free, bounded. -/
import Derived.Test.YtdmoncpeoaoppaaSzD
import Derived.Deep.DeepCutAuto
namespace Go.Proofs.Ytdmoncpeoaoppaa
open Go.RowKit
namespace Sz
theorem oneWay_c (l m b i : Int) (w : World) : Calls Try.prog 84 #[.int .i64 l, .int .i64 m, .int .i64 b, .int .i64 i] w fun e w' => e = .returned (.tuple #[.int .i64 (spanI l 1 65535), .int .i64 (oneM (spanI l 1 65535) m), .int .i64 (spanI b 0 65535), .int .i64 (spanI i 1 65535)]) ∧ w = w' := by
  obtain ⟨l', hl⟩ : ∃ x, spanI l 1 65535 = x := ⟨_, rfl⟩
  by_cases h : 0 < m
  · have h1 : max m 0 = m := by omega
    have E : oneM l' m = spanI m l' 65535 := by unfold oneM; rw [h1, if_pos h]
    rw [hl, E]; clear E h1
    go_enter Try.func84, Try.ntmps84
    go_wp2_with (go_at_call 60; ((with_reducible refine (span_c _ _ _ _).mono ?_); rintro e w1 ⟨rfl, rfl⟩); (try rw [hl]))
    exact bodyPost_ret (v := .tuple #[.int .i64 l', .int .i64 (spanI m l' 65535), .int .i64 (spanI b 0 65535), .int .i64 (spanI i 1 65535)]) (by simp [results, Try.results84, go_sem]) rfl ⟨rfl, rfl⟩
  · have h1 : max m 0 = 0 := by omega
    have E : oneM l' m = 0 := by unfold oneM; rw [h1]; rfl
    rw [hl, E]; clear E h1
    by_cases hz : m = 0
    · subst hz
      go_enter Try.func84, Try.ntmps84
      go_wp2_with (go_at_call 60; ((with_reducible refine (span_c _ _ _ _).mono ?_); rintro e w1 ⟨rfl, rfl⟩); (try rw [hl]))
      exact bodyPost_ret (v := .tuple #[.int .i64 l', .int .i64 0, .int .i64 (spanI b 0 65535), .int .i64 (spanI i 1 65535)]) (by simp [results, Try.results84, go_sem]) rfl ⟨rfl, rfl⟩
    · have hm : m < 0 := by omega
      go_enter Try.func84, Try.ntmps84
      go_wp2_with (go_at_call 60; ((with_reducible refine (span_c _ _ _ _).mono ?_); rintro e w1 ⟨rfl, rfl⟩); (try rw [hl]))
      exact bodyPost_ret (v := .tuple #[.int .i64 l', .int .i64 0, .int .i64 (spanI b 0 65535), .int .i64 (spanI i 1 65535)]) (by simp [results, Try.results84, go_sem]) rfl ⟨rfl, rfl⟩
theorem free_c (h : Hn) (w : World) : Calls Try.prog 74 #[.agg #[.int .i64 h.minW, .int .i64 h.minH, .int .i64 h.maxW, .int .i64 h.maxH, .int .i64 h.baseW, .int .i64 h.baseH, .int .i64 h.incW, .int .i64 h.incH, .int .i64 h.lowX, .int .i64 h.lowY, .int .i64 h.highX, .int .i64 h.highY]] w fun e w' => e = .returned (.agg #[.int .i64 (freeH h).minW, .int .i64 (freeH h).minH, .int .i64 (freeH h).maxW, .int .i64 (freeH h).maxH, .int .i64 (freeH h).baseW, .int .i64 (freeH h).baseH, .int .i64 (freeH h).incW, .int .i64 (freeH h).incH, .int .i64 (freeH h).lowX, .int .i64 (freeH h).lowY, .int .i64 (freeH h).highX, .int .i64 (freeH h).highY]) ∧ Below w.heap.size w w' := by
  go_enter Try.func74, Try.ntmps74
  go_wp2
  go_returns
  exact ⟨rfl, by repeat' (first | (with_reducible exact Below.refl _ _) | (with_reducible assumption) | (with_reducible refine Below.alloc ?_ ?_ _) | (with_reducible refine Below.drew ?_) | (with_reducible refine Below.setCell ?_ ?_ _) | (with_reducible refine Below.on (by with_reducible assumption) ?_ ?_) | go_size)⟩
def okI (n : Int) : Bool := decide (n = spanI n 1 65535)
theorem okI_iff (n : Int) : okI n = true ↔ 1 ≤ n ∧ n ≤ 65535 := by
  unfold okI; rw [decide_eq_true_iff]; unfold spanI; omega
theorem aspB_of {a b c d : Int} (h1 : okI a = true) (h2 : okI b = true) (h3 : okI c = true) (h4 : okI d = true) : aspB a b c d = decide (a * d ≤ c * b) := by
  rw [okI_iff] at *
  unfold aspB; rw [Bool.eq_iff_iff, decide_eq_true_iff, decide_eq_true_iff]
  exact ⟨fun h => h.2.2.2.2.2.2.2.2, fun h => ⟨h1.1, h1.2, h2.1, h2.2, h3.1, h3.2, h4.1, h4.2, h⟩⟩
theorem aspB_no {a b c d : Int} (h : ¬ (okI a = true ∧ okI b = true ∧ okI c = true ∧ okI d = true)) : aspB a b c d = false := by
  rw [← Bool.not_eq_true, aspB_iff]
  intro k; apply h
  rw [okI_iff, okI_iff, okI_iff, okI_iff]
  exact ⟨⟨k.a1, k.a2⟩, ⟨k.b1, k.b2⟩, ⟨k.c1, k.c2⟩, ⟨k.d1, k.d2⟩⟩
theorem okI_neq (n : Int) : (n != spanI n 1 65535) = !okI n := by
  unfold okI
  by_cases h : n = spanI n 1 65535
  · rw [decide_eq_true h, bne, beq_iff_eq.2 h]
  · rw [decide_eq_false h, bne, beq_eq_false_iff_ne.2 h]
set_option maxHeartbeats 2000000 in
theorem aspect_c (h : Hn) (w : World) : Calls Try.prog 85 #[.agg #[.int .i64 h.minW, .int .i64 h.minH, .int .i64 h.maxW, .int .i64 h.maxH, .int .i64 h.baseW, .int .i64 h.baseH, .int .i64 h.incW, .int .i64 h.incH, .int .i64 h.lowX, .int .i64 h.lowY, .int .i64 h.highX, .int .i64 h.highY]] w fun e w' => e = .returned (.bool (aspB h.lowX h.lowY h.highX h.highY)) ∧ Below w.heap.size w w' := by
  have A0 := HB.new w h
  have W0 : Below w.heap.size w (w.alloc (.cells (#[.int .i64 h.minW, .int .i64 h.minH, .int .i64 h.maxW, .int .i64 h.maxH, .int .i64 h.baseW, .int .i64 h.baseH, .int .i64 h.incW, .int .i64 h.incH, .int .i64 h.lowX, .int .i64 h.lowY, .int .i64 h.highX, .int .i64 h.highY]) 25)) := by repeat' (first | (with_reducible exact Below.refl _ _) | (with_reducible assumption) | (with_reducible refine Below.alloc ?_ ?_ _) | (with_reducible refine Below.drew ?_) | (with_reducible refine Below.setCell ?_ ?_ _) | (with_reducible refine Below.on (by with_reducible assumption) ?_ ?_) | go_size)
  have n1 := okI_neq h.lowX
  have n2 := okI_neq h.lowY
  have n3 := okI_neq h.highX
  have n4 := okI_neq h.highY
  have HN := Lib.hid (aspB_no (a := h.lowX) (b := h.lowY) (c := h.highX) (d := h.highY))
  have HY := Lib.hid (fun a b c d => aspB_of (a := h.lowX) (b := h.lowY) (c := h.highX) (d := h.highY) a b c d)
  have HO := Lib.hid okI_iff
  have i0 : ∀ w : World, (Instr.index 85 (.agg #[.int .i64 h.lowX, .int .i64 h.lowY, .int .i64 h.highX, .int .i64 h.highY]) (.int .i64 0)).run Try.prog w = .ok (.int .i64 h.lowX) w := fun _ => rfl
  have i1 : ∀ w : World, (Instr.index 85 (.agg #[.int .i64 h.lowX, .int .i64 h.lowY, .int .i64 h.highX, .int .i64 h.highY]) (.int .i64 1)).run Try.prog w = .ok (.int .i64 h.lowY) w := fun _ => rfl
  have i2 : ∀ w : World, (Instr.index 85 (.agg #[.int .i64 h.lowX, .int .i64 h.lowY, .int .i64 h.highX, .int .i64 h.highY]) (.int .i64 2)).run Try.prog w = .ok (.int .i64 h.highX) w := fun _ => rfl
  have i3 : ∀ w : World, (Instr.index 85 (.agg #[.int .i64 h.lowX, .int .i64 h.lowY, .int .i64 h.highX, .int .i64 h.highY]) (.int .i64 3)).run Try.prog w = .ok (.int .i64 h.highY) w := fun _ => rfl
  go_enter Try.func85, Try.ntmps85
  go_wp2_with fail
  generalize w.alloc (.cells (#[.int .i64 h.minW, .int .i64 h.minH, .int .i64 h.maxW, .int .i64 h.maxH, .int .i64 h.baseW, .int .i64 h.baseH, .int .i64 h.incW, .int .i64 h.incH, .int .i64 h.lowX, .int .i64 h.lowY, .int .i64 h.highX, .int .i64 h.highY]) 25) = w1 at *
  obtain ⟨⟨k0, k1, k2, k3, k4, k5, k6, k7, k8, k9, k10, k11⟩, ⟨kf0, kf1, kf2, kf3, kf4, kf5, kf6, kf7, kf8, kf9, kf10, kf11⟩⟩ := A0.out
  go_loopw [14] (fun z wr => wr = w1 ∧ (z = .int .i64 0 ∨ (z = .int .i64 1 ∧ okI h.lowX = true) ∨ (z = .int .i64 2 ∧ okI h.lowX = true ∧ okI h.lowY = true) ∨ (z = .int .i64 3 ∧ okI h.lowX = true ∧ okI h.lowY = true ∧ okI h.highX = true) ∨ (z = .int .i64 4 ∧ okI h.lowX = true ∧ okI h.lowY = true ∧ okI h.highX = true ∧ okI h.highY = true))) (fun z _ => 4 - (intOf z).toNat)
  case atStart => exact ⟨rfl, .inl rfl⟩
  case round =>
    obtain ⟨rfl, rfl | ⟨rfl, o1⟩ | ⟨rfl, o1, o2⟩ | ⟨rfl, o1, o2, o3⟩ | ⟨rfl, o1, o2, o3, o4⟩⟩ := hrel
    · by_cases o : okI h.lowX = true
      · go_wp2_with (go_at_call 60; ((with_reducible refine (span_c _ _ _ _).mono ?_); rintro e w2 ⟨rfl, rfl⟩); skip)
        exact ⟨⟨trivial, .inr (.inl ⟨rfl, o⟩)⟩, by simp [intOf]⟩
      · have HF := Lib.hid (HN.out (fun k => o k.1))
        have o := Bool.eq_false_iff.2 o
        go_wp2_with (go_at_call 60; ((with_reducible refine (span_c _ _ _ _).mono ?_); rintro e w2 ⟨rfl, rfl⟩); skip)
        go_ret
        exact ⟨ret_bool HF.out.symm, W0⟩
    · by_cases o : okI h.lowY = true
      · go_wp2_with (go_at_call 60; ((with_reducible refine (span_c _ _ _ _).mono ?_); rintro e w2 ⟨rfl, rfl⟩); skip)
        exact ⟨⟨trivial, .inr (.inr (.inl ⟨rfl, o1, o⟩))⟩, by simp [intOf]⟩
      · have HF := Lib.hid (HN.out (fun k => o k.2.1))
        have o := Bool.eq_false_iff.2 o
        go_wp2_with (go_at_call 60; ((with_reducible refine (span_c _ _ _ _).mono ?_); rintro e w2 ⟨rfl, rfl⟩); skip)
        go_ret
        exact ⟨ret_bool HF.out.symm, W0⟩
    · by_cases o : okI h.highX = true
      · go_wp2_with (go_at_call 60; ((with_reducible refine (span_c _ _ _ _).mono ?_); rintro e w2 ⟨rfl, rfl⟩); skip)
        exact ⟨⟨trivial, .inr (.inr (.inr (.inl ⟨rfl, o1, o2, o⟩)))⟩, by simp [intOf]⟩
      · have HF := Lib.hid (HN.out (fun k => o k.2.2.1))
        have o := Bool.eq_false_iff.2 o
        go_wp2_with (go_at_call 60; ((with_reducible refine (span_c _ _ _ _).mono ?_); rintro e w2 ⟨rfl, rfl⟩); skip)
        go_ret
        exact ⟨ret_bool HF.out.symm, W0⟩
    · by_cases o : okI h.highY = true
      · go_wp2_with (go_at_call 60; ((with_reducible refine (span_c _ _ _ _).mono ?_); rintro e w2 ⟨rfl, rfl⟩); skip)
        exact ⟨⟨trivial, .inr (.inr (.inr (.inr ⟨rfl, o1, o2, o3, o⟩)))⟩, by simp [intOf]⟩
      · have HF := Lib.hid (HN.out (fun k => o k.2.2.2))
        have o := Bool.eq_false_iff.2 o
        go_wp2_with (go_at_call 60; ((with_reducible refine (span_c _ _ _ _).mono ?_); rintro e w2 ⟨rfl, rfl⟩); skip)
        go_ret
        exact ⟨ret_bool HF.out.symm, W0⟩
    · have HE := Lib.hid (HY.out o1 o2 o3 o4)
      rw [HO.out] at o1 o2 o3 o4
      have p1 := mul_b (a := h.lowX) (b := h.highY) (by omega) o1.2 (by omega) o4.2
      have p2 := mul_b (a := h.highX) (b := h.lowY) (by omega) o3.2 (by omega) o2.2
      obtain ⟨P, hP⟩ : ∃ P, h.lowX * h.highY = P := ⟨_, rfl⟩
      obtain ⟨Q, hQ⟩ : ∃ Q, h.highX * h.lowY = Q := ⟨_, rfl⟩
      rw [hP] at p1 HE; rw [hQ] at p2 HE
      have f1 : IntKind.i64.wrap P = P := IntWalk.i64_in _ (by omega)
      have f2 : IntKind.i64.wrap Q = Q := IntWalk.i64_in _ (by omega)
      clear p1 p2 o1 o2 o3 o4
      go_wp2_with fail
      go_ret
      exact ⟨ret_bool HE.out.symm, W0⟩
theorem bounded_at (h : Hn) : bounded h = if aspB h.lowX h.lowY h.highX h.highY = true then waysH h else freeH (waysH h) := rfl
set_option maxHeartbeats 2000000 in
theorem bounded_c (h : Hn) (w : World) : Calls Try.prog 72 #[.agg #[.int .i64 h.minW, .int .i64 h.minH, .int .i64 h.maxW, .int .i64 h.maxH, .int .i64 h.baseW, .int .i64 h.baseH, .int .i64 h.incW, .int .i64 h.incH, .int .i64 h.lowX, .int .i64 h.lowY, .int .i64 h.highX, .int .i64 h.highY]] w fun e w' => e = .returned (.agg #[.int .i64 (bounded h).minW, .int .i64 (bounded h).minH, .int .i64 (bounded h).maxW, .int .i64 (bounded h).maxH, .int .i64 (bounded h).baseW, .int .i64 (bounded h).baseH, .int .i64 (bounded h).incW, .int .i64 (bounded h).incH, .int .i64 (bounded h).lowX, .int .i64 (bounded h).lowY, .int .i64 (bounded h).highX, .int .i64 (bounded h).highY]) ∧ Below w.heap.size w w' := by
  obtain ⟨k, hk⟩ : ∃ k, bounded h = k := ⟨_, rfl⟩
  obtain ⟨y, hy⟩ : ∃ y, waysH h = y := ⟨_, rfl⟩
  have e1 : spanI h.minW 1 65535 = y.minW := by rw [← hy]; rfl
  have e2 : spanI h.minH 1 65535 = y.minH := by rw [← hy]; rfl
  have e3 : oneM (spanI h.minW 1 65535) h.maxW = y.maxW := by rw [← hy]; rfl
  have e4 : oneM (spanI h.minH 1 65535) h.maxH = y.maxH := by rw [← hy]; rfl
  have e5 : spanI h.baseW 0 65535 = y.baseW := by rw [← hy]; rfl
  have e6 : spanI h.baseH 0 65535 = y.baseH := by rw [← hy]; rfl
  have e7 : spanI h.incW 1 65535 = y.incW := by rw [← hy]; rfl
  have e8 : spanI h.incH 1 65535 = y.incH := by rw [← hy]; rfl
  have e9 : h.lowX = y.lowX := by rw [← hy]; rfl
  have e10 : h.lowY = y.lowY := by rw [← hy]; rfl
  have e11 : h.highX = y.highX := by rw [← hy]; rfl
  have e12 : h.highY = y.highY := by rw [← hy]; rfl
  have HW := Lib.hid (fun W : World => oneWay_c h.minW h.maxW h.baseW h.incW W)
  have HT := Lib.hid (fun W : World => oneWay_c h.minH h.maxH h.baseH h.incH W)
  rw [e3, e1, e5, e7] at HW
  rw [e4, e2, e6, e8] at HT
  have HA := Lib.hid (fun W : World => aspect_c y W)
  have HF := Lib.hid (fun W : World => free_c y W)
  have hb := bounded_at h
  rw [hk, hy, e9, e10, e11, e12] at hb
  rw [hk]
  clear hk hy
  go_enter Try.func72, Try.ntmps72
  go_upto_region 3 with (first | (go_at_call 84; ((with_reducible refine (HW.out _).mono ?_); rintro e w1 ⟨rfl, rfl⟩); skip) | (go_at_call 84; ((with_reducible refine (HT.out _).mono ?_); rintro e w1 ⟨rfl, rfl⟩); skip))
  have A1 := (HB.new w y).alloc (.cells #[.int .i64 0, .int .i64 0, .int .i64 0, .int .i64 0, .int .i64 0, .int .i64 0, .int .i64 0, .int .i64 0, .int .i64 0, .int .i64 0, .int .i64 0, .int .i64 0] 25)
  have A2 := HB.zero (w.alloc (.cells (#[.int .i64 y.minW, .int .i64 y.minH, .int .i64 y.maxW, .int .i64 y.maxH, .int .i64 y.baseW, .int .i64 y.baseH, .int .i64 y.incW, .int .i64 y.incH, .int .i64 y.lowX, .int .i64 y.lowY, .int .i64 y.highX, .int .i64 y.highY]) 25))
  simp only [World.size_alloc] at A2
  have W1 : Below w.heap.size w ((w.alloc (.cells (#[.int .i64 y.minW, .int .i64 y.minH, .int .i64 y.maxW, .int .i64 y.maxH, .int .i64 y.baseW, .int .i64 y.baseH, .int .i64 y.incW, .int .i64 y.incH, .int .i64 y.lowX, .int .i64 y.lowY, .int .i64 y.highX, .int .i64 y.highY]) 25)).alloc (.cells #[.int .i64 0, .int .i64 0, .int .i64 0, .int .i64 0, .int .i64 0, .int .i64 0, .int .i64 0, .int .i64 0, .int .i64 0, .int .i64 0, .int .i64 0, .int .i64 0] 25)) := by repeat' (first | (with_reducible exact Below.refl _ _) | (with_reducible assumption) | (with_reducible refine Below.alloc ?_ ?_ _) | (with_reducible refine Below.drew ?_) | (with_reducible refine Below.setCell ?_ ?_ _) | (with_reducible refine Below.on (by with_reducible assumption) ?_ ?_) | go_size)
  clear e1 e2 e3 e4 e5 e6 e7 e8 e9 e10 e11 e12 HW HT
  generalize (w.alloc (.cells (#[.int .i64 y.minW, .int .i64 y.minH, .int .i64 y.maxW, .int .i64 y.maxH, .int .i64 y.baseW, .int .i64 y.baseH, .int .i64 y.incW, .int .i64 y.incH, .int .i64 y.lowX, .int .i64 y.lowY, .int .i64 y.highX, .int .i64 y.highY]) 25)).alloc (.cells #[.int .i64 0, .int .i64 0, .int .i64 0, .int .i64 0, .int .i64 0, .int .i64 0, .int .i64 0, .int .i64 0, .int .i64 0, .int .i64 0, .int .i64 0, .int .i64 0] 25) = w1 at *
  obtain ⟨⟨a0, a1, a2, a3, a4, a5, a6, a7, a8, a9, a10, a11⟩, ⟨af0, af1, af2, af3, af4, af5, af6, af7, af8, af9, af10, af11⟩⟩ := A1.out
  by_cases hs : aspB y.lowX y.lowY y.highX y.highY = true
  · have E : k = y := by rw [hb, if_pos hs]
    subst E
    clear hb
    go_upto_region 5 with (go_at_call 85; ((with_reducible refine (HA.out _).mono ?_); rintro e w2 ⟨rfl, hb2⟩); have B1 := A1.next hb2; have B2 := A2.next hb2; have W2 := bnext W1 hb2 W1.size; clear a0 a1 a2 a3 a4 a5 a6 a7 a8 a9 a10 a11)
    obtain ⟨⟨k0, k1, k2, k3, k4, k5, k6, k7, k8, k9, k10, k11⟩, ⟨kf0, kf1, kf2, kf3, kf4, kf5, kf6, kf7, kf8, kf9, kf10, kf11⟩⟩ := B1.out
    obtain ⟨⟨c0, c1, c2, c3, c4, c5, c6, c7, c8, c9, c10, c11⟩, ⟨cf0, cf1, cf2, cf3, cf4, cf5, cf6, cf7, cf8, cf9, cf10, cf11⟩⟩ := B2.out
    go_wp2_with fail
    exact bodyPost_ret (v := .agg #[.int .i64 k.minW, .int .i64 k.minH, .int .i64 k.maxW, .int .i64 k.maxH, .int .i64 k.baseW, .int .i64 k.baseH, .int .i64 k.incW, .int .i64 k.incH, .int .i64 k.lowX, .int .i64 k.lowY, .int .i64 k.highX, .int .i64 k.highY]) (by simp [results, Try.results72, go_sem, c0, c1, c2, c3, c4, c5, c6, c7, c8, c9, c10, c11]) rfl ⟨rfl, by repeat' (first | (with_reducible exact Below.refl _ _) | (with_reducible assumption) | (with_reducible refine Below.alloc ?_ ?_ _) | (with_reducible refine Below.drew ?_) | (with_reducible refine Below.setCell ?_ ?_ _) | (with_reducible refine Below.on (by with_reducible assumption) ?_ ?_) | go_size)⟩
  · have hs := Bool.eq_false_iff.2 hs
    have E : k = freeH y := by rw [hb, hs]; rfl
    rw [← E] at HF
    clear hb E
    have ne : w.heap.size + 1 ≠ w.heap.size := by omega
    go_upto_region 5 with first
      | (go_at_call 85; ((with_reducible refine (HA.out _).mono ?_); rintro e w2 ⟨rfl, hb2⟩); have B1 := A1.next hb2; have B2 := A2.next hb2; have W2 := bnext W1 hb2 W1.size; clear a0 a1 a2 a3 a4 a5 a6 a7 a8 a9 a10 a11; obtain ⟨⟨k0, k1, k2, k3, k4, k5, k6, k7, k8, k9, k10, k11⟩, ⟨kf0, kf1, kf2, kf3, kf4, kf5, kf6, kf7, kf8, kf9, kf10, kf11⟩⟩ := B1.out)
      | (go_at_call 74; ((with_reducible refine (HF.out _).mono ?_); rintro e w3 ⟨rfl, hb3⟩); have C1 := B1.next hb3; have C2 := B2.next hb3; have W3 := bnext W2 hb3 W2.size; clear k0 k1 k2 k3 k4 k5 k6 k7 k8 k9 k10 k11; obtain ⟨⟨k0, k1, k2, k3, k4, k5, k6, k7, k8, k9, k10, k11⟩, ⟨kf0, kf1, kf2, kf3, kf4, kf5, kf6, kf7, kf8, kf9, kf10, kf11⟩⟩ := C1.out)
    have D1 := C1.put12 k
    have D2 := C2.far12 ne k
    have W4 := below_set12 W3 (Nat.le_refl _) k
    clear k0 k1 k2 k3 k4 k5 k6 k7 k8 k9 k10 k11 kf0 kf1 kf2 kf3 kf4 kf5 kf6 kf7 kf8 kf9 kf10 kf11
    generalize (World.setCell (World.setCell (World.setCell (World.setCell (World.setCell (World.setCell (World.setCell (World.setCell (World.setCell (World.setCell (World.setCell (World.setCell w3 ⟨w.heap.size, 0, none⟩ (.int .i64 k.minW)) ⟨w.heap.size, 1, none⟩ (.int .i64 k.minH)) ⟨w.heap.size, 2, none⟩ (.int .i64 k.maxW)) ⟨w.heap.size, 3, none⟩ (.int .i64 k.maxH)) ⟨w.heap.size, 4, none⟩ (.int .i64 k.baseW)) ⟨w.heap.size, 5, none⟩ (.int .i64 k.baseH)) ⟨w.heap.size, 6, none⟩ (.int .i64 k.incW)) ⟨w.heap.size, 7, none⟩ (.int .i64 k.incH)) ⟨w.heap.size, 8, none⟩ (.int .i64 k.lowX)) ⟨w.heap.size, 9, none⟩ (.int .i64 k.lowY)) ⟨w.heap.size, 10, none⟩ (.int .i64 k.highX)) ⟨w.heap.size, 11, none⟩ (.int .i64 k.highY)) = w4 at *
    obtain ⟨⟨k0, k1, k2, k3, k4, k5, k6, k7, k8, k9, k10, k11⟩, ⟨kf0, kf1, kf2, kf3, kf4, kf5, kf6, kf7, kf8, kf9, kf10, kf11⟩⟩ := D1.out
    obtain ⟨⟨c0, c1, c2, c3, c4, c5, c6, c7, c8, c9, c10, c11⟩, ⟨cf0, cf1, cf2, cf3, cf4, cf5, cf6, cf7, cf8, cf9, cf10, cf11⟩⟩ := D2.out
    go_wp2_with fail
    exact bodyPost_ret (v := .agg #[.int .i64 k.minW, .int .i64 k.minH, .int .i64 k.maxW, .int .i64 k.maxH, .int .i64 k.baseW, .int .i64 k.baseH, .int .i64 k.incW, .int .i64 k.incH, .int .i64 k.lowX, .int .i64 k.lowY, .int .i64 k.highX, .int .i64 k.highY]) (by simp [results, Try.results72, go_sem, c0, c1, c2, c3, c4, c5, c6, c7, c8, c9, c10, c11]) rfl ⟨rfl, by repeat' (first | (with_reducible exact Below.refl _ _) | (with_reducible assumption) | (with_reducible refine Below.alloc ?_ ?_ _) | (with_reducible refine Below.drew ?_) | (with_reducible refine Below.setCell ?_ ?_ _) | (with_reducible refine Below.on (by with_reducible assumption) ?_ ?_) | go_size)⟩
end Sz
end Go.Proofs.Ytdmoncpeoaoppaa
