/- The document's height, walked: each way through it (wip/gensx.py). -/
import Derived.Test.YtdmoncpeoaoppaaSzS
import Derived.BigQuiet
import Derived.Deep.DeepCutAuto
namespace Go.Proofs.Ytdmoncpeoaoppaa
open Go.RowKit
namespace Sz
theorem tall_l (h : Hn) : (tallS h).l = max h.minH h.baseH := rfl
theorem tall_m (h : Hn) : (tallS h).m = mx h.maxH := rfl
theorem mx_zero {m : Int} (h : m = 0) : mx m = 65535 := by unfold mx; rw [if_pos h]
theorem mx_other {m : Int} (h : m ≠ 0) : mx m = m := by unfold mx; rw [if_neg h]
theorem height_b' (h : Hn) (x : Int) : (heightsS h x).b = h.baseH ∧ (heightsS h x).i = h.incH := by unfold heightsS; split <;> exact ⟨rfl, rfl⟩
set_option maxHeartbeats 4000000 in
theorem height_a (h : Hn) (hb : Bd h) (hm : h.maxH = 0) (hl : h.minH < h.baseH) (x t : Int) (x1 : 0 ≤ x) (x2 : x ≤ 65535) (t1 : 0 ≤ t) (t2 : t ≤ 65535) (w : World) : Calls Try.prog 69 #[.agg #[.int .i64 h.minW, .int .i64 h.minH, .int .i64 h.maxW, .int .i64 h.maxH, .int .i64 h.baseW, .int .i64 h.baseH, .int .i64 h.incW, .int .i64 h.incH, .int .i64 h.lowX, .int .i64 h.lowY, .int .i64 h.highX, .int .i64 h.highY], .int .i64 x, .int .i64 t] w fun e w' => ∃ y, e = .returned (.int .i64 y) ∧ HtP h x t y ∧ Below w.heap.size w w' := by
  have eM : (tallS h).m = 65535 := by rw [tall_m, mx_zero hm]
  have eL : (tallS h).l = h.baseH := by rw [tall_l]; omega
  have okH := heights_ok hb x1 x2
  have hlm := tall_b hb
  rw [eM, eL] at hlm
  obtain ⟨hB, hI⟩ := height_b' h x
  have hl1 : 1 ≤ (heightsS h x).l := by
    unfold heightsS; split
    · rw [eL]; omega
    · show 1 ≤ max (tallS h).l _
      rw [eL]; omega
  have HEND := Lib.hid (fun (lo hi : Int) (k : LH (heightsS h x) lo hi) (v : Int) (hv : endV lo hi h.baseH h.incH t = v) => (show HtP h x t v from by rw [← hv, ← hB, ← hI]; exact end_ht rfl okH.i1 hl1 k))
  have b0 := hb.t.b1
  have b2 := hb.t.b2
  have i0 := hb.t.i1
  have i2 := hb.t.i2
  have A0 := HB.new w h
  have W0 : Below w.heap.size w (w.alloc (.cells (#[.int .i64 h.minW, .int .i64 h.minH, .int .i64 h.maxW, .int .i64 h.maxH, .int .i64 h.baseW, .int .i64 h.baseH, .int .i64 h.incW, .int .i64 h.incH, .int .i64 h.lowX, .int .i64 h.lowY, .int .i64 h.highX, .int .i64 h.highY]) 25)) := by repeat' (first | (with_reducible exact Below.refl _ _) | (with_reducible assumption) | (with_reducible refine Below.alloc ?_ ?_ _) | (with_reducible refine Below.drew ?_) | (with_reducible refine Below.setCell ?_ ?_ _) | (with_reducible refine Below.on (by with_reducible assumption) ?_ ?_) | go_size)
  have W1 := Lib.hid W0
  have hm1 : (h.maxH == 0) = true := by simp [hm]
  clear hm
  by_cases h0 : h.lowX = 0
  · have HE := Lib.hid (HEND.out h.baseH 65535 (by have := tall_height h0 x; unfold LH at this ⊢; rw [← eM, ← eL]; exact this))
    have h1 : h.lowX ≤ 0 := by omega
    clear HEND hl1 hB hI okH eM eL h0 hb W0
    go_enter Try.func69, Try.ntmps69
    go_wp2_with fail
    generalize w.alloc (.cells (#[.int .i64 h.minW, .int .i64 h.minH, .int .i64 h.maxW, .int .i64 h.maxH, .int .i64 h.baseW, .int .i64 h.baseH, .int .i64 h.incW, .int .i64 h.incH, .int .i64 h.lowX, .int .i64 h.lowY, .int .i64 h.highX, .int .i64 h.highY]) 25) = w1 at *
    obtain ⟨⟨k0, k1, k2, k3, k4, k5, k6, k7, k8, k9, k10, k11⟩, ⟨kf0, kf1, kf2, kf3, kf4, kf5, kf6, kf7, kf8, kf9, kf10, kf11⟩⟩ := A0.out
    go_quiet (fail)
    go_upto_region 11 with fail
    have hr : (h.baseH - h.baseH) % h.incH = 0 := by simp
    · have EE : ∀ v, (if 65535 < h.baseH then 0 else if t < h.baseH then h.baseH else (if 65535 < t then 65535 else t) - ((if 65535 < t then 65535 else t) - h.baseH) % h.incH) = v → HtP h x t v := fun v hv => HE.out v (by unfold endV; rw [hr, if_pos rfl]; exact hv)
      have HEE := Lib.hid EE
      clear EE HE
      clear hr
      by_cases c1 : 65535 < h.baseH
      · try (exfalso; omega)
        all_goals ((have HF := Lib.hid (HEE.out _ (if_pos c1))); (clear HEE); (go_wp2_with fail); (go_ret); (exact ⟨_, rfl, HF.out, below_drewN W1.out _⟩))
      · by_cases c2 : t < h.baseH
        · try (exfalso; omega)
          all_goals ((have HF := Lib.hid (HEE.out _ ((if_neg c1).trans (if_pos c2)))); (clear HEE); (go_wp2_with fail); (go_ret); (exact ⟨_, rfl, HF.out, below_drewN W1.out _⟩))
        · by_cases c3 : 65535 < t
          · try (exfalso; omega)
            all_goals ((obtain ⟨r2, hr2⟩ : ∃ r2, (65535 - h.baseH) % h.incH = r2 := ⟨_, rfl⟩); (have q0 := Int.emod_nonneg (65535 - h.baseH) (by omega : h.incH ≠ 0)); (have q1 := Int.emod_lt_of_pos (65535 - h.baseH) (by omega : 0 < h.incH)); (rw [hr2] at q0 q1); (have g1 : IntKind.i64.wrap (65535 - h.baseH) = 65535 - h.baseH := IntWalk.i64_in _ (by omega)); (have g2 : IntKind.i64.wrap (65535 - r2) = 65535 - r2 := IntWalk.i64_in _ (by omega)); (have HF := Lib.hid (HEE.out (65535 - r2) (by rw [if_neg c1, if_neg c2, if_pos c3, hr2]))); (clear HEE); (go_wp2_with fail); (go_ret); (exact ⟨_, rfl, HF.out, below_drewN W1.out _⟩))
          · try (exfalso; omega)
            all_goals ((obtain ⟨r2, hr2⟩ : ∃ r2, (t - h.baseH) % h.incH = r2 := ⟨_, rfl⟩); (have q0 := Int.emod_nonneg (t - h.baseH) (by omega : h.incH ≠ 0)); (have q1 := Int.emod_lt_of_pos (t - h.baseH) (by omega : 0 < h.incH)); (rw [hr2] at q0 q1); (have g1 : IntKind.i64.wrap (t - h.baseH) = t - h.baseH := IntWalk.i64_in _ (by omega)); (have g2 : IntKind.i64.wrap (t - r2) = t - r2 := IntWalk.i64_in _ (by omega)); (have HF := Lib.hid (HEE.out (t - r2) (by rw [if_neg c1, if_neg c2, if_neg c3, hr2]))); (clear HEE); (go_wp2_with fail); (go_ret); (exact ⟨_, rfl, HF.out, below_drewN W1.out _⟩))
  · have ha : Asp h.lowX h.lowY h.highX h.highY := hb.a.resolve_left (fun z => h0 z.1)
    have hmul1 := mul_b x1 x2 (by have := ha.d1; omega : 0 ≤ h.highY) ha.d2
    have hmul2 := mul_b x1 x2 (by have := ha.b1; omega : 0 ≤ h.lowY) ha.b2
    have hqq := q_b hmul2.1 hmul2.2 ha.a1
    obtain ⟨P, hP⟩ : ∃ P, x * h.highY = P := ⟨_, rfl⟩
    obtain ⟨Q, hQ⟩ : ∃ Q, x * h.lowY = Q := ⟨_, rfl⟩
    obtain ⟨q, hq⟩ : ∃ q, Q / h.lowX = q := ⟨_, rfl⟩
    rw [hP] at hmul1; rw [hQ] at hmul2; rw [hQ, hq] at hqq
    have h1 : 0 < h.lowX := by have := ha.a1; omega
    have h2 := ha.a2
    have h3 := ha.c1
    have h4 := ha.c2
    have f5 : IntKind.i64.wrap P = P := IntWalk.i64_in _ (by omega)
    have f6 : IntKind.i64.wrap Q = Q := IntWalk.i64_in _ (by omega)
    have R0 := Lib.hid (Rd.start ha x)
    rw [eL] at R0
    have HBD := Lib.hid hb
    have HAS := Lib.hid ha
    have HEM := Lib.hid eM
    have HEL := Lib.hid eL
    clear hl1 hB hI okH eM eL h0 hb W0 ha
    go_enter Try.func69, Try.ntmps69
    go_wp2_with fail
    generalize w.alloc (.cells (#[.int .i64 h.minW, .int .i64 h.minH, .int .i64 h.maxW, .int .i64 h.maxH, .int .i64 h.baseW, .int .i64 h.baseH, .int .i64 h.incW, .int .i64 h.incH, .int .i64 h.lowX, .int .i64 h.lowY, .int .i64 h.highX, .int .i64 h.highY]) 25) = w1 at *
    obtain ⟨⟨k0, k1, k2, k3, k4, k5, k6, k7, k8, k9, k10, k11⟩, ⟨kf0, kf1, kf2, kf3, kf4, kf5, kf6, kf7, kf8, kf9, kf10, kf11⟩⟩ := A0.out
    go_quiet (fail)
    go_wp2_with fail
    go_loopw [7] (fun z wr => ∃ lo nn, z = .int .i64 lo ∧ wr = w1.drewN nn ∧ Rd h x lo) (fun z _ => (4294836226 - intOf z).toNat)
    case atStart => exact ⟨_, _, rfl, rfl, R0.out⟩
    case round =>
      obtain ⟨lo, nn, rfl, rfl, hR⟩ := hrel
      have hb := HBD.out
      have ha := HAS.out
      have eM := HEM.out
      have eL := HEL.out
      have hlo : h.baseH ≤ lo ∧ lo ≤ 4294836225 := by
        have k1 := qUp_b hmul1.1 hmul1.2 h3
        have k2 := hlm.1
        rcases hR with hR | ⟨hR, -⟩ <;> (rw [eL] at hR; try rw [hP] at hR) <;> omega
      obtain ⟨lo1, lo2⟩ := hlo
      have hmul3 : 0 ≤ lo * h.highX ∧ lo * h.highX ≤ 4294836225 * 65535 := ⟨Int.mul_nonneg (by omega) (by omega), Int.mul_le_mul lo2 h4 (by omega) (by omega)⟩
      obtain ⟨p, hp⟩ : ∃ p, lo * h.highX = p := ⟨_, rfl⟩
      rw [hp] at hmul3
      have f7 : IntKind.i64.wrap p = p := IntWalk.i64_in _ (by omega)
      by_cases c1 : p < P
      · by_cases c2 : lo ≤ 65535
        · have hS := hR.step ha (by rw [hp, hP]; exact c1)
          have hle := hR.low ha (by rw [hp, hP]; exact c1)
          rw [eL] at hle
          have hru := round_up (a := P) (c := lo) h3
          have hqu := qUp_b hmul1.1 hmul1.2 h3
          rw [hp, hP] at hS
          rw [hp] at hru
          obtain ⟨D, hD⟩ : ∃ D, (P - p - 1) / h.highX = D := ⟨_, rfl⟩
          rw [hD] at hS hru
          have hD0 : 0 ≤ D := by rw [← hD]; exact Int.ediv_nonneg (by omega) (by omega)
          have HS := Lib.hid hS
          have g1 : IntKind.i64.wrap (P - p) = P - p := IntWalk.i64_in _ (by omega)
          have g2 : IntKind.i64.wrap (P - p - 1) = P - p - 1 := IntWalk.i64_in _ (by omega)
          have g5 : (P - p - 1).tdiv h.highX = D := by rw [td (by omega)]; exact hD
          have g6 : IntKind.i64.wrap D = D := IntWalk.i64_in _ (by omega)
          have g3 : IntKind.i64.wrap (lo + 1) = lo + 1 := IntWalk.i64_in _ (by omega)
          have g4 : IntKind.i64.wrap (lo + 1 + D) = lo + 1 + D := IntWalk.i64_in _ (by omega)
          have HRU := Lib.hid hru
          have HQU := Lib.hid hqu
          clear hS hR hru hqu hb ha eM eL HEND hle hmul3
          go_wp2_with fail
          refine ⟨⟨_, _, rfl, rfl, HS.out.1⟩, ?_⟩
          have := HS.out.2
          have := HRU.out
          have := HQU.out
          simp only [intOf]
          omega
        · have c2' : 65535 < lo := by omega
          have g0 : ¬ lo ≤ 65535 := c2
          have HLH := Lib.hid (hR.out hb ha (.inr (by rw [eM]; exact c2')))
          have HEQ := Lib.hid (fun hi (e : min 65535 q = hi) => HEND.out lo hi (by have k := HLH.out; rw [eM, hQ, hq, e] at k; exact k))
          clear hR HLH hb ha eM eL HEND
          by_cases c3 : q < 65535
          · have HE := Lib.hid (HEQ.out q (by omega))
            clear HEQ
            go_upto_region 11 with fail
            obtain ⟨r, hr⟩ : ∃ r, (lo - h.baseH) % h.incH = r := ⟨_, rfl⟩
            have r0 := Int.emod_nonneg (lo - h.baseH) (by omega : h.incH ≠ 0)
            have r1 := Int.emod_lt_of_pos (lo - h.baseH) (by omega : 0 < h.incH)
            rw [hr] at r0 r1
            have f1 : IntKind.i64.wrap (lo - h.baseH) = lo - h.baseH := IntWalk.i64_in _ (by omega)
            have f2 : IntKind.i64.wrap (lo + h.incH) = lo + h.incH := IntWalk.i64_in _ (by omega)
            have f3 : IntKind.i64.wrap (lo + h.incH - r) = lo + h.incH - r := IntWalk.i64_in _ (by omega)
            by_cases c0 : r = 0
            · have EE : ∀ v, (if q < lo then 0 else if t < lo then lo else (if q < t then q else t) - ((if q < t then q else t) - lo) % h.incH) = v → HtP h x t v := fun v hv => HE.out v (by unfold endV; rw [hr, if_pos c0]; exact hv)
              have HEE := Lib.hid EE
              clear EE HE
              subst c0
              by_cases c1 : q < lo
              · try (exfalso; omega)
                all_goals ((have HF := Lib.hid (HEE.out _ (if_pos c1))); (clear HEE); (go_wp2_with fail); (go_ret); (exact ⟨_, rfl, HF.out, below_drewN W1.out _⟩))
              · by_cases c2 : t < lo
                · try (exfalso; omega)
                  all_goals ((have HF := Lib.hid (HEE.out _ ((if_neg c1).trans (if_pos c2)))); (clear HEE); (go_wp2_with fail); (go_ret); (exact ⟨_, rfl, HF.out, below_drewN W1.out _⟩))
                · by_cases c3 : q < t
                  · try (exfalso; omega)
                    all_goals ((obtain ⟨r2, hr2⟩ : ∃ r2, (q - lo) % h.incH = r2 := ⟨_, rfl⟩); (have q0 := Int.emod_nonneg (q - lo) (by omega : h.incH ≠ 0)); (have q1 := Int.emod_lt_of_pos (q - lo) (by omega : 0 < h.incH)); (rw [hr2] at q0 q1); (have g1 : IntKind.i64.wrap (q - lo) = q - lo := IntWalk.i64_in _ (by omega)); (have g2 : IntKind.i64.wrap (q - r2) = q - r2 := IntWalk.i64_in _ (by omega)); (have HF := Lib.hid (HEE.out (q - r2) (by rw [if_neg c1, if_neg c2, if_pos c3, hr2]))); (clear HEE); (go_wp2_with fail); (go_ret); (exact ⟨_, rfl, HF.out, below_drewN W1.out _⟩))
                  · try (exfalso; omega)
                    all_goals ((obtain ⟨r2, hr2⟩ : ∃ r2, (t - lo) % h.incH = r2 := ⟨_, rfl⟩); (have q0 := Int.emod_nonneg (t - lo) (by omega : h.incH ≠ 0)); (have q1 := Int.emod_lt_of_pos (t - lo) (by omega : 0 < h.incH)); (rw [hr2] at q0 q1); (have g1 : IntKind.i64.wrap (t - lo) = t - lo := IntWalk.i64_in _ (by omega)); (have g2 : IntKind.i64.wrap (t - r2) = t - r2 := IntWalk.i64_in _ (by omega)); (have HF := Lib.hid (HEE.out (t - r2) (by rw [if_neg c1, if_neg c2, if_neg c3, hr2]))); (clear HEE); (go_wp2_with fail); (go_ret); (exact ⟨_, rfl, HF.out, below_drewN W1.out _⟩))
            · have EE : ∀ v, (if q < (lo + h.incH - r) then 0 else if t < (lo + h.incH - r) then (lo + h.incH - r) else (if q < t then q else t) - ((if q < t then q else t) - (lo + h.incH - r)) % h.incH) = v → HtP h x t v := fun v hv => HE.out v (by unfold endV; rw [hr, if_neg c0]; exact hv)
              have HEE := Lib.hid EE
              clear EE HE
              have c0n : ¬ r = 0 := c0
              by_cases c1 : q < (lo + h.incH - r)
              · try (exfalso; omega)
                all_goals ((have HF := Lib.hid (HEE.out _ (if_pos c1))); (clear HEE); (go_wp2_with fail); (go_quiet (fail)); (go_wp2_with fail); (go_ret); (exact ⟨_, rfl, HF.out, below_drewN W1.out _⟩))
              · by_cases c2 : t < (lo + h.incH - r)
                · try (exfalso; omega)
                  all_goals ((have HF := Lib.hid (HEE.out _ ((if_neg c1).trans (if_pos c2)))); (clear HEE); (go_wp2_with fail); (go_quiet (fail)); (go_wp2_with fail); (go_ret); (exact ⟨_, rfl, HF.out, below_drewN W1.out _⟩))
                · by_cases c3 : q < t
                  · try (exfalso; omega)
                    all_goals ((obtain ⟨r2, hr2⟩ : ∃ r2, (q - (lo + h.incH - r)) % h.incH = r2 := ⟨_, rfl⟩); (have q0 := Int.emod_nonneg (q - (lo + h.incH - r)) (by omega : h.incH ≠ 0)); (have q1 := Int.emod_lt_of_pos (q - (lo + h.incH - r)) (by omega : 0 < h.incH)); (rw [hr2] at q0 q1); (have g1 : IntKind.i64.wrap (q - (lo + h.incH - r)) = q - (lo + h.incH - r) := IntWalk.i64_in _ (by omega)); (have g2 : IntKind.i64.wrap (q - r2) = q - r2 := IntWalk.i64_in _ (by omega)); (have HF := Lib.hid (HEE.out (q - r2) (by rw [if_neg c1, if_neg c2, if_pos c3, hr2]))); (clear HEE); (go_wp2_with fail); (go_quiet (fail)); (go_wp2_with fail); (go_ret); (exact ⟨_, rfl, HF.out, below_drewN W1.out _⟩))
                  · try (exfalso; omega)
                    all_goals ((obtain ⟨r2, hr2⟩ : ∃ r2, (t - (lo + h.incH - r)) % h.incH = r2 := ⟨_, rfl⟩); (have q0 := Int.emod_nonneg (t - (lo + h.incH - r)) (by omega : h.incH ≠ 0)); (have q1 := Int.emod_lt_of_pos (t - (lo + h.incH - r)) (by omega : 0 < h.incH)); (rw [hr2] at q0 q1); (have g1 : IntKind.i64.wrap (t - (lo + h.incH - r)) = t - (lo + h.incH - r) := IntWalk.i64_in _ (by omega)); (have g2 : IntKind.i64.wrap (t - r2) = t - r2 := IntWalk.i64_in _ (by omega)); (have HF := Lib.hid (HEE.out (t - r2) (by rw [if_neg c1, if_neg c2, if_neg c3, hr2]))); (clear HEE); (go_wp2_with fail); (go_quiet (fail)); (go_wp2_with fail); (go_ret); (exact ⟨_, rfl, HF.out, below_drewN W1.out _⟩))
          · have HE := Lib.hid (HEQ.out 65535 (by omega))
            clear HEQ
            go_upto_region 11 with fail
            obtain ⟨r, hr⟩ : ∃ r, (lo - h.baseH) % h.incH = r := ⟨_, rfl⟩
            have r0 := Int.emod_nonneg (lo - h.baseH) (by omega : h.incH ≠ 0)
            have r1 := Int.emod_lt_of_pos (lo - h.baseH) (by omega : 0 < h.incH)
            rw [hr] at r0 r1
            have f1 : IntKind.i64.wrap (lo - h.baseH) = lo - h.baseH := IntWalk.i64_in _ (by omega)
            have f2 : IntKind.i64.wrap (lo + h.incH) = lo + h.incH := IntWalk.i64_in _ (by omega)
            have f3 : IntKind.i64.wrap (lo + h.incH - r) = lo + h.incH - r := IntWalk.i64_in _ (by omega)
            by_cases c0 : r = 0
            · have EE : ∀ v, (if 65535 < lo then 0 else if t < lo then lo else (if 65535 < t then 65535 else t) - ((if 65535 < t then 65535 else t) - lo) % h.incH) = v → HtP h x t v := fun v hv => HE.out v (by unfold endV; rw [hr, if_pos c0]; exact hv)
              have HEE := Lib.hid EE
              clear EE HE
              subst c0
              by_cases c1 : 65535 < lo
              · try (exfalso; omega)
                all_goals ((have HF := Lib.hid (HEE.out _ (if_pos c1))); (clear HEE); (go_wp2_with fail); (go_ret); (exact ⟨_, rfl, HF.out, below_drewN W1.out _⟩))
              · by_cases c2 : t < lo
                · try (exfalso; omega)
                  all_goals ((have HF := Lib.hid (HEE.out _ ((if_neg c1).trans (if_pos c2)))); (clear HEE); (go_wp2_with fail); (go_ret); (exact ⟨_, rfl, HF.out, below_drewN W1.out _⟩))
                · by_cases c3 : 65535 < t
                  · try (exfalso; omega)
                    all_goals ((obtain ⟨r2, hr2⟩ : ∃ r2, (65535 - lo) % h.incH = r2 := ⟨_, rfl⟩); (have q0 := Int.emod_nonneg (65535 - lo) (by omega : h.incH ≠ 0)); (have q1 := Int.emod_lt_of_pos (65535 - lo) (by omega : 0 < h.incH)); (rw [hr2] at q0 q1); (have g1 : IntKind.i64.wrap (65535 - lo) = 65535 - lo := IntWalk.i64_in _ (by omega)); (have g2 : IntKind.i64.wrap (65535 - r2) = 65535 - r2 := IntWalk.i64_in _ (by omega)); (have HF := Lib.hid (HEE.out (65535 - r2) (by rw [if_neg c1, if_neg c2, if_pos c3, hr2]))); (clear HEE); (go_wp2_with fail); (go_ret); (exact ⟨_, rfl, HF.out, below_drewN W1.out _⟩))
                  · try (exfalso; omega)
                    all_goals ((obtain ⟨r2, hr2⟩ : ∃ r2, (t - lo) % h.incH = r2 := ⟨_, rfl⟩); (have q0 := Int.emod_nonneg (t - lo) (by omega : h.incH ≠ 0)); (have q1 := Int.emod_lt_of_pos (t - lo) (by omega : 0 < h.incH)); (rw [hr2] at q0 q1); (have g1 : IntKind.i64.wrap (t - lo) = t - lo := IntWalk.i64_in _ (by omega)); (have g2 : IntKind.i64.wrap (t - r2) = t - r2 := IntWalk.i64_in _ (by omega)); (have HF := Lib.hid (HEE.out (t - r2) (by rw [if_neg c1, if_neg c2, if_neg c3, hr2]))); (clear HEE); (go_wp2_with fail); (go_ret); (exact ⟨_, rfl, HF.out, below_drewN W1.out _⟩))
            · have EE : ∀ v, (if 65535 < (lo + h.incH - r) then 0 else if t < (lo + h.incH - r) then (lo + h.incH - r) else (if 65535 < t then 65535 else t) - ((if 65535 < t then 65535 else t) - (lo + h.incH - r)) % h.incH) = v → HtP h x t v := fun v hv => HE.out v (by unfold endV; rw [hr, if_neg c0]; exact hv)
              have HEE := Lib.hid EE
              clear EE HE
              have c0n : ¬ r = 0 := c0
              by_cases c1 : 65535 < (lo + h.incH - r)
              · try (exfalso; omega)
                all_goals ((have HF := Lib.hid (HEE.out _ (if_pos c1))); (clear HEE); (go_wp2_with fail); (go_quiet (fail)); (go_wp2_with fail); (go_ret); (exact ⟨_, rfl, HF.out, below_drewN W1.out _⟩))
              · by_cases c2 : t < (lo + h.incH - r)
                · try (exfalso; omega)
                  all_goals ((have HF := Lib.hid (HEE.out _ ((if_neg c1).trans (if_pos c2)))); (clear HEE); (go_wp2_with fail); (go_quiet (fail)); (go_wp2_with fail); (go_ret); (exact ⟨_, rfl, HF.out, below_drewN W1.out _⟩))
                · by_cases c3 : 65535 < t
                  · try (exfalso; omega)
                    all_goals ((obtain ⟨r2, hr2⟩ : ∃ r2, (65535 - (lo + h.incH - r)) % h.incH = r2 := ⟨_, rfl⟩); (have q0 := Int.emod_nonneg (65535 - (lo + h.incH - r)) (by omega : h.incH ≠ 0)); (have q1 := Int.emod_lt_of_pos (65535 - (lo + h.incH - r)) (by omega : 0 < h.incH)); (rw [hr2] at q0 q1); (have g1 : IntKind.i64.wrap (65535 - (lo + h.incH - r)) = 65535 - (lo + h.incH - r) := IntWalk.i64_in _ (by omega)); (have g2 : IntKind.i64.wrap (65535 - r2) = 65535 - r2 := IntWalk.i64_in _ (by omega)); (have HF := Lib.hid (HEE.out (65535 - r2) (by rw [if_neg c1, if_neg c2, if_pos c3, hr2]))); (clear HEE); (go_wp2_with fail); (go_quiet (fail)); (go_wp2_with fail); (go_ret); (exact ⟨_, rfl, HF.out, below_drewN W1.out _⟩))
                  · try (exfalso; omega)
                    all_goals ((obtain ⟨r2, hr2⟩ : ∃ r2, (t - (lo + h.incH - r)) % h.incH = r2 := ⟨_, rfl⟩); (have q0 := Int.emod_nonneg (t - (lo + h.incH - r)) (by omega : h.incH ≠ 0)); (have q1 := Int.emod_lt_of_pos (t - (lo + h.incH - r)) (by omega : 0 < h.incH)); (rw [hr2] at q0 q1); (have g1 : IntKind.i64.wrap (t - (lo + h.incH - r)) = t - (lo + h.incH - r) := IntWalk.i64_in _ (by omega)); (have g2 : IntKind.i64.wrap (t - r2) = t - r2 := IntWalk.i64_in _ (by omega)); (have HF := Lib.hid (HEE.out (t - r2) (by rw [if_neg c1, if_neg c2, if_neg c3, hr2]))); (clear HEE); (go_wp2_with fail); (go_quiet (fail)); (go_wp2_with fail); (go_ret); (exact ⟨_, rfl, HF.out, below_drewN W1.out _⟩))
      · have c1' : P ≤ p := by omega
        have HLH := Lib.hid (hR.out hb ha (.inl (by rw [hp, hP]; exact c1)))
        have HEQ := Lib.hid (fun hi (e : min 65535 q = hi) => HEND.out lo hi (by have k := HLH.out; rw [eM, hQ, hq, e] at k; exact k))
        clear hR HLH hb ha eM eL HEND
        by_cases c3 : q < 65535
        · have HE := Lib.hid (HEQ.out q (by omega))
          clear HEQ
          go_upto_region 11 with fail
          obtain ⟨r, hr⟩ : ∃ r, (lo - h.baseH) % h.incH = r := ⟨_, rfl⟩
          have r0 := Int.emod_nonneg (lo - h.baseH) (by omega : h.incH ≠ 0)
          have r1 := Int.emod_lt_of_pos (lo - h.baseH) (by omega : 0 < h.incH)
          rw [hr] at r0 r1
          have f1 : IntKind.i64.wrap (lo - h.baseH) = lo - h.baseH := IntWalk.i64_in _ (by omega)
          have f2 : IntKind.i64.wrap (lo + h.incH) = lo + h.incH := IntWalk.i64_in _ (by omega)
          have f3 : IntKind.i64.wrap (lo + h.incH - r) = lo + h.incH - r := IntWalk.i64_in _ (by omega)
          by_cases c0 : r = 0
          · have EE : ∀ v, (if q < lo then 0 else if t < lo then lo else (if q < t then q else t) - ((if q < t then q else t) - lo) % h.incH) = v → HtP h x t v := fun v hv => HE.out v (by unfold endV; rw [hr, if_pos c0]; exact hv)
            have HEE := Lib.hid EE
            clear EE HE
            subst c0
            by_cases c1 : q < lo
            · try (exfalso; omega)
              all_goals ((have HF := Lib.hid (HEE.out _ (if_pos c1))); (clear HEE); (go_wp2_with fail); (go_ret); (exact ⟨_, rfl, HF.out, below_drewN W1.out _⟩))
            · by_cases c2 : t < lo
              · try (exfalso; omega)
                all_goals ((have HF := Lib.hid (HEE.out _ ((if_neg c1).trans (if_pos c2)))); (clear HEE); (go_wp2_with fail); (go_ret); (exact ⟨_, rfl, HF.out, below_drewN W1.out _⟩))
              · by_cases c3 : q < t
                · try (exfalso; omega)
                  all_goals ((obtain ⟨r2, hr2⟩ : ∃ r2, (q - lo) % h.incH = r2 := ⟨_, rfl⟩); (have q0 := Int.emod_nonneg (q - lo) (by omega : h.incH ≠ 0)); (have q1 := Int.emod_lt_of_pos (q - lo) (by omega : 0 < h.incH)); (rw [hr2] at q0 q1); (have g1 : IntKind.i64.wrap (q - lo) = q - lo := IntWalk.i64_in _ (by omega)); (have g2 : IntKind.i64.wrap (q - r2) = q - r2 := IntWalk.i64_in _ (by omega)); (have HF := Lib.hid (HEE.out (q - r2) (by rw [if_neg c1, if_neg c2, if_pos c3, hr2]))); (clear HEE); (go_wp2_with fail); (go_ret); (exact ⟨_, rfl, HF.out, below_drewN W1.out _⟩))
                · try (exfalso; omega)
                  all_goals ((obtain ⟨r2, hr2⟩ : ∃ r2, (t - lo) % h.incH = r2 := ⟨_, rfl⟩); (have q0 := Int.emod_nonneg (t - lo) (by omega : h.incH ≠ 0)); (have q1 := Int.emod_lt_of_pos (t - lo) (by omega : 0 < h.incH)); (rw [hr2] at q0 q1); (have g1 : IntKind.i64.wrap (t - lo) = t - lo := IntWalk.i64_in _ (by omega)); (have g2 : IntKind.i64.wrap (t - r2) = t - r2 := IntWalk.i64_in _ (by omega)); (have HF := Lib.hid (HEE.out (t - r2) (by rw [if_neg c1, if_neg c2, if_neg c3, hr2]))); (clear HEE); (go_wp2_with fail); (go_ret); (exact ⟨_, rfl, HF.out, below_drewN W1.out _⟩))
          · have EE : ∀ v, (if q < (lo + h.incH - r) then 0 else if t < (lo + h.incH - r) then (lo + h.incH - r) else (if q < t then q else t) - ((if q < t then q else t) - (lo + h.incH - r)) % h.incH) = v → HtP h x t v := fun v hv => HE.out v (by unfold endV; rw [hr, if_neg c0]; exact hv)
            have HEE := Lib.hid EE
            clear EE HE
            have c0n : ¬ r = 0 := c0
            by_cases c1 : q < (lo + h.incH - r)
            · try (exfalso; omega)
              all_goals ((have HF := Lib.hid (HEE.out _ (if_pos c1))); (clear HEE); (go_wp2_with fail); (go_quiet (fail)); (go_wp2_with fail); (go_ret); (exact ⟨_, rfl, HF.out, below_drewN W1.out _⟩))
            · by_cases c2 : t < (lo + h.incH - r)
              · try (exfalso; omega)
                all_goals ((have HF := Lib.hid (HEE.out _ ((if_neg c1).trans (if_pos c2)))); (clear HEE); (go_wp2_with fail); (go_quiet (fail)); (go_wp2_with fail); (go_ret); (exact ⟨_, rfl, HF.out, below_drewN W1.out _⟩))
              · by_cases c3 : q < t
                · try (exfalso; omega)
                  all_goals ((obtain ⟨r2, hr2⟩ : ∃ r2, (q - (lo + h.incH - r)) % h.incH = r2 := ⟨_, rfl⟩); (have q0 := Int.emod_nonneg (q - (lo + h.incH - r)) (by omega : h.incH ≠ 0)); (have q1 := Int.emod_lt_of_pos (q - (lo + h.incH - r)) (by omega : 0 < h.incH)); (rw [hr2] at q0 q1); (have g1 : IntKind.i64.wrap (q - (lo + h.incH - r)) = q - (lo + h.incH - r) := IntWalk.i64_in _ (by omega)); (have g2 : IntKind.i64.wrap (q - r2) = q - r2 := IntWalk.i64_in _ (by omega)); (have HF := Lib.hid (HEE.out (q - r2) (by rw [if_neg c1, if_neg c2, if_pos c3, hr2]))); (clear HEE); (go_wp2_with fail); (go_quiet (fail)); (go_wp2_with fail); (go_ret); (exact ⟨_, rfl, HF.out, below_drewN W1.out _⟩))
                · try (exfalso; omega)
                  all_goals ((obtain ⟨r2, hr2⟩ : ∃ r2, (t - (lo + h.incH - r)) % h.incH = r2 := ⟨_, rfl⟩); (have q0 := Int.emod_nonneg (t - (lo + h.incH - r)) (by omega : h.incH ≠ 0)); (have q1 := Int.emod_lt_of_pos (t - (lo + h.incH - r)) (by omega : 0 < h.incH)); (rw [hr2] at q0 q1); (have g1 : IntKind.i64.wrap (t - (lo + h.incH - r)) = t - (lo + h.incH - r) := IntWalk.i64_in _ (by omega)); (have g2 : IntKind.i64.wrap (t - r2) = t - r2 := IntWalk.i64_in _ (by omega)); (have HF := Lib.hid (HEE.out (t - r2) (by rw [if_neg c1, if_neg c2, if_neg c3, hr2]))); (clear HEE); (go_wp2_with fail); (go_quiet (fail)); (go_wp2_with fail); (go_ret); (exact ⟨_, rfl, HF.out, below_drewN W1.out _⟩))
        · have HE := Lib.hid (HEQ.out 65535 (by omega))
          clear HEQ
          go_upto_region 11 with fail
          obtain ⟨r, hr⟩ : ∃ r, (lo - h.baseH) % h.incH = r := ⟨_, rfl⟩
          have r0 := Int.emod_nonneg (lo - h.baseH) (by omega : h.incH ≠ 0)
          have r1 := Int.emod_lt_of_pos (lo - h.baseH) (by omega : 0 < h.incH)
          rw [hr] at r0 r1
          have f1 : IntKind.i64.wrap (lo - h.baseH) = lo - h.baseH := IntWalk.i64_in _ (by omega)
          have f2 : IntKind.i64.wrap (lo + h.incH) = lo + h.incH := IntWalk.i64_in _ (by omega)
          have f3 : IntKind.i64.wrap (lo + h.incH - r) = lo + h.incH - r := IntWalk.i64_in _ (by omega)
          by_cases c0 : r = 0
          · have EE : ∀ v, (if 65535 < lo then 0 else if t < lo then lo else (if 65535 < t then 65535 else t) - ((if 65535 < t then 65535 else t) - lo) % h.incH) = v → HtP h x t v := fun v hv => HE.out v (by unfold endV; rw [hr, if_pos c0]; exact hv)
            have HEE := Lib.hid EE
            clear EE HE
            subst c0
            by_cases c1 : 65535 < lo
            · try (exfalso; omega)
              all_goals ((have HF := Lib.hid (HEE.out _ (if_pos c1))); (clear HEE); (go_wp2_with fail); (go_ret); (exact ⟨_, rfl, HF.out, below_drewN W1.out _⟩))
            · by_cases c2 : t < lo
              · try (exfalso; omega)
                all_goals ((have HF := Lib.hid (HEE.out _ ((if_neg c1).trans (if_pos c2)))); (clear HEE); (go_wp2_with fail); (go_ret); (exact ⟨_, rfl, HF.out, below_drewN W1.out _⟩))
              · by_cases c3 : 65535 < t
                · try (exfalso; omega)
                  all_goals ((obtain ⟨r2, hr2⟩ : ∃ r2, (65535 - lo) % h.incH = r2 := ⟨_, rfl⟩); (have q0 := Int.emod_nonneg (65535 - lo) (by omega : h.incH ≠ 0)); (have q1 := Int.emod_lt_of_pos (65535 - lo) (by omega : 0 < h.incH)); (rw [hr2] at q0 q1); (have g1 : IntKind.i64.wrap (65535 - lo) = 65535 - lo := IntWalk.i64_in _ (by omega)); (have g2 : IntKind.i64.wrap (65535 - r2) = 65535 - r2 := IntWalk.i64_in _ (by omega)); (have HF := Lib.hid (HEE.out (65535 - r2) (by rw [if_neg c1, if_neg c2, if_pos c3, hr2]))); (clear HEE); (go_wp2_with fail); (go_ret); (exact ⟨_, rfl, HF.out, below_drewN W1.out _⟩))
                · try (exfalso; omega)
                  all_goals ((obtain ⟨r2, hr2⟩ : ∃ r2, (t - lo) % h.incH = r2 := ⟨_, rfl⟩); (have q0 := Int.emod_nonneg (t - lo) (by omega : h.incH ≠ 0)); (have q1 := Int.emod_lt_of_pos (t - lo) (by omega : 0 < h.incH)); (rw [hr2] at q0 q1); (have g1 : IntKind.i64.wrap (t - lo) = t - lo := IntWalk.i64_in _ (by omega)); (have g2 : IntKind.i64.wrap (t - r2) = t - r2 := IntWalk.i64_in _ (by omega)); (have HF := Lib.hid (HEE.out (t - r2) (by rw [if_neg c1, if_neg c2, if_neg c3, hr2]))); (clear HEE); (go_wp2_with fail); (go_ret); (exact ⟨_, rfl, HF.out, below_drewN W1.out _⟩))
          · have EE : ∀ v, (if 65535 < (lo + h.incH - r) then 0 else if t < (lo + h.incH - r) then (lo + h.incH - r) else (if 65535 < t then 65535 else t) - ((if 65535 < t then 65535 else t) - (lo + h.incH - r)) % h.incH) = v → HtP h x t v := fun v hv => HE.out v (by unfold endV; rw [hr, if_neg c0]; exact hv)
            have HEE := Lib.hid EE
            clear EE HE
            have c0n : ¬ r = 0 := c0
            by_cases c1 : 65535 < (lo + h.incH - r)
            · try (exfalso; omega)
              all_goals ((have HF := Lib.hid (HEE.out _ (if_pos c1))); (clear HEE); (go_wp2_with fail); (go_quiet (fail)); (go_wp2_with fail); (go_ret); (exact ⟨_, rfl, HF.out, below_drewN W1.out _⟩))
            · by_cases c2 : t < (lo + h.incH - r)
              · try (exfalso; omega)
                all_goals ((have HF := Lib.hid (HEE.out _ ((if_neg c1).trans (if_pos c2)))); (clear HEE); (go_wp2_with fail); (go_quiet (fail)); (go_wp2_with fail); (go_ret); (exact ⟨_, rfl, HF.out, below_drewN W1.out _⟩))
              · by_cases c3 : 65535 < t
                · try (exfalso; omega)
                  all_goals ((obtain ⟨r2, hr2⟩ : ∃ r2, (65535 - (lo + h.incH - r)) % h.incH = r2 := ⟨_, rfl⟩); (have q0 := Int.emod_nonneg (65535 - (lo + h.incH - r)) (by omega : h.incH ≠ 0)); (have q1 := Int.emod_lt_of_pos (65535 - (lo + h.incH - r)) (by omega : 0 < h.incH)); (rw [hr2] at q0 q1); (have g1 : IntKind.i64.wrap (65535 - (lo + h.incH - r)) = 65535 - (lo + h.incH - r) := IntWalk.i64_in _ (by omega)); (have g2 : IntKind.i64.wrap (65535 - r2) = 65535 - r2 := IntWalk.i64_in _ (by omega)); (have HF := Lib.hid (HEE.out (65535 - r2) (by rw [if_neg c1, if_neg c2, if_pos c3, hr2]))); (clear HEE); (go_wp2_with fail); (go_quiet (fail)); (go_wp2_with fail); (go_ret); (exact ⟨_, rfl, HF.out, below_drewN W1.out _⟩))
                · try (exfalso; omega)
                  all_goals ((obtain ⟨r2, hr2⟩ : ∃ r2, (t - (lo + h.incH - r)) % h.incH = r2 := ⟨_, rfl⟩); (have q0 := Int.emod_nonneg (t - (lo + h.incH - r)) (by omega : h.incH ≠ 0)); (have q1 := Int.emod_lt_of_pos (t - (lo + h.incH - r)) (by omega : 0 < h.incH)); (rw [hr2] at q0 q1); (have g1 : IntKind.i64.wrap (t - (lo + h.incH - r)) = t - (lo + h.incH - r) := IntWalk.i64_in _ (by omega)); (have g2 : IntKind.i64.wrap (t - r2) = t - r2 := IntWalk.i64_in _ (by omega)); (have HF := Lib.hid (HEE.out (t - r2) (by rw [if_neg c1, if_neg c2, if_neg c3, hr2]))); (clear HEE); (go_wp2_with fail); (go_quiet (fail)); (go_wp2_with fail); (go_ret); (exact ⟨_, rfl, HF.out, below_drewN W1.out _⟩))
set_option maxHeartbeats 4000000 in
theorem height_b (h : Hn) (hb : Bd h) (hm : h.maxH = 0) (hl : ¬ h.minH < h.baseH) (x t : Int) (x1 : 0 ≤ x) (x2 : x ≤ 65535) (t1 : 0 ≤ t) (t2 : t ≤ 65535) (w : World) : Calls Try.prog 69 #[.agg #[.int .i64 h.minW, .int .i64 h.minH, .int .i64 h.maxW, .int .i64 h.maxH, .int .i64 h.baseW, .int .i64 h.baseH, .int .i64 h.incW, .int .i64 h.incH, .int .i64 h.lowX, .int .i64 h.lowY, .int .i64 h.highX, .int .i64 h.highY], .int .i64 x, .int .i64 t] w fun e w' => ∃ y, e = .returned (.int .i64 y) ∧ HtP h x t y ∧ Below w.heap.size w w' := by
  have eM : (tallS h).m = 65535 := by rw [tall_m, mx_zero hm]
  have eL : (tallS h).l = h.minH := by rw [tall_l]; omega
  have okH := heights_ok hb x1 x2
  have hlm := tall_b hb
  rw [eM, eL] at hlm
  obtain ⟨hB, hI⟩ := height_b' h x
  have hl1 : 1 ≤ (heightsS h x).l := by
    unfold heightsS; split
    · rw [eL]; omega
    · show 1 ≤ max (tallS h).l _
      rw [eL]; omega
  have HEND := Lib.hid (fun (lo hi : Int) (k : LH (heightsS h x) lo hi) (v : Int) (hv : endV lo hi h.baseH h.incH t = v) => (show HtP h x t v from by rw [← hv, ← hB, ← hI]; exact end_ht rfl okH.i1 hl1 k))
  have b0 := hb.t.b1
  have b2 := hb.t.b2
  have i0 := hb.t.i1
  have i2 := hb.t.i2
  have A0 := HB.new w h
  have W0 : Below w.heap.size w (w.alloc (.cells (#[.int .i64 h.minW, .int .i64 h.minH, .int .i64 h.maxW, .int .i64 h.maxH, .int .i64 h.baseW, .int .i64 h.baseH, .int .i64 h.incW, .int .i64 h.incH, .int .i64 h.lowX, .int .i64 h.lowY, .int .i64 h.highX, .int .i64 h.highY]) 25)) := by repeat' (first | (with_reducible exact Below.refl _ _) | (with_reducible assumption) | (with_reducible refine Below.alloc ?_ ?_ _) | (with_reducible refine Below.drew ?_) | (with_reducible refine Below.setCell ?_ ?_ _) | (with_reducible refine Below.on (by with_reducible assumption) ?_ ?_) | go_size)
  have W1 := Lib.hid W0
  have hm1 : (h.maxH == 0) = true := by simp [hm]
  clear hm
  by_cases h0 : h.lowX = 0
  · have HE := Lib.hid (HEND.out h.minH 65535 (by have := tall_height h0 x; unfold LH at this ⊢; rw [← eM, ← eL]; exact this))
    have h1 : h.lowX ≤ 0 := by omega
    clear HEND hl1 hB hI okH eM eL h0 hb W0
    go_enter Try.func69, Try.ntmps69
    go_wp2_with fail
    generalize w.alloc (.cells (#[.int .i64 h.minW, .int .i64 h.minH, .int .i64 h.maxW, .int .i64 h.maxH, .int .i64 h.baseW, .int .i64 h.baseH, .int .i64 h.incW, .int .i64 h.incH, .int .i64 h.lowX, .int .i64 h.lowY, .int .i64 h.highX, .int .i64 h.highY]) 25) = w1 at *
    obtain ⟨⟨k0, k1, k2, k3, k4, k5, k6, k7, k8, k9, k10, k11⟩, ⟨kf0, kf1, kf2, kf3, kf4, kf5, kf6, kf7, kf8, kf9, kf10, kf11⟩⟩ := A0.out
    go_quiet (fail)
    go_upto_region 11 with fail
    obtain ⟨r, hr⟩ : ∃ r, (h.minH - h.baseH) % h.incH = r := ⟨_, rfl⟩
    have r0 := Int.emod_nonneg (h.minH - h.baseH) (by omega : h.incH ≠ 0)
    have r1 := Int.emod_lt_of_pos (h.minH - h.baseH) (by omega : 0 < h.incH)
    rw [hr] at r0 r1
    have f1 : IntKind.i64.wrap (h.minH - h.baseH) = h.minH - h.baseH := IntWalk.i64_in _ (by omega)
    have f2 : IntKind.i64.wrap (h.minH + h.incH) = h.minH + h.incH := IntWalk.i64_in _ (by omega)
    have f3 : IntKind.i64.wrap (h.minH + h.incH - r) = h.minH + h.incH - r := IntWalk.i64_in _ (by omega)
    by_cases c0 : r = 0
    · have EE : ∀ v, (if 65535 < h.minH then 0 else if t < h.minH then h.minH else (if 65535 < t then 65535 else t) - ((if 65535 < t then 65535 else t) - h.minH) % h.incH) = v → HtP h x t v := fun v hv => HE.out v (by unfold endV; rw [hr, if_pos c0]; exact hv)
      have HEE := Lib.hid EE
      clear EE HE
      subst c0
      by_cases c1 : 65535 < h.minH
      · try (exfalso; omega)
        all_goals ((have HF := Lib.hid (HEE.out _ (if_pos c1))); (clear HEE); (go_wp2_with fail); (go_ret); (exact ⟨_, rfl, HF.out, below_drewN W1.out _⟩))
      · by_cases c2 : t < h.minH
        · try (exfalso; omega)
          all_goals ((have HF := Lib.hid (HEE.out _ ((if_neg c1).trans (if_pos c2)))); (clear HEE); (go_wp2_with fail); (go_ret); (exact ⟨_, rfl, HF.out, below_drewN W1.out _⟩))
        · by_cases c3 : 65535 < t
          · try (exfalso; omega)
            all_goals ((obtain ⟨r2, hr2⟩ : ∃ r2, (65535 - h.minH) % h.incH = r2 := ⟨_, rfl⟩); (have q0 := Int.emod_nonneg (65535 - h.minH) (by omega : h.incH ≠ 0)); (have q1 := Int.emod_lt_of_pos (65535 - h.minH) (by omega : 0 < h.incH)); (rw [hr2] at q0 q1); (have g1 : IntKind.i64.wrap (65535 - h.minH) = 65535 - h.minH := IntWalk.i64_in _ (by omega)); (have g2 : IntKind.i64.wrap (65535 - r2) = 65535 - r2 := IntWalk.i64_in _ (by omega)); (have HF := Lib.hid (HEE.out (65535 - r2) (by rw [if_neg c1, if_neg c2, if_pos c3, hr2]))); (clear HEE); (go_wp2_with fail); (go_ret); (exact ⟨_, rfl, HF.out, below_drewN W1.out _⟩))
          · try (exfalso; omega)
            all_goals ((obtain ⟨r2, hr2⟩ : ∃ r2, (t - h.minH) % h.incH = r2 := ⟨_, rfl⟩); (have q0 := Int.emod_nonneg (t - h.minH) (by omega : h.incH ≠ 0)); (have q1 := Int.emod_lt_of_pos (t - h.minH) (by omega : 0 < h.incH)); (rw [hr2] at q0 q1); (have g1 : IntKind.i64.wrap (t - h.minH) = t - h.minH := IntWalk.i64_in _ (by omega)); (have g2 : IntKind.i64.wrap (t - r2) = t - r2 := IntWalk.i64_in _ (by omega)); (have HF := Lib.hid (HEE.out (t - r2) (by rw [if_neg c1, if_neg c2, if_neg c3, hr2]))); (clear HEE); (go_wp2_with fail); (go_ret); (exact ⟨_, rfl, HF.out, below_drewN W1.out _⟩))
    · have EE : ∀ v, (if 65535 < (h.minH + h.incH - r) then 0 else if t < (h.minH + h.incH - r) then (h.minH + h.incH - r) else (if 65535 < t then 65535 else t) - ((if 65535 < t then 65535 else t) - (h.minH + h.incH - r)) % h.incH) = v → HtP h x t v := fun v hv => HE.out v (by unfold endV; rw [hr, if_neg c0]; exact hv)
      have HEE := Lib.hid EE
      clear EE HE
      have c0n : ¬ r = 0 := c0
      by_cases c1 : 65535 < (h.minH + h.incH - r)
      · try (exfalso; omega)
        all_goals ((have HF := Lib.hid (HEE.out _ (if_pos c1))); (clear HEE); (go_wp2_with fail); (go_quiet (fail)); (go_wp2_with fail); (go_ret); (exact ⟨_, rfl, HF.out, below_drewN W1.out _⟩))
      · by_cases c2 : t < (h.minH + h.incH - r)
        · try (exfalso; omega)
          all_goals ((have HF := Lib.hid (HEE.out _ ((if_neg c1).trans (if_pos c2)))); (clear HEE); (go_wp2_with fail); (go_quiet (fail)); (go_wp2_with fail); (go_ret); (exact ⟨_, rfl, HF.out, below_drewN W1.out _⟩))
        · by_cases c3 : 65535 < t
          · try (exfalso; omega)
            all_goals ((obtain ⟨r2, hr2⟩ : ∃ r2, (65535 - (h.minH + h.incH - r)) % h.incH = r2 := ⟨_, rfl⟩); (have q0 := Int.emod_nonneg (65535 - (h.minH + h.incH - r)) (by omega : h.incH ≠ 0)); (have q1 := Int.emod_lt_of_pos (65535 - (h.minH + h.incH - r)) (by omega : 0 < h.incH)); (rw [hr2] at q0 q1); (have g1 : IntKind.i64.wrap (65535 - (h.minH + h.incH - r)) = 65535 - (h.minH + h.incH - r) := IntWalk.i64_in _ (by omega)); (have g2 : IntKind.i64.wrap (65535 - r2) = 65535 - r2 := IntWalk.i64_in _ (by omega)); (have HF := Lib.hid (HEE.out (65535 - r2) (by rw [if_neg c1, if_neg c2, if_pos c3, hr2]))); (clear HEE); (go_wp2_with fail); (go_quiet (fail)); (go_wp2_with fail); (go_ret); (exact ⟨_, rfl, HF.out, below_drewN W1.out _⟩))
          · try (exfalso; omega)
            all_goals ((obtain ⟨r2, hr2⟩ : ∃ r2, (t - (h.minH + h.incH - r)) % h.incH = r2 := ⟨_, rfl⟩); (have q0 := Int.emod_nonneg (t - (h.minH + h.incH - r)) (by omega : h.incH ≠ 0)); (have q1 := Int.emod_lt_of_pos (t - (h.minH + h.incH - r)) (by omega : 0 < h.incH)); (rw [hr2] at q0 q1); (have g1 : IntKind.i64.wrap (t - (h.minH + h.incH - r)) = t - (h.minH + h.incH - r) := IntWalk.i64_in _ (by omega)); (have g2 : IntKind.i64.wrap (t - r2) = t - r2 := IntWalk.i64_in _ (by omega)); (have HF := Lib.hid (HEE.out (t - r2) (by rw [if_neg c1, if_neg c2, if_neg c3, hr2]))); (clear HEE); (go_wp2_with fail); (go_quiet (fail)); (go_wp2_with fail); (go_ret); (exact ⟨_, rfl, HF.out, below_drewN W1.out _⟩))
  · have ha : Asp h.lowX h.lowY h.highX h.highY := hb.a.resolve_left (fun z => h0 z.1)
    have hmul1 := mul_b x1 x2 (by have := ha.d1; omega : 0 ≤ h.highY) ha.d2
    have hmul2 := mul_b x1 x2 (by have := ha.b1; omega : 0 ≤ h.lowY) ha.b2
    have hqq := q_b hmul2.1 hmul2.2 ha.a1
    obtain ⟨P, hP⟩ : ∃ P, x * h.highY = P := ⟨_, rfl⟩
    obtain ⟨Q, hQ⟩ : ∃ Q, x * h.lowY = Q := ⟨_, rfl⟩
    obtain ⟨q, hq⟩ : ∃ q, Q / h.lowX = q := ⟨_, rfl⟩
    rw [hP] at hmul1; rw [hQ] at hmul2; rw [hQ, hq] at hqq
    have h1 : 0 < h.lowX := by have := ha.a1; omega
    have h2 := ha.a2
    have h3 := ha.c1
    have h4 := ha.c2
    have f5 : IntKind.i64.wrap P = P := IntWalk.i64_in _ (by omega)
    have f6 : IntKind.i64.wrap Q = Q := IntWalk.i64_in _ (by omega)
    have R0 := Lib.hid (Rd.start ha x)
    rw [eL] at R0
    have HBD := Lib.hid hb
    have HAS := Lib.hid ha
    have HEM := Lib.hid eM
    have HEL := Lib.hid eL
    clear hl1 hB hI okH eM eL h0 hb W0 ha
    go_enter Try.func69, Try.ntmps69
    go_wp2_with fail
    generalize w.alloc (.cells (#[.int .i64 h.minW, .int .i64 h.minH, .int .i64 h.maxW, .int .i64 h.maxH, .int .i64 h.baseW, .int .i64 h.baseH, .int .i64 h.incW, .int .i64 h.incH, .int .i64 h.lowX, .int .i64 h.lowY, .int .i64 h.highX, .int .i64 h.highY]) 25) = w1 at *
    obtain ⟨⟨k0, k1, k2, k3, k4, k5, k6, k7, k8, k9, k10, k11⟩, ⟨kf0, kf1, kf2, kf3, kf4, kf5, kf6, kf7, kf8, kf9, kf10, kf11⟩⟩ := A0.out
    go_quiet (fail)
    go_wp2_with fail
    go_loopw [7] (fun z wr => ∃ lo nn, z = .int .i64 lo ∧ wr = w1.drewN nn ∧ Rd h x lo) (fun z _ => (4294836226 - intOf z).toNat)
    case atStart => exact ⟨_, _, rfl, rfl, R0.out⟩
    case round =>
      obtain ⟨lo, nn, rfl, rfl, hR⟩ := hrel
      have hb := HBD.out
      have ha := HAS.out
      have eM := HEM.out
      have eL := HEL.out
      have hlo : h.baseH ≤ lo ∧ lo ≤ 4294836225 := by
        have k1 := qUp_b hmul1.1 hmul1.2 h3
        have k2 := hlm.1
        rcases hR with hR | ⟨hR, -⟩ <;> (rw [eL] at hR; try rw [hP] at hR) <;> omega
      obtain ⟨lo1, lo2⟩ := hlo
      have hmul3 : 0 ≤ lo * h.highX ∧ lo * h.highX ≤ 4294836225 * 65535 := ⟨Int.mul_nonneg (by omega) (by omega), Int.mul_le_mul lo2 h4 (by omega) (by omega)⟩
      obtain ⟨p, hp⟩ : ∃ p, lo * h.highX = p := ⟨_, rfl⟩
      rw [hp] at hmul3
      have f7 : IntKind.i64.wrap p = p := IntWalk.i64_in _ (by omega)
      by_cases c1 : p < P
      · by_cases c2 : lo ≤ 65535
        · have hS := hR.step ha (by rw [hp, hP]; exact c1)
          have hle := hR.low ha (by rw [hp, hP]; exact c1)
          rw [eL] at hle
          have hru := round_up (a := P) (c := lo) h3
          have hqu := qUp_b hmul1.1 hmul1.2 h3
          rw [hp, hP] at hS
          rw [hp] at hru
          obtain ⟨D, hD⟩ : ∃ D, (P - p - 1) / h.highX = D := ⟨_, rfl⟩
          rw [hD] at hS hru
          have hD0 : 0 ≤ D := by rw [← hD]; exact Int.ediv_nonneg (by omega) (by omega)
          have HS := Lib.hid hS
          have g1 : IntKind.i64.wrap (P - p) = P - p := IntWalk.i64_in _ (by omega)
          have g2 : IntKind.i64.wrap (P - p - 1) = P - p - 1 := IntWalk.i64_in _ (by omega)
          have g5 : (P - p - 1).tdiv h.highX = D := by rw [td (by omega)]; exact hD
          have g6 : IntKind.i64.wrap D = D := IntWalk.i64_in _ (by omega)
          have g3 : IntKind.i64.wrap (lo + 1) = lo + 1 := IntWalk.i64_in _ (by omega)
          have g4 : IntKind.i64.wrap (lo + 1 + D) = lo + 1 + D := IntWalk.i64_in _ (by omega)
          have HRU := Lib.hid hru
          have HQU := Lib.hid hqu
          clear hS hR hru hqu hb ha eM eL HEND hle hmul3
          go_wp2_with fail
          refine ⟨⟨_, _, rfl, rfl, HS.out.1⟩, ?_⟩
          have := HS.out.2
          have := HRU.out
          have := HQU.out
          simp only [intOf]
          omega
        · have c2' : 65535 < lo := by omega
          have g0 : ¬ lo ≤ 65535 := c2
          have HLH := Lib.hid (hR.out hb ha (.inr (by rw [eM]; exact c2')))
          have HEQ := Lib.hid (fun hi (e : min 65535 q = hi) => HEND.out lo hi (by have k := HLH.out; rw [eM, hQ, hq, e] at k; exact k))
          clear hR HLH hb ha eM eL HEND
          by_cases c3 : q < 65535
          · have HE := Lib.hid (HEQ.out q (by omega))
            clear HEQ
            go_upto_region 11 with fail
            obtain ⟨r, hr⟩ : ∃ r, (lo - h.baseH) % h.incH = r := ⟨_, rfl⟩
            have r0 := Int.emod_nonneg (lo - h.baseH) (by omega : h.incH ≠ 0)
            have r1 := Int.emod_lt_of_pos (lo - h.baseH) (by omega : 0 < h.incH)
            rw [hr] at r0 r1
            have f1 : IntKind.i64.wrap (lo - h.baseH) = lo - h.baseH := IntWalk.i64_in _ (by omega)
            have f2 : IntKind.i64.wrap (lo + h.incH) = lo + h.incH := IntWalk.i64_in _ (by omega)
            have f3 : IntKind.i64.wrap (lo + h.incH - r) = lo + h.incH - r := IntWalk.i64_in _ (by omega)
            by_cases c0 : r = 0
            · have EE : ∀ v, (if q < lo then 0 else if t < lo then lo else (if q < t then q else t) - ((if q < t then q else t) - lo) % h.incH) = v → HtP h x t v := fun v hv => HE.out v (by unfold endV; rw [hr, if_pos c0]; exact hv)
              have HEE := Lib.hid EE
              clear EE HE
              subst c0
              by_cases c1 : q < lo
              · try (exfalso; omega)
                all_goals ((have HF := Lib.hid (HEE.out _ (if_pos c1))); (clear HEE); (go_wp2_with fail); (go_ret); (exact ⟨_, rfl, HF.out, below_drewN W1.out _⟩))
              · by_cases c2 : t < lo
                · try (exfalso; omega)
                  all_goals ((have HF := Lib.hid (HEE.out _ ((if_neg c1).trans (if_pos c2)))); (clear HEE); (go_wp2_with fail); (go_ret); (exact ⟨_, rfl, HF.out, below_drewN W1.out _⟩))
                · by_cases c3 : q < t
                  · try (exfalso; omega)
                    all_goals ((obtain ⟨r2, hr2⟩ : ∃ r2, (q - lo) % h.incH = r2 := ⟨_, rfl⟩); (have q0 := Int.emod_nonneg (q - lo) (by omega : h.incH ≠ 0)); (have q1 := Int.emod_lt_of_pos (q - lo) (by omega : 0 < h.incH)); (rw [hr2] at q0 q1); (have g1 : IntKind.i64.wrap (q - lo) = q - lo := IntWalk.i64_in _ (by omega)); (have g2 : IntKind.i64.wrap (q - r2) = q - r2 := IntWalk.i64_in _ (by omega)); (have HF := Lib.hid (HEE.out (q - r2) (by rw [if_neg c1, if_neg c2, if_pos c3, hr2]))); (clear HEE); (go_wp2_with fail); (go_ret); (exact ⟨_, rfl, HF.out, below_drewN W1.out _⟩))
                  · try (exfalso; omega)
                    all_goals ((obtain ⟨r2, hr2⟩ : ∃ r2, (t - lo) % h.incH = r2 := ⟨_, rfl⟩); (have q0 := Int.emod_nonneg (t - lo) (by omega : h.incH ≠ 0)); (have q1 := Int.emod_lt_of_pos (t - lo) (by omega : 0 < h.incH)); (rw [hr2] at q0 q1); (have g1 : IntKind.i64.wrap (t - lo) = t - lo := IntWalk.i64_in _ (by omega)); (have g2 : IntKind.i64.wrap (t - r2) = t - r2 := IntWalk.i64_in _ (by omega)); (have HF := Lib.hid (HEE.out (t - r2) (by rw [if_neg c1, if_neg c2, if_neg c3, hr2]))); (clear HEE); (go_wp2_with fail); (go_ret); (exact ⟨_, rfl, HF.out, below_drewN W1.out _⟩))
            · have EE : ∀ v, (if q < (lo + h.incH - r) then 0 else if t < (lo + h.incH - r) then (lo + h.incH - r) else (if q < t then q else t) - ((if q < t then q else t) - (lo + h.incH - r)) % h.incH) = v → HtP h x t v := fun v hv => HE.out v (by unfold endV; rw [hr, if_neg c0]; exact hv)
              have HEE := Lib.hid EE
              clear EE HE
              have c0n : ¬ r = 0 := c0
              by_cases c1 : q < (lo + h.incH - r)
              · try (exfalso; omega)
                all_goals ((have HF := Lib.hid (HEE.out _ (if_pos c1))); (clear HEE); (go_wp2_with fail); (go_quiet (fail)); (go_wp2_with fail); (go_ret); (exact ⟨_, rfl, HF.out, below_drewN W1.out _⟩))
              · by_cases c2 : t < (lo + h.incH - r)
                · try (exfalso; omega)
                  all_goals ((have HF := Lib.hid (HEE.out _ ((if_neg c1).trans (if_pos c2)))); (clear HEE); (go_wp2_with fail); (go_quiet (fail)); (go_wp2_with fail); (go_ret); (exact ⟨_, rfl, HF.out, below_drewN W1.out _⟩))
                · by_cases c3 : q < t
                  · try (exfalso; omega)
                    all_goals ((obtain ⟨r2, hr2⟩ : ∃ r2, (q - (lo + h.incH - r)) % h.incH = r2 := ⟨_, rfl⟩); (have q0 := Int.emod_nonneg (q - (lo + h.incH - r)) (by omega : h.incH ≠ 0)); (have q1 := Int.emod_lt_of_pos (q - (lo + h.incH - r)) (by omega : 0 < h.incH)); (rw [hr2] at q0 q1); (have g1 : IntKind.i64.wrap (q - (lo + h.incH - r)) = q - (lo + h.incH - r) := IntWalk.i64_in _ (by omega)); (have g2 : IntKind.i64.wrap (q - r2) = q - r2 := IntWalk.i64_in _ (by omega)); (have HF := Lib.hid (HEE.out (q - r2) (by rw [if_neg c1, if_neg c2, if_pos c3, hr2]))); (clear HEE); (go_wp2_with fail); (go_quiet (fail)); (go_wp2_with fail); (go_ret); (exact ⟨_, rfl, HF.out, below_drewN W1.out _⟩))
                  · try (exfalso; omega)
                    all_goals ((obtain ⟨r2, hr2⟩ : ∃ r2, (t - (lo + h.incH - r)) % h.incH = r2 := ⟨_, rfl⟩); (have q0 := Int.emod_nonneg (t - (lo + h.incH - r)) (by omega : h.incH ≠ 0)); (have q1 := Int.emod_lt_of_pos (t - (lo + h.incH - r)) (by omega : 0 < h.incH)); (rw [hr2] at q0 q1); (have g1 : IntKind.i64.wrap (t - (lo + h.incH - r)) = t - (lo + h.incH - r) := IntWalk.i64_in _ (by omega)); (have g2 : IntKind.i64.wrap (t - r2) = t - r2 := IntWalk.i64_in _ (by omega)); (have HF := Lib.hid (HEE.out (t - r2) (by rw [if_neg c1, if_neg c2, if_neg c3, hr2]))); (clear HEE); (go_wp2_with fail); (go_quiet (fail)); (go_wp2_with fail); (go_ret); (exact ⟨_, rfl, HF.out, below_drewN W1.out _⟩))
          · have HE := Lib.hid (HEQ.out 65535 (by omega))
            clear HEQ
            go_upto_region 11 with fail
            obtain ⟨r, hr⟩ : ∃ r, (lo - h.baseH) % h.incH = r := ⟨_, rfl⟩
            have r0 := Int.emod_nonneg (lo - h.baseH) (by omega : h.incH ≠ 0)
            have r1 := Int.emod_lt_of_pos (lo - h.baseH) (by omega : 0 < h.incH)
            rw [hr] at r0 r1
            have f1 : IntKind.i64.wrap (lo - h.baseH) = lo - h.baseH := IntWalk.i64_in _ (by omega)
            have f2 : IntKind.i64.wrap (lo + h.incH) = lo + h.incH := IntWalk.i64_in _ (by omega)
            have f3 : IntKind.i64.wrap (lo + h.incH - r) = lo + h.incH - r := IntWalk.i64_in _ (by omega)
            by_cases c0 : r = 0
            · have EE : ∀ v, (if 65535 < lo then 0 else if t < lo then lo else (if 65535 < t then 65535 else t) - ((if 65535 < t then 65535 else t) - lo) % h.incH) = v → HtP h x t v := fun v hv => HE.out v (by unfold endV; rw [hr, if_pos c0]; exact hv)
              have HEE := Lib.hid EE
              clear EE HE
              subst c0
              by_cases c1 : 65535 < lo
              · try (exfalso; omega)
                all_goals ((have HF := Lib.hid (HEE.out _ (if_pos c1))); (clear HEE); (go_wp2_with fail); (go_ret); (exact ⟨_, rfl, HF.out, below_drewN W1.out _⟩))
              · by_cases c2 : t < lo
                · try (exfalso; omega)
                  all_goals ((have HF := Lib.hid (HEE.out _ ((if_neg c1).trans (if_pos c2)))); (clear HEE); (go_wp2_with fail); (go_ret); (exact ⟨_, rfl, HF.out, below_drewN W1.out _⟩))
                · by_cases c3 : 65535 < t
                  · try (exfalso; omega)
                    all_goals ((obtain ⟨r2, hr2⟩ : ∃ r2, (65535 - lo) % h.incH = r2 := ⟨_, rfl⟩); (have q0 := Int.emod_nonneg (65535 - lo) (by omega : h.incH ≠ 0)); (have q1 := Int.emod_lt_of_pos (65535 - lo) (by omega : 0 < h.incH)); (rw [hr2] at q0 q1); (have g1 : IntKind.i64.wrap (65535 - lo) = 65535 - lo := IntWalk.i64_in _ (by omega)); (have g2 : IntKind.i64.wrap (65535 - r2) = 65535 - r2 := IntWalk.i64_in _ (by omega)); (have HF := Lib.hid (HEE.out (65535 - r2) (by rw [if_neg c1, if_neg c2, if_pos c3, hr2]))); (clear HEE); (go_wp2_with fail); (go_ret); (exact ⟨_, rfl, HF.out, below_drewN W1.out _⟩))
                  · try (exfalso; omega)
                    all_goals ((obtain ⟨r2, hr2⟩ : ∃ r2, (t - lo) % h.incH = r2 := ⟨_, rfl⟩); (have q0 := Int.emod_nonneg (t - lo) (by omega : h.incH ≠ 0)); (have q1 := Int.emod_lt_of_pos (t - lo) (by omega : 0 < h.incH)); (rw [hr2] at q0 q1); (have g1 : IntKind.i64.wrap (t - lo) = t - lo := IntWalk.i64_in _ (by omega)); (have g2 : IntKind.i64.wrap (t - r2) = t - r2 := IntWalk.i64_in _ (by omega)); (have HF := Lib.hid (HEE.out (t - r2) (by rw [if_neg c1, if_neg c2, if_neg c3, hr2]))); (clear HEE); (go_wp2_with fail); (go_ret); (exact ⟨_, rfl, HF.out, below_drewN W1.out _⟩))
            · have EE : ∀ v, (if 65535 < (lo + h.incH - r) then 0 else if t < (lo + h.incH - r) then (lo + h.incH - r) else (if 65535 < t then 65535 else t) - ((if 65535 < t then 65535 else t) - (lo + h.incH - r)) % h.incH) = v → HtP h x t v := fun v hv => HE.out v (by unfold endV; rw [hr, if_neg c0]; exact hv)
              have HEE := Lib.hid EE
              clear EE HE
              have c0n : ¬ r = 0 := c0
              by_cases c1 : 65535 < (lo + h.incH - r)
              · try (exfalso; omega)
                all_goals ((have HF := Lib.hid (HEE.out _ (if_pos c1))); (clear HEE); (go_wp2_with fail); (go_quiet (fail)); (go_wp2_with fail); (go_ret); (exact ⟨_, rfl, HF.out, below_drewN W1.out _⟩))
              · by_cases c2 : t < (lo + h.incH - r)
                · try (exfalso; omega)
                  all_goals ((have HF := Lib.hid (HEE.out _ ((if_neg c1).trans (if_pos c2)))); (clear HEE); (go_wp2_with fail); (go_quiet (fail)); (go_wp2_with fail); (go_ret); (exact ⟨_, rfl, HF.out, below_drewN W1.out _⟩))
                · by_cases c3 : 65535 < t
                  · try (exfalso; omega)
                    all_goals ((obtain ⟨r2, hr2⟩ : ∃ r2, (65535 - (lo + h.incH - r)) % h.incH = r2 := ⟨_, rfl⟩); (have q0 := Int.emod_nonneg (65535 - (lo + h.incH - r)) (by omega : h.incH ≠ 0)); (have q1 := Int.emod_lt_of_pos (65535 - (lo + h.incH - r)) (by omega : 0 < h.incH)); (rw [hr2] at q0 q1); (have g1 : IntKind.i64.wrap (65535 - (lo + h.incH - r)) = 65535 - (lo + h.incH - r) := IntWalk.i64_in _ (by omega)); (have g2 : IntKind.i64.wrap (65535 - r2) = 65535 - r2 := IntWalk.i64_in _ (by omega)); (have HF := Lib.hid (HEE.out (65535 - r2) (by rw [if_neg c1, if_neg c2, if_pos c3, hr2]))); (clear HEE); (go_wp2_with fail); (go_quiet (fail)); (go_wp2_with fail); (go_ret); (exact ⟨_, rfl, HF.out, below_drewN W1.out _⟩))
                  · try (exfalso; omega)
                    all_goals ((obtain ⟨r2, hr2⟩ : ∃ r2, (t - (lo + h.incH - r)) % h.incH = r2 := ⟨_, rfl⟩); (have q0 := Int.emod_nonneg (t - (lo + h.incH - r)) (by omega : h.incH ≠ 0)); (have q1 := Int.emod_lt_of_pos (t - (lo + h.incH - r)) (by omega : 0 < h.incH)); (rw [hr2] at q0 q1); (have g1 : IntKind.i64.wrap (t - (lo + h.incH - r)) = t - (lo + h.incH - r) := IntWalk.i64_in _ (by omega)); (have g2 : IntKind.i64.wrap (t - r2) = t - r2 := IntWalk.i64_in _ (by omega)); (have HF := Lib.hid (HEE.out (t - r2) (by rw [if_neg c1, if_neg c2, if_neg c3, hr2]))); (clear HEE); (go_wp2_with fail); (go_quiet (fail)); (go_wp2_with fail); (go_ret); (exact ⟨_, rfl, HF.out, below_drewN W1.out _⟩))
      · have c1' : P ≤ p := by omega
        have HLH := Lib.hid (hR.out hb ha (.inl (by rw [hp, hP]; exact c1)))
        have HEQ := Lib.hid (fun hi (e : min 65535 q = hi) => HEND.out lo hi (by have k := HLH.out; rw [eM, hQ, hq, e] at k; exact k))
        clear hR HLH hb ha eM eL HEND
        by_cases c3 : q < 65535
        · have HE := Lib.hid (HEQ.out q (by omega))
          clear HEQ
          go_upto_region 11 with fail
          obtain ⟨r, hr⟩ : ∃ r, (lo - h.baseH) % h.incH = r := ⟨_, rfl⟩
          have r0 := Int.emod_nonneg (lo - h.baseH) (by omega : h.incH ≠ 0)
          have r1 := Int.emod_lt_of_pos (lo - h.baseH) (by omega : 0 < h.incH)
          rw [hr] at r0 r1
          have f1 : IntKind.i64.wrap (lo - h.baseH) = lo - h.baseH := IntWalk.i64_in _ (by omega)
          have f2 : IntKind.i64.wrap (lo + h.incH) = lo + h.incH := IntWalk.i64_in _ (by omega)
          have f3 : IntKind.i64.wrap (lo + h.incH - r) = lo + h.incH - r := IntWalk.i64_in _ (by omega)
          by_cases c0 : r = 0
          · have EE : ∀ v, (if q < lo then 0 else if t < lo then lo else (if q < t then q else t) - ((if q < t then q else t) - lo) % h.incH) = v → HtP h x t v := fun v hv => HE.out v (by unfold endV; rw [hr, if_pos c0]; exact hv)
            have HEE := Lib.hid EE
            clear EE HE
            subst c0
            by_cases c1 : q < lo
            · try (exfalso; omega)
              all_goals ((have HF := Lib.hid (HEE.out _ (if_pos c1))); (clear HEE); (go_wp2_with fail); (go_ret); (exact ⟨_, rfl, HF.out, below_drewN W1.out _⟩))
            · by_cases c2 : t < lo
              · try (exfalso; omega)
                all_goals ((have HF := Lib.hid (HEE.out _ ((if_neg c1).trans (if_pos c2)))); (clear HEE); (go_wp2_with fail); (go_ret); (exact ⟨_, rfl, HF.out, below_drewN W1.out _⟩))
              · by_cases c3 : q < t
                · try (exfalso; omega)
                  all_goals ((obtain ⟨r2, hr2⟩ : ∃ r2, (q - lo) % h.incH = r2 := ⟨_, rfl⟩); (have q0 := Int.emod_nonneg (q - lo) (by omega : h.incH ≠ 0)); (have q1 := Int.emod_lt_of_pos (q - lo) (by omega : 0 < h.incH)); (rw [hr2] at q0 q1); (have g1 : IntKind.i64.wrap (q - lo) = q - lo := IntWalk.i64_in _ (by omega)); (have g2 : IntKind.i64.wrap (q - r2) = q - r2 := IntWalk.i64_in _ (by omega)); (have HF := Lib.hid (HEE.out (q - r2) (by rw [if_neg c1, if_neg c2, if_pos c3, hr2]))); (clear HEE); (go_wp2_with fail); (go_ret); (exact ⟨_, rfl, HF.out, below_drewN W1.out _⟩))
                · try (exfalso; omega)
                  all_goals ((obtain ⟨r2, hr2⟩ : ∃ r2, (t - lo) % h.incH = r2 := ⟨_, rfl⟩); (have q0 := Int.emod_nonneg (t - lo) (by omega : h.incH ≠ 0)); (have q1 := Int.emod_lt_of_pos (t - lo) (by omega : 0 < h.incH)); (rw [hr2] at q0 q1); (have g1 : IntKind.i64.wrap (t - lo) = t - lo := IntWalk.i64_in _ (by omega)); (have g2 : IntKind.i64.wrap (t - r2) = t - r2 := IntWalk.i64_in _ (by omega)); (have HF := Lib.hid (HEE.out (t - r2) (by rw [if_neg c1, if_neg c2, if_neg c3, hr2]))); (clear HEE); (go_wp2_with fail); (go_ret); (exact ⟨_, rfl, HF.out, below_drewN W1.out _⟩))
          · have EE : ∀ v, (if q < (lo + h.incH - r) then 0 else if t < (lo + h.incH - r) then (lo + h.incH - r) else (if q < t then q else t) - ((if q < t then q else t) - (lo + h.incH - r)) % h.incH) = v → HtP h x t v := fun v hv => HE.out v (by unfold endV; rw [hr, if_neg c0]; exact hv)
            have HEE := Lib.hid EE
            clear EE HE
            have c0n : ¬ r = 0 := c0
            by_cases c1 : q < (lo + h.incH - r)
            · try (exfalso; omega)
              all_goals ((have HF := Lib.hid (HEE.out _ (if_pos c1))); (clear HEE); (go_wp2_with fail); (go_quiet (fail)); (go_wp2_with fail); (go_ret); (exact ⟨_, rfl, HF.out, below_drewN W1.out _⟩))
            · by_cases c2 : t < (lo + h.incH - r)
              · try (exfalso; omega)
                all_goals ((have HF := Lib.hid (HEE.out _ ((if_neg c1).trans (if_pos c2)))); (clear HEE); (go_wp2_with fail); (go_quiet (fail)); (go_wp2_with fail); (go_ret); (exact ⟨_, rfl, HF.out, below_drewN W1.out _⟩))
              · by_cases c3 : q < t
                · try (exfalso; omega)
                  all_goals ((obtain ⟨r2, hr2⟩ : ∃ r2, (q - (lo + h.incH - r)) % h.incH = r2 := ⟨_, rfl⟩); (have q0 := Int.emod_nonneg (q - (lo + h.incH - r)) (by omega : h.incH ≠ 0)); (have q1 := Int.emod_lt_of_pos (q - (lo + h.incH - r)) (by omega : 0 < h.incH)); (rw [hr2] at q0 q1); (have g1 : IntKind.i64.wrap (q - (lo + h.incH - r)) = q - (lo + h.incH - r) := IntWalk.i64_in _ (by omega)); (have g2 : IntKind.i64.wrap (q - r2) = q - r2 := IntWalk.i64_in _ (by omega)); (have HF := Lib.hid (HEE.out (q - r2) (by rw [if_neg c1, if_neg c2, if_pos c3, hr2]))); (clear HEE); (go_wp2_with fail); (go_quiet (fail)); (go_wp2_with fail); (go_ret); (exact ⟨_, rfl, HF.out, below_drewN W1.out _⟩))
                · try (exfalso; omega)
                  all_goals ((obtain ⟨r2, hr2⟩ : ∃ r2, (t - (lo + h.incH - r)) % h.incH = r2 := ⟨_, rfl⟩); (have q0 := Int.emod_nonneg (t - (lo + h.incH - r)) (by omega : h.incH ≠ 0)); (have q1 := Int.emod_lt_of_pos (t - (lo + h.incH - r)) (by omega : 0 < h.incH)); (rw [hr2] at q0 q1); (have g1 : IntKind.i64.wrap (t - (lo + h.incH - r)) = t - (lo + h.incH - r) := IntWalk.i64_in _ (by omega)); (have g2 : IntKind.i64.wrap (t - r2) = t - r2 := IntWalk.i64_in _ (by omega)); (have HF := Lib.hid (HEE.out (t - r2) (by rw [if_neg c1, if_neg c2, if_neg c3, hr2]))); (clear HEE); (go_wp2_with fail); (go_quiet (fail)); (go_wp2_with fail); (go_ret); (exact ⟨_, rfl, HF.out, below_drewN W1.out _⟩))
        · have HE := Lib.hid (HEQ.out 65535 (by omega))
          clear HEQ
          go_upto_region 11 with fail
          obtain ⟨r, hr⟩ : ∃ r, (lo - h.baseH) % h.incH = r := ⟨_, rfl⟩
          have r0 := Int.emod_nonneg (lo - h.baseH) (by omega : h.incH ≠ 0)
          have r1 := Int.emod_lt_of_pos (lo - h.baseH) (by omega : 0 < h.incH)
          rw [hr] at r0 r1
          have f1 : IntKind.i64.wrap (lo - h.baseH) = lo - h.baseH := IntWalk.i64_in _ (by omega)
          have f2 : IntKind.i64.wrap (lo + h.incH) = lo + h.incH := IntWalk.i64_in _ (by omega)
          have f3 : IntKind.i64.wrap (lo + h.incH - r) = lo + h.incH - r := IntWalk.i64_in _ (by omega)
          by_cases c0 : r = 0
          · have EE : ∀ v, (if 65535 < lo then 0 else if t < lo then lo else (if 65535 < t then 65535 else t) - ((if 65535 < t then 65535 else t) - lo) % h.incH) = v → HtP h x t v := fun v hv => HE.out v (by unfold endV; rw [hr, if_pos c0]; exact hv)
            have HEE := Lib.hid EE
            clear EE HE
            subst c0
            by_cases c1 : 65535 < lo
            · try (exfalso; omega)
              all_goals ((have HF := Lib.hid (HEE.out _ (if_pos c1))); (clear HEE); (go_wp2_with fail); (go_ret); (exact ⟨_, rfl, HF.out, below_drewN W1.out _⟩))
            · by_cases c2 : t < lo
              · try (exfalso; omega)
                all_goals ((have HF := Lib.hid (HEE.out _ ((if_neg c1).trans (if_pos c2)))); (clear HEE); (go_wp2_with fail); (go_ret); (exact ⟨_, rfl, HF.out, below_drewN W1.out _⟩))
              · by_cases c3 : 65535 < t
                · try (exfalso; omega)
                  all_goals ((obtain ⟨r2, hr2⟩ : ∃ r2, (65535 - lo) % h.incH = r2 := ⟨_, rfl⟩); (have q0 := Int.emod_nonneg (65535 - lo) (by omega : h.incH ≠ 0)); (have q1 := Int.emod_lt_of_pos (65535 - lo) (by omega : 0 < h.incH)); (rw [hr2] at q0 q1); (have g1 : IntKind.i64.wrap (65535 - lo) = 65535 - lo := IntWalk.i64_in _ (by omega)); (have g2 : IntKind.i64.wrap (65535 - r2) = 65535 - r2 := IntWalk.i64_in _ (by omega)); (have HF := Lib.hid (HEE.out (65535 - r2) (by rw [if_neg c1, if_neg c2, if_pos c3, hr2]))); (clear HEE); (go_wp2_with fail); (go_ret); (exact ⟨_, rfl, HF.out, below_drewN W1.out _⟩))
                · try (exfalso; omega)
                  all_goals ((obtain ⟨r2, hr2⟩ : ∃ r2, (t - lo) % h.incH = r2 := ⟨_, rfl⟩); (have q0 := Int.emod_nonneg (t - lo) (by omega : h.incH ≠ 0)); (have q1 := Int.emod_lt_of_pos (t - lo) (by omega : 0 < h.incH)); (rw [hr2] at q0 q1); (have g1 : IntKind.i64.wrap (t - lo) = t - lo := IntWalk.i64_in _ (by omega)); (have g2 : IntKind.i64.wrap (t - r2) = t - r2 := IntWalk.i64_in _ (by omega)); (have HF := Lib.hid (HEE.out (t - r2) (by rw [if_neg c1, if_neg c2, if_neg c3, hr2]))); (clear HEE); (go_wp2_with fail); (go_ret); (exact ⟨_, rfl, HF.out, below_drewN W1.out _⟩))
          · have EE : ∀ v, (if 65535 < (lo + h.incH - r) then 0 else if t < (lo + h.incH - r) then (lo + h.incH - r) else (if 65535 < t then 65535 else t) - ((if 65535 < t then 65535 else t) - (lo + h.incH - r)) % h.incH) = v → HtP h x t v := fun v hv => HE.out v (by unfold endV; rw [hr, if_neg c0]; exact hv)
            have HEE := Lib.hid EE
            clear EE HE
            have c0n : ¬ r = 0 := c0
            by_cases c1 : 65535 < (lo + h.incH - r)
            · try (exfalso; omega)
              all_goals ((have HF := Lib.hid (HEE.out _ (if_pos c1))); (clear HEE); (go_wp2_with fail); (go_quiet (fail)); (go_wp2_with fail); (go_ret); (exact ⟨_, rfl, HF.out, below_drewN W1.out _⟩))
            · by_cases c2 : t < (lo + h.incH - r)
              · try (exfalso; omega)
                all_goals ((have HF := Lib.hid (HEE.out _ ((if_neg c1).trans (if_pos c2)))); (clear HEE); (go_wp2_with fail); (go_quiet (fail)); (go_wp2_with fail); (go_ret); (exact ⟨_, rfl, HF.out, below_drewN W1.out _⟩))
              · by_cases c3 : 65535 < t
                · try (exfalso; omega)
                  all_goals ((obtain ⟨r2, hr2⟩ : ∃ r2, (65535 - (lo + h.incH - r)) % h.incH = r2 := ⟨_, rfl⟩); (have q0 := Int.emod_nonneg (65535 - (lo + h.incH - r)) (by omega : h.incH ≠ 0)); (have q1 := Int.emod_lt_of_pos (65535 - (lo + h.incH - r)) (by omega : 0 < h.incH)); (rw [hr2] at q0 q1); (have g1 : IntKind.i64.wrap (65535 - (lo + h.incH - r)) = 65535 - (lo + h.incH - r) := IntWalk.i64_in _ (by omega)); (have g2 : IntKind.i64.wrap (65535 - r2) = 65535 - r2 := IntWalk.i64_in _ (by omega)); (have HF := Lib.hid (HEE.out (65535 - r2) (by rw [if_neg c1, if_neg c2, if_pos c3, hr2]))); (clear HEE); (go_wp2_with fail); (go_quiet (fail)); (go_wp2_with fail); (go_ret); (exact ⟨_, rfl, HF.out, below_drewN W1.out _⟩))
                · try (exfalso; omega)
                  all_goals ((obtain ⟨r2, hr2⟩ : ∃ r2, (t - (lo + h.incH - r)) % h.incH = r2 := ⟨_, rfl⟩); (have q0 := Int.emod_nonneg (t - (lo + h.incH - r)) (by omega : h.incH ≠ 0)); (have q1 := Int.emod_lt_of_pos (t - (lo + h.incH - r)) (by omega : 0 < h.incH)); (rw [hr2] at q0 q1); (have g1 : IntKind.i64.wrap (t - (lo + h.incH - r)) = t - (lo + h.incH - r) := IntWalk.i64_in _ (by omega)); (have g2 : IntKind.i64.wrap (t - r2) = t - r2 := IntWalk.i64_in _ (by omega)); (have HF := Lib.hid (HEE.out (t - r2) (by rw [if_neg c1, if_neg c2, if_neg c3, hr2]))); (clear HEE); (go_wp2_with fail); (go_quiet (fail)); (go_wp2_with fail); (go_ret); (exact ⟨_, rfl, HF.out, below_drewN W1.out _⟩))
end Sz
end Go.Proofs.Ytdmoncpeoaoppaa
