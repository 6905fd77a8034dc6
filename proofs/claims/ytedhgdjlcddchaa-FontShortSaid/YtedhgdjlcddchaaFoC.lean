import Derived.Test.YtedhgdjlcddchaaFoB
namespace Go.Proofs.Ytedhgdjlcddchaa
open Go.RowKit
theorem pow2_le {k : Nat} (hk : k ≤ 7) : (2 : Nat) ^ k ≤ 128 := Nat.pow_le_pow_right (n := 2) (by omega) hk
theorem power_c (n : Nat) (w : World) (hn : n ≤ 7) : Calls Try.prog 60 #[.int .i64 n] w fun e w' => e = .returned (.int .i64 (2 ^ n : Nat)) ∧ w = w' := by
  go_enter Try.func60, Try.ntmps60
  go_wp2
  go_loop [3, 4] (fun p i => ∃ k : Nat, k ≤ n ∧ i = .int .i64 k ∧ p = .int .i64 (2 ^ k : Nat)) (fun _ i => n - (intOf i).toNat)
  case atStart => exact ⟨0, Nat.zero_le _, rfl, rfl⟩
  case round =>
    obtain ⟨k, hk, rfl, rfl⟩ := hrel
    by_cases hlt : k < n
    · have hb := pow2_le (k := k) (by omega)
      have HS := Lib.hid (show 2 ^ (k + 1) = 2 * 2 ^ k by rw [Nat.pow_succ]; omega)
      generalize 2 ^ k = z at hb HS ⊢
      go_wp2
      go_round
      case rel => exact ⟨k + 1, by omega, by go_num, by rw [HS.out]; go_num⟩
      case measure => simp [intOf]; omega
    · obtain rfl : k = n := by omega
      go_wp2
      go_ret
      exact ⟨rfl, rfl⟩
theorem rbits_in (c r : Nat) (w : World) (hc : 32 < c ∧ c ≤ 126) (hr : 0 < r ∧ r < 15) : Calls Try.prog 29 #[.int .u8 c, .int .i64 r] w fun e w' => e = .returned (.int .u8 (bitN c r : Nat)) ∧ w = w' := by
  have n0 : ((r : Int) == 0) = false := by simp; omega
  have n1 : ((r : Int) == 15) = false := by simp; omega
  have n2 : ((c : Int) == 32) = false := by simp; omega
  have e0 : ((r * (c / 8) : Nat) : Int) = (r : Int) * ((c : Int) / 8) := by rw [Int.natCast_mul, Int.natCast_ediv]; rfl
  have b0 : r * (c / 8) ≤ 15 * 15 := Nat.mul_le_mul (by omega) (by omega)
  have b1 : 0 ≤ (r : Int) * ((c : Int) / 8) := by rw [← e0]; omega
  have b2 : (r : Int) * ((c : Int) / 8) ≤ 225 := by rw [← e0]; omega
  have hs : (c : Int) * 31 + (r : Int) * 53 + (r : Int) * ((c : Int) / 8) = ((sumN c r : Nat) : Int) := by unfold sumN; rw [← e0]; omega
  have hb : sumN c r ≤ 10000 := by unfold sumN; omega
  have hm := (mix_lt (c := c) (r := r) hc.2 (by omega)).1
  clear e0
  go_enter Try.func29, Try.ntmps29
  go_wp2_with (fail)
  clear n0 n1 n2
  clear hs b1 b2 b0
  generalize hS : sumN c r = S at hb ⊢
  have HS := Lib.hid hS
  clear hS
  go_loop [7, 8] (fun o i => ∃ k : Nat, k ≤ 6 ∧ i = .int .i64 (k + 1) ∧ o = .int .i64 (refS c r k : Nat)) (fun _ i => 7 - (intOf i).toNat)
  case atStart => exact ⟨0, Nat.zero_le _, rfl, rfl⟩
  case round =>
    obtain ⟨k, hk, rfl, rfl⟩ := hrel
    have hle := refS_le c r k
    by_cases hlt : k < 6
    · have hp := pow2_le (k := k + 1) (by omega)
      have hle' := refS_le c r (k + 1)
      have HP : ∀ W, Calls Try.prog 60 #[.int .i64 ((k : Int) + 1)] W fun e w' => e = .returned (.int .i64 (2 ^ (k + 1) : Nat)) ∧ W = w' := fun W => by
        have h := power_c (k + 1) W (by omega)
        rw [show ((k + 1 : Nat) : Int) = (k : Int) + 1 by omega] at h
        exact h
      have hpos : 0 < 2 ^ (k + 1) := Nat.pow_pos (by omega)
      have hstep : refS c r (k + 1) = if S / 2 ^ (k + 1) % 2 = 1 ∨ k + 1 = 1 + (c + r) % 6 then refS c r k + 2 ^ (k + 1) else refS c r k := by rw [← HS.out]; rfl
      have HT := Lib.hid hstep
      clear hstep
      generalize 2 ^ (k + 1) = z at HP hp hle hpos HT ⊢
      clear hle'
      have q0 : (S : Int) / (z : Int) = ((S / z : Nat) : Int) := by rw [Int.natCast_ediv]
      have q1 : 0 ≤ (S : Int) / (z : Int) := by rw [q0]; exact Int.natCast_nonneg _
      have q2 : (S : Int) / (z : Int) ≤ 10000 := by rw [q0]; exact Int.ofNat_le.2 (Nat.le_trans (Nat.div_le_self S z) hb)
      have p1 : (((S : Int) / (z : Int)) % 2 == 1) = decide (S / z % 2 = 1) := by rw [q0]; generalize S / z = d; rw [Bool.eq_iff_iff]; simp; omega
      have p2 : ((k : Int) + 1 == 1 + ((c : Int) + (r : Int)) % 6) = decide (k + 1 = 1 + (c + r) % 6) := by rw [Bool.eq_iff_iff]; simp; omega
      by_cases h1 : S / z % 2 = 1
      · rw [decide_eq_true h1] at p1
        have hR := HT.out
        rw [if_pos (.inl h1)] at hR
        have HR := Lib.hid hR
        clear hR HT h1 p2 q0
        go_wp2_with (go_at_call 60; refine (HP _).mono ?_; rintro e w' ⟨rfl, rfl⟩)
        go_round
        case rel => exact ⟨k + 1, by omega, by go_num, by rw [HR.out]; go_num⟩
        case measure => simp [intOf]; omega
      · rw [decide_eq_false h1] at p1
        by_cases h2 : k + 1 = 1 + (c + r) % 6
        · rw [decide_eq_true h2] at p2
          have hR := HT.out
          rw [if_pos (.inr h2)] at hR
          have HR := Lib.hid hR
          clear hR HT h1 h2 q0
          go_wp2_with (go_at_call 60; refine (HP _).mono ?_; rintro e w' ⟨rfl, rfl⟩)
          go_round
          case rel => exact ⟨k + 1, by omega, by go_num, by rw [HR.out]; go_num⟩
          case measure => simp [intOf]; omega
        · rw [decide_eq_false h2] at p2
          have hR := HT.out
          rw [if_neg (fun h => h.elim h1 h2)] at hR
          have HR := Lib.hid hR
          clear hR HT h1 h2 q0
          go_wp2_with (go_at_call 60; refine (HP _).mono ?_; rintro e w' ⟨rfl, rfl⟩)
          go_round
          case rel => exact ⟨k + 1, by omega, by go_num, by rw [HR.out]⟩
          case measure => simp [intOf]; omega
    · obtain rfl : k = 6 := by omega
      have hR := ref_mix (c := c) (r := r) hc.2 (by omega)
      have HR := Lib.hid (show ((bitN c r : Nat) : Int) = ((refS c r 6 : Nat) : Int) % 256 by
        unfold bitN
        rw [if_neg (by omega), if_pos hc, if_neg (by omega), hR]; omega)
      clear hle hR
      go_wp2_with (fail)
      go_ret
      exact ⟨ret_int (HR.out.symm), rfl⟩
theorem rbits_c (c row : Int) (w : World) (hc : 0 ≤ c) (hc' : c ≤ 255) : Calls Try.prog 29 #[.int .u8 c, .int .i64 row] w fun e w' => e = .returned (.int .u8 (bitI c row)) ∧ w = w' := by
  obtain ⟨c, rfl⟩ := Int.eq_ofNat_of_zero_le hc
  by_cases h0 : row < 0
  · have e : bitI c row = 0 := by unfold bitI; rw [if_pos h0]
    rw [e]
    go_enter Try.func29, Try.ntmps29
    go_wp2_with (fail)
    all_goals (go_ret; exact ⟨rfl, rfl⟩)
  obtain ⟨r, rfl⟩ := Int.eq_ofNat_of_zero_le (show 0 ≤ row by omega)
  have e : bitI c r = bitN c r := by unfold bitI; rw [if_neg h0, Int.toNat_natCast, Int.toNat_natCast]
  rw [e]
  clear e
  by_cases h1 : 15 < r
  · have e : bitN c r = 0 := by unfold bitN; rw [if_pos (.inl h1)]
    rw [e]
    have h1' : 16 ≤ r := h1
    go_enter Try.func29, Try.ntmps29
    go_wp2_with (fail)
    all_goals (go_ret; exact ⟨rfl, rfl⟩)
  by_cases h2 : c = 32
  · subst h2
    have e : bitN 32 r = 0 := by unfold bitN; rw [if_pos (.inr rfl)]
    rw [e]
    go_enter Try.func29, Try.ntmps29
    go_wp2_with (fail)
    all_goals (go_ret; exact ⟨rfl, rfl⟩)
  have n2 : (((c : Nat) : Int) == 32) = false := by simp; omega
  by_cases h3 : 32 < c ∧ c ≤ 126
  · by_cases h4 : 0 < r ∧ r < 15
    · exact rbits_in c r w h3 h4
    · have e : bitN c r = 0 := by unfold bitN; rw [if_neg (by omega), if_pos h3, if_pos (by omega)]
      rw [e]
      obtain ⟨h3, h5⟩ := h3
      have hr : r = 0 ∨ r = 15 := by omega
      clear h4
      rcases hr with rfl | rfl
      all_goals
        go_enter Try.func29, Try.ntmps29
        go_wp2_with (fail)
        all_goals (go_ret; exact ⟨rfl, rfl⟩)
  · have e : bitN c r = boxN r := by unfold bitN; rw [if_neg (by omega), if_neg h3]
    rw [e]
    have hcase : c < 33 ∨ (33 ≤ c ∧ 126 < c) := by omega
    have hr : r = 2 ∨ r = 13 ∨ r < 2 ∨ (2 < r ∧ r < 13) ∨ 13 < r := by omega
    clear h3
    rcases hcase with h3 | ⟨h3, h5⟩
    all_goals
      rcases hr with rfl | rfl | hr | ⟨hr, hr'⟩ | hr
      · go_enter Try.func29, Try.ntmps29
        go_wp2_with (fail)
        all_goals (go_ret; exact ⟨rfl, rfl⟩)
      · go_enter Try.func29, Try.ntmps29
        go_wp2_with (fail)
        all_goals (go_ret; exact ⟨rfl, rfl⟩)
      · have e : boxN r = 0 := by unfold boxN; rw [if_neg (by omega), if_neg (by omega)]
        have n3 : ((r : Int) == 2) = false := by simp; omega
        have n4 : ((r : Int) == 13) = false := by simp; omega
        rw [e]
        go_enter Try.func29, Try.ntmps29
        go_wp2_with (fail)
        all_goals (go_ret; exact ⟨rfl, rfl⟩)
      · have e : boxN r = 66 := by unfold boxN; rw [if_neg (by omega), if_pos (by omega)]
        have n3 : ((r : Int) == 2) = false := by simp; omega
        have n4 : ((r : Int) == 13) = false := by simp; omega
        rw [e]
        go_enter Try.func29, Try.ntmps29
        go_wp2_with (fail)
        all_goals (go_ret; exact ⟨rfl, rfl⟩)
      · have e : boxN r = 0 := by unfold boxN; rw [if_neg (by omega), if_neg (by omega)]
        have n3 : ((r : Int) == 2) = false := by simp; omega
        have n4 : ((r : Int) == 13) = false := by simp; omega
        rw [e]
        go_enter Try.func29, Try.ntmps29
        go_wp2_with (fail)
        all_goals (go_ret; exact ⟨rfl, rfl⟩)
end Go.Proofs.Ytedhgdjlcddchaa
