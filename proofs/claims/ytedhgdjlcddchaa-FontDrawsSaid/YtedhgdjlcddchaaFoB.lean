import Derived.Test.YtedhgdjlcddchaaGeoA
import Derived.Test.YtedhgdjlcddchaaFoA
import Derived.LoopTactic
import Derived.Laws.BitsAllLaws
import Derived.IntWalk
namespace Go.Proofs.Ytedhgdjlcddchaa
open Go.RowKit
theorem ofInt_i64 (a : Nat) (ha : a < 9223372036854775808) : (BitVec.ofInt 64 (a : Int)).toNat = a := ofInt_u64 a (by omega)
theorem i64_and_nat (a b : Nat) (ha : a < 9223372036854775808) (hb : b < 9223372036854775808) : bits .and .i64 (a : Int) (b : Int) = ((a &&& b : Nat) : Int) := by
  have h : a &&& b ≤ a := Nat.and_le_left
  have e : (BitVec.ofInt 64 (a : Int) &&& BitVec.ofInt 64 (b : Int)).toNat = a &&& b := by rw [BitVec.toNat_and, ofInt_i64 a ha, ofInt_i64 b hb]
  show IntKind.i64.wrap ((BitVec.ofInt 64 (a : Int) &&& BitVec.ofInt 64 (b : Int)).toNat) = _
  rw [e]
  exact IntWalk.i64_in _ (by omega)
theorem i64_or_nat (a b : Nat) (ha : a < 65536) (hb : b < 65536) : bits .or .i64 (a : Int) (b : Int) = ((a ||| b : Nat) : Int) := by
  have h : a ||| b < 2 ^ 16 := Nat.or_lt_two_pow (by omega) (by omega)
  have e : (BitVec.ofInt 64 (a : Int) ||| BitVec.ofInt 64 (b : Int)).toNat = a ||| b := by rw [BitVec.toNat_or, ofInt_i64 a (by omega), ofInt_i64 b (by omega)]
  show IntKind.i64.wrap ((BitVec.ofInt 64 (a : Int) ||| BitVec.ofInt 64 (b : Int)).toNat) = _
  rw [e]
  exact IntWalk.i64_in _ (by omega)
theorem box_c (r : Nat) (w : World) (hr : r ≤ 15) : Calls Try.prog 59 #[.int .i64 r] w fun e w' => e = .returned (.int .u8 (boxN r : Nat)) ∧ w = w' := by
  have : r = 0 ∨ r = 1 ∨ r = 2 ∨ r = 3 ∨ r = 4 ∨ r = 5 ∨ r = 6 ∨ r = 7 ∨ r = 8 ∨ r = 9 ∨ r = 10 ∨ r = 11 ∨ r = 12 ∨ r = 13 ∨ r = 14 ∨ r = 15 := by omega
  rcases this with rfl | rfl | rfl | rfl | rfl | rfl | rfl | rfl | rfl | rfl | rfl | rfl | rfl | rfl | rfl | rfl
  all_goals
    go_enter Try.func59, Try.ntmps59
    go_wp2
    go_ret
    exact ⟨rfl, rfl⟩
theorem mixed_c (c r : Nat) (w : World) (hc : c ≤ 126) (hr : r ≤ 15) : Calls Try.prog 58 #[.int .i64 c, .int .i64 r] w fun e w' => e = .returned (.int .u8 ((if r = 0 ∨ r = 15 then 0 else mixN c r : Nat) : Nat)) ∧ w = w' := by
  by_cases h0 : r = 0
  · subst h0
    go_enter Try.func58, Try.ntmps58
    go_wp2
    go_ret
    exact ⟨rfl, rfl⟩
  by_cases h1 : r = 15
  · subst h1
    go_enter Try.func58, Try.ntmps58
    go_wp2
    go_ret
    exact ⟨rfl, rfl⟩
  rw [if_neg (by omega)]
  have e0 : ((r * (c / 8) : Nat) : Int) = (r : Int) * ((c : Int) / 8) := by rw [Int.natCast_mul, Int.natCast_ediv]; rfl
  have b0 : r * (c / 8) ≤ 15 * 15 := Nat.mul_le_mul hr (by omega)
  have b1 : 0 ≤ (r : Int) * ((c : Int) / 8) := by rw [← e0]; omega
  have b2 : (r : Int) * ((c : Int) / 8) ≤ 225 := by rw [← e0]; omega
  have hs : ((sumN c r : Nat) : Int) = (c : Int) * 31 + (r : Int) * 53 + (r : Int) * ((c : Int) / 8) := by unfold sumN; rw [← e0]; omega
  have hb : sumN c r < 9223372036854775808 := by unfold sumN; omega
  have hp6 : (2 : Nat) ^ (1 + (c + r) % 6) ≤ 2 ^ 6 := Nat.pow_le_pow_right (by omega) (by omega)
  have hm := (mix_lt (c := c) (r := r) hc hr).1
  have key : bits .or .i64 (bits .and .i64 ((c : Int) * 31 + (r : Int) * 53 + (r : Int) * ((c : Int) / 8)) 126) (wrap64 (2 ^ (1 + (c + r) % 6))) % 256 = ((mixN c r : Nat) : Int) := by
    have h1 : wrap64 (2 ^ (1 + (c + r) % 6)) = ((2 ^ (1 + (c + r) % 6) : Nat) : Int) := by
      have : ((2 ^ (1 + (c + r) % 6) : Nat) : Int) = (2 : Int) ^ (1 + (c + r) % 6) := by rw [Int.natCast_pow]; rfl
      rw [← this]; generalize 2 ^ (1 + (c + r) % 6) = z at hp6; exact IntWalk.wrap64_in _ (by omega)
    rw [h1, ← hs, show (126 : Int) = ((126 : Nat) : Int) from rfl, i64_and_nat _ _ hb (by omega)]
    have h2 : sumN c r &&& 126 ≤ 126 := Nat.and_le_right
    rw [i64_or_nat _ _ (by omega) (Nat.lt_of_le_of_lt hp6 (by decide))]
    show (((mixN c r : Nat) : Int)) % 256 = _
    omega
  have HK := Lib.hid key
  have n0 : ((r : Int) == 0) = false := by simp; omega
  have n1 : ((r : Int) == 15) = false := by simp; omega
  clear key hs e0
  go_enter Try.func58, Try.ntmps58
  go_wp2
  go_ret
  exact ⟨ret_int HK.out, rfl⟩
theorem bits_c (c row : Int) (w : World) (hc : 0 ≤ c) (hc' : c ≤ 255) : Calls Try.prog 28 #[.int .u8 c, .int .i64 row] w fun e w' => e = .returned (.int .u8 (bitI c row)) ∧ w = w' := by
  obtain ⟨c, rfl⟩ := Int.eq_ofNat_of_zero_le hc
  by_cases h0 : row < 0
  · have e : bitI c row = 0 := by unfold bitI; rw [if_pos h0]
    rw [e]
    go_enter Try.func28, Try.ntmps28
    go_wp2
    all_goals (go_ret; exact ⟨rfl, rfl⟩)
  obtain ⟨r, rfl⟩ := Int.eq_ofNat_of_zero_le (show 0 ≤ row by omega)
  have e : bitI c r = bitN c r := by unfold bitI; rw [if_neg h0, Int.toNat_natCast, Int.toNat_natCast]
  rw [e]
  clear e
  by_cases h1 : 15 < r
  · have e : bitN c r = 0 := by unfold bitN; rw [if_pos (.inl h1)]
    rw [e]
    have h1' : 16 ≤ r := h1
    go_enter Try.func28, Try.ntmps28
    go_wp2
    all_goals (go_ret; exact ⟨rfl, rfl⟩)
  by_cases h2 : c = 32
  · subst h2
    have e : bitN 32 r = 0 := by unfold bitN; rw [if_pos (.inr rfl)]
    rw [e]
    go_enter Try.func28, Try.ntmps28
    go_wp2
    all_goals (go_ret; exact ⟨rfl, rfl⟩)
  have n2 : (((c : Nat) : Int) == 32) = false := by simp; omega
  by_cases h3 : 32 < c ∧ c ≤ 126
  · obtain ⟨h3, h4⟩ := h3
    have e : bitN c r = (if r = 0 ∨ r = 15 then 0 else mixN c r) := by unfold bitN; rw [if_neg (by omega), if_pos ⟨h3, h4⟩]
    rw [e]
    have HC := fun W => mixed_c c r W h4 (by omega)
    generalize (if r = 0 ∨ r = 15 then 0 else mixN c r) = z at HC ⊢
    go_enter Try.func28, Try.ntmps28
    go_wp2_with (go_at_call 58; refine (HC _).mono ?_; rintro e w' ⟨rfl, rfl⟩)
    go_ret
    exact ⟨rfl, rfl⟩
  · have e : bitN c r = boxN r := by unfold bitN; rw [if_neg (by omega), if_neg h3]
    rw [e]
    have HC := fun W => box_c r W (by omega)
    generalize boxN r = z at HC ⊢
    have hcase : c < 32 ∨ 126 < c := by omega
    clear h3
    rcases hcase with h3 | h3
    all_goals
      go_enter Try.func28, Try.ntmps28
      go_wp2_with (go_at_call 59; refine (HC _).mono ?_; rintro e w' ⟨rfl, rfl⟩)
      go_ret
      exact ⟨rfl, rfl⟩
end Go.Proofs.Ytedhgdjlcddchaa
