import Derived.Test.YtedhgdjlcddchaaGeoA
import Derived.LoopTactic
import Derived.Deep.QuietTactic
import Derived.BigQuiet
import Derived.Laws.BitsAllLaws
import Derived.IntWalk
namespace Go.Proofs.Ytedhgdjlcddchaa
open Go.RowKit
/-- One part of a colour over another one. -/
def mixI (u o a : Int) : Int := (o * a + u * (255 - a) + 127) / 255
theorem mix_bd {u o a : Int} (hu : 0 ≤ u) (hu' : u ≤ 255) (ho : 0 ≤ o) (ho' : o ≤ 255) (ha : 0 ≤ a) (ha' : a ≤ 255) : 0 ≤ mixI u o a ∧ mixI u o a ≤ 255 := by
  have h1 : 0 ≤ o * a := Int.mul_nonneg ho ha
  have h2 : 0 ≤ u * (255 - a) := Int.mul_nonneg hu (by omega)
  have h3 : o * a ≤ 255 * a := Int.mul_le_mul_of_nonneg_right ho' ha
  have h4 : u * (255 - a) ≤ 255 * (255 - a) := Int.mul_le_mul_of_nonneg_right hu' (by omega)
  unfold mixI; omega
/-- The part of a colour that lies so many bits up. -/
def partI (c : Int) (k : Nat) : Int := c / 256 ^ k % 256
/-- What covers: the upper colour as if it covered all. -/
def fullI (o : Int) : Int := o % 16777216 + 4278190080
/-- The parts mixed so far. -/
def sumB (u o : Int) : Nat → Int
  | 0 => 0
  | k + 1 => sumB u o k + 256 ^ k * mixI (partI u k) (partI (fullI o) k) (o / 16777216)
def blendI (u o : Int) : Int := sumB u o 4
theorem full_bd (o : Int) : 0 ≤ fullI o ∧ fullI o < 4294967296 := by unfold fullI; omega
theorem part_bd (c : Int) (k : Nat) : 0 ≤ partI c k ∧ partI c k ≤ 255 := by unfold partI; omega
theorem sumB_bd {u o : Int} (h : 0 ≤ o) (h' : o < 4294967296) (k : Nat) : 0 ≤ sumB u o k ∧ sumB u o k < 256 ^ k := by
  induction k with
  | zero => exact ⟨by simp [sumB], by simp [sumB]⟩
  | succ k ih =>
    obtain ⟨i1, i2⟩ := ih
    obtain ⟨a1, a2⟩ := part_bd u k
    obtain ⟨b1, b2⟩ := part_bd (fullI o) k
    obtain ⟨m1, m2⟩ := mix_bd a1 a2 b1 b2 (a := o / 16777216) (by omega) (by omega)
    have hp : (0 : Int) < 256 ^ k := Int.pow_pos (by omega)
    have h1 := Int.mul_nonneg (Int.le_of_lt hp) m1
    have h2 : 256 ^ k * mixI (partI u k) (partI (fullI o) k) (o / 16777216) ≤ 256 ^ k * 255 := Int.mul_le_mul_of_nonneg_left m2 (Int.le_of_lt hp)
    refine ⟨by simp only [sumB]; omega, ?_⟩
    simp only [sumB, Int.pow_succ]; omega
theorem or_full {o : Int} (h : 0 ≤ o) (h' : o < 4294967296) : ((o.toNat ||| 4278190080 : Nat) : Int) = fullI o := by
  obtain ⟨n, rfl⟩ := Int.eq_ofNat_of_zero_le h
  have e : (n ||| 4278190080 : Nat) = n % 16777216 + 4278190080 := by
    have := nat_join 24 4278190080 (n % 16777216) (by decide) (Nat.mod_lt _ (by decide))
    apply Nat.eq_of_testBit_eq
    intro i
    rw [Nat.add_comm, ← this]
    simp only [Nat.testBit_or, show (16777216 : Nat) = 2 ^ 24 from rfl, Nat.testBit_mod_two_pow]
    by_cases hi : i < 24
    · simp [hi, Bool.or_comm]
    · by_cases hi' : i < 32
      · have : Nat.testBit 4278190080 i = true := by
          have : i = 24 ∨ i = 25 ∨ i = 26 ∨ i = 27 ∨ i = 28 ∨ i = 29 ∨ i = 30 ∨ i = 31 := by omega
          rcases this with rfl | rfl | rfl | rfl | rfl | rfl | rfl | rfl <;> rfl
        simp [this]
      · have h1 : Nat.testBit n i = false := Nat.testBit_lt_two_pow (Nat.lt_of_lt_of_le (by omega : n < 2 ^ 32) (Nat.pow_le_pow_right (by omega) (by omega)))
        simp [h1, hi]
  unfold fullI
  rw [Int.toNat_natCast, e]; omega
theorem and_255 {x : Int} (h : 0 ≤ x) (h' : x < 4294967296) : bits .and .u32 x 255 = x % 256 := by
  obtain ⟨n, rfl⟩ := Int.eq_ofNat_of_zero_le h
  have := u32_and_nat n 255 (by omega) (by omega)
  rw [nat_mask8] at this
  exact this.trans (by omega)
theorem or_lit (j : Nat) {s m : Int} {p : Nat} (hp : p = 2 ^ j) (hb : p ≤ 16777216) (hs : 0 ≤ s) (hs' : s < p) (hm : 0 ≤ m) (hm' : m ≤ 255) : bits .or .u32 s (m * (p : Int) % 4294967296) = s + (p : Int) * m := by
  obtain ⟨m, rfl⟩ := Int.eq_ofNat_of_zero_le hm
  obtain ⟨s, rfl⟩ := Int.eq_ofNat_of_zero_le hs
  have h2 : m * p ≤ 255 * 16777216 := Nat.mul_le_mul (by omega) hb
  have e1 : ((m : Int) * (p : Int) % 4294967296) = ((m * p : Nat) : Int) := by rw [← Int.natCast_mul]; omega
  have e2 : ((p : Int) * (m : Int)) = ((m * p : Nat) : Int) := by rw [← Int.natCast_mul, Nat.mul_comm]
  have e3 := nat_join j (m * p) s (by rw [hp]; exact Nat.mul_mod_left _ _) (by omega)
  rw [e1, e2, u32_or_nat _ _ (by omega) (by omega), Nat.or_comm, e3]; omega
theorem or_join {s m p : Int} (k : Nat) (hp : p = 256 ^ k) (hk : k ≤ 3) (hs : 0 ≤ s) (hs' : s < 256 ^ k) (hm : 0 ≤ m) (hm' : m ≤ 255) : bits .or .u32 s (m * p % 4294967296) = s + 256 ^ k * m := by
  have : k = 0 ∨ k = 1 ∨ k = 2 ∨ k = 3 := by omega
  rcases this with rfl | rfl | rfl | rfl
  · obtain rfl : p = 1 := hp
    exact or_lit 0 (p := 1) rfl (by omega) hs hs' hm hm'
  · obtain rfl : p = 256 := hp
    exact or_lit 8 (p := 256) rfl (by omega) hs hs' hm hm'
  · obtain rfl : p = 65536 := hp
    exact or_lit 16 (p := 65536) rfl (by omega) hs hs' hm hm'
  · obtain rfl : p = 16777216 := hp
    exact or_lit 24 (p := 16777216) rfl (by omega) hs hs' hm hm'
theorem sumB_step {u o p x y : Int} (k : Nat) (hp : p = 256 ^ k) (hk : k ≤ 3) (ho : 0 ≤ o) (ho' : o < 4294967296) (hx : x = partI u k) (hy : y = partI (fullI o) k) :
    bits .or .u32 (sumB u o k) (mixI x y (o / 16777216) * p % 4294967296) = sumB u o (k + 1) := by
  obtain ⟨i1, i2⟩ := sumB_bd (u := u) ho ho' k
  obtain ⟨a1, a2⟩ := part_bd u k
  obtain ⟨b1, b2⟩ := part_bd (fullI o) k
  obtain ⟨m1, m2⟩ := mix_bd a1 a2 b1 b2 (a := o / 16777216) (by omega) (by omega)
  subst hx hy
  exact or_join k hp hk i1 i2 m1 m2
theorem more {w wr : World} (h : ∃ n, wr = w.drewN n) (m : Nat) : ∃ n, wr.drewN m = w.drewN n := by
  obtain ⟨n, rfl⟩ := h
  exact ⟨n + m, by rw [World.drewN_drewN]⟩
end Go.Proofs.Ytedhgdjlcddchaa
