/- Numbers of four bytes: pure, and number, walked. -/
import Derived.Test.YthppjmhocmppfaaDoorPrA
import Derived.Laws.BitsAllLaws
namespace Go.Proofs.YthppjmhocmppfaaDoor
open Go.RowKit
/-- A byte of a text; 0 behind its end. -/
def byt (s : ByteArray) (k : Nat) : Int := if h : k < s.size then (s[k].toNat : Int) else 0
theorem byt_at {s : ByteArray} {k : Nat} (h : k < s.size) : byt s k = (s[k].toNat : Int) := dif_pos h
theorem byt_in (s : ByteArray) (k : Nat) : 0 ≤ byt s k ∧ byt s k ≤ 255 := by
  unfold byt
  split
  · have := s[k].toNat_lt; omega
  · omega
theorem byt_ext {s : ByteArray} {a k : Nat} (h : a + k < s.size) : byt (s.extract a s.size) k = byt s (a + k) := by
  have h1 : k < (s.extract a s.size).size := by rw [ByteArray.size_extract]; omega
  rw [byt_at h1, byt_at h, ByteArray.getElem_extract]
/-- The number of four bytes. -/
def num4 (a b c d : Int) : Int := if 2147483648 ≤ a + 256 * b + 65536 * c + 16777216 * d then a + 256 * b + 65536 * c + 16777216 * d - 4294967296 else a + 256 * b + 65536 * c + 16777216 * d
def numAt (s : ByteArray) (k : Nat) : Int := num4 (byt s k) (byt s (k + 1)) (byt s (k + 2)) (byt s (k + 3))
/-- The numbers of a text. -/
def numsL (s : ByteArray) : List Int := (List.range (s.size / 4)).map fun i => numAt s (4 * i)
theorem or_lit (j : Nat) {s m : Int} {p : Nat} (hp : p = 2 ^ j) (hb : p ≤ 16777216) (hs : 0 ≤ s) (hs' : s < p) (hm : 0 ≤ m) (hm' : m ≤ 255) : bits .or .u32 s (m * (p : Int) % 4294967296) = s + (p : Int) * m := by
  obtain ⟨m, rfl⟩ := Int.eq_ofNat_of_zero_le hm
  obtain ⟨s, rfl⟩ := Int.eq_ofNat_of_zero_le hs
  have h2 : m * p ≤ 255 * 16777216 := Nat.mul_le_mul (by omega) hb
  have e1 : ((m : Int) * (p : Int) % 4294967296) = ((m * p : Nat) : Int) := by rw [← Int.natCast_mul]; omega
  have e2 : ((p : Int) * (m : Int)) = ((m * p : Nat) : Int) := by rw [← Int.natCast_mul, Nat.mul_comm]
  have e3 : (s ||| m * p) = m * p + s := by
    rw [Nat.or_comm, hp, Nat.mul_comm, ← Nat.two_pow_add_eq_or_of_lt (by omega)]
  rw [e1, e2, u32_or_nat _ _ (by omega) (by omega), e3]; omega
theorem join4 {a b c d : Int} (ha : 0 ≤ a ∧ a ≤ 255) (hb : 0 ≤ b ∧ b ≤ 255) (hc : 0 ≤ c ∧ c ≤ 255) (hd : 0 ≤ d ∧ d ≤ 255) :
    wrap64 (wrap32 (bits .or .u32 (bits .or .u32 (bits .or .u32 (a % 4294967296) (b % 4294967296 * 256 % 4294967296)) (c % 4294967296 * 65536 % 4294967296)) (d % 4294967296 * 16777216 % 4294967296))) = num4 a b c d := by
  have e1 : a % 4294967296 = a := by omega
  have e2 : b % 4294967296 = b := by omega
  have e3 : c % 4294967296 = c := by omega
  have e4 : d % 4294967296 = d := by omega
  rw [e1, e2, e3, e4]
  have h1 := or_lit 8 (p := 256) rfl (by omega) ha.1 (by omega) hb.1 hb.2
  have h2 := or_lit 16 (s := a + 256 * b) (p := 65536) rfl (by omega) (by omega) (by omega) hc.1 hc.2
  have h3 := or_lit 24 (s := a + 256 * b + 65536 * c) (p := 16777216) rfl (by omega) (by omega) (by omega) hd.1 hd.2
  have h1' : bits .or .u32 a (b * 256 % 4294967296) = a + 256 * b := h1
  have h2' : bits .or .u32 (a + 256 * b) (c * 65536 % 4294967296) = a + 256 * b + 65536 * c := h2
  have h3' : bits .or .u32 (a + 256 * b + 65536 * c) (d * 16777216 % 4294967296) = a + 256 * b + 65536 * c + 16777216 * d := h3
  rw [h1', h2', h3']
  unfold num4 wrap64 wrap32
  split <;> omega
theorem number_c (s : ByteArray) (w : World) (hs : 4 ≤ s.size) : Calls Tryd.prog 42 #[.string s] w fun e w' => e = .returned (.int .i64 (numAt s 0)) ∧ Below w.heap.size w w' := by
  have h0 : 0 < s.size := by omega
  have h1 : 1 < s.size := by omega
  have h2 : 2 < s.size := by omega
  have h3 : 3 < s.size := by omega
  have g1 : (1 : Int) < (s.size : Int) := by omega
  have g2 : (2 : Int) < (s.size : Int) := by omega
  have g3 : (3 : Int) < (s.size : Int) := by omega
  have HJ := Lib.hid (show wrap64 (wrap32 (bits .or .u32 (bits .or .u32 (bits .or .u32 ((s[0].toNat : Int) % 4294967296) ((s[1].toNat : Int) % 4294967296 * 256 % 4294967296)) ((s[2].toNat : Int) % 4294967296 * 65536 % 4294967296)) ((s[3].toNat : Int) % 4294967296 * 16777216 % 4294967296))) = numAt s 0 from by
    have k0 := byt_in s 0
    have k1 := byt_in s 1
    have k2 := byt_in s 2
    have k3 := byt_in s 3
    rw [byt_at h0] at k0
    rw [byt_at h1] at k1
    rw [byt_at h2] at k2
    rw [byt_at h3] at k3
    rw [join4 k0 k1 k2 k3]
    unfold numAt
    rw [byt_at h0, byt_at h1, byt_at h2, byt_at h3])
  go_enter Tryd.func42, Tryd.ntmps42
  go_wp2_with fail
  go_quiet (fail)
  go_wp2_with fail
  go_ret
  exact ⟨ret_int HJ.out, below_drewN (Below.refl _ _) _⟩
end Go.Proofs.YthppjmhocmppfaaDoor
