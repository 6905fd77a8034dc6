/- Decode: its bits, in the code and in the document; what it answers. -/
import Derived.Test.YtfckgkbhphkhoaaSzD
import Derived.Test.YtfckgkbhphkhoaaPrM
import Derived.Laws.BitsAllLaws
import Derived.Deep.DeepCutAuto
namespace Go.Proofs.Ytfckgkbhphkhoaa
open Go.RowKit
namespace Sz
def bitI (f b : Int) : Bool := decide (f / b % 2 = 1)
theorem ofInt_nat (f : Int) : (BitVec.ofInt 64 f).toNat = (f % 18446744073709551616).toNat := by
  rw [BitVec.toNat_ofInt]; rfl
theorem and_i64 (f : Int) (k : Nat) (hk : k ≤ 8) : bits .and .i64 f ((2 ^ k : Nat) : Int) = (((f % 18446744073709551616).toNat / 2 ^ k % 2 * 2 ^ k : Nat) : Int) := by
  have h2 : 2 ^ k ≤ 2 ^ 8 := Nat.pow_le_pow_right (by omega) hk
  have hb : (BitVec.ofInt 64 ((2 ^ k : Nat) : Int)).toNat = 2 ^ k := by
    rw [ofInt_nat]
    generalize 2 ^ k = q at h2
    omega
  show IntKind.i64.wrap ((BitVec.ofInt 64 f &&& BitVec.ofInt 64 ((2 ^ k : Nat) : Int)).toNat : Int) = _
  rw [BitVec.toNat_and, ofInt_nat f, hb, nat_bit]
  have h3 : (f % 18446744073709551616).toNat / 2 ^ k % 2 * 2 ^ k ≤ 2 ^ 8 := by
    have : (f % 18446744073709551616).toNat / 2 ^ k % 2 ≤ 1 := by omega
    calc _ ≤ 1 * 2 ^ k := Nat.mul_le_mul_right _ this
      _ ≤ 2 ^ 8 := by omega
  exact IntWalk.i64_in _ (by omega)
theorem and16 (f : Int) : (bits .and .i64 f 16 != 0) = bitI f 16 := by
  have := and_i64 f 4 (by omega)
  rw [show (16 : Int) = ((2 ^ 4 : Nat) : Int) from rfl, this]
  unfold bitI; rw [Bool.eq_iff_iff]; simp; omega
theorem and32 (f : Int) : (bits .and .i64 f 32 != 0) = bitI f 32 := by
  have := and_i64 f 5 (by omega)
  rw [show (32 : Int) = ((2 ^ 5 : Nat) : Int) from rfl, this]
  unfold bitI; rw [Bool.eq_iff_iff]; simp; omega
theorem and64 (f : Int) : (bits .and .i64 f 64 != 0) = bitI f 64 := by
  have := and_i64 f 6 (by omega)
  rw [show (64 : Int) = ((2 ^ 6 : Nat) : Int) from rfl, this]
  unfold bitI; rw [Bool.eq_iff_iff]; simp; omega
theorem and128 (f : Int) : (bits .and .i64 f 128 != 0) = bitI f 128 := by
  have := and_i64 f 7 (by omega)
  rw [show (128 : Int) = ((2 ^ 7 : Nat) : Int) from rfl, this]
  unfold bitI; rw [Bool.eq_iff_iff]; simp; omega
theorem and256 (f : Int) : (bits .and .i64 f 256 != 0) = bitI f 256 := by
  have := and_i64 f 8 (by omega)
  rw [show (256 : Int) = ((2 ^ 8 : Nat) : Int) from rfl, this]
  unfold bitI; rw [Bool.eq_iff_iff]; simp; omega
/-- The hints of the numbers z. -/
def decH (z : Nat → Int) : Hn :=
  let a := bitI (z 0) 16; let b := bitI (z 0) 256; let c := bitI (z 0) 32; let d := bitI (z 0) 64; let e := bitI (z 0) 128
  ⟨if a then z 5 else if b then z 15 else 1, if a then z 6 else if b then z 16 else 1, if c then z 7 else 0, if c then z 8 else 0,
   if b then z 15 else if a then z 5 else 0, if b then z 16 else if a then z 6 else 0, if d then z 9 else 1, if d then z 10 else 1,
   if e then z 11 else 0, if e then z 12 else 0, if e then z 13 else 0, if e then z 14 else 0⟩
/-- A row of numbers in memory, its first seventeen named. -/
def Zs (w : World) (p o : Nat) (z : Nat → Int) : Prop := p < w.heap.size ∧ ∀ j, j < 17 → w.cell? ⟨p, o + j, none⟩ = some (.int .i64 (z j))
theorem Zs.next {w w' : World} {p o : Nat} {z : Nat → Int} (a : Zs w p o z) (hb : Below w.heap.size w w') : Zs w' p o z :=
  ⟨Nat.lt_of_lt_of_le a.1 hb.size, fun j hj => (hb.cell (p := ⟨p, o + j, none⟩) a.1).trans (a.2 j hj)⟩
theorem rbit_c (f b : Int) (w : World) (hb : b = 16 ∨ b = 32 ∨ b = 64 ∨ b = 128 ∨ b = 256) : Calls Try.prog 24 #[.int .i64 f, .int .i64 b] w fun e w' => e = .returned (.bool (bitI f b)) ∧ w = w' := by
  have e0 : IntKind.u32.wrap f = f % 4294967296 := IntKind.wrap_u32' f
  have k1 := Int.emod_nonneg f (by decide : (4294967296 : Int) ≠ 0)
  have k2 := Int.emod_lt_of_pos f (by decide : (0 : Int) < 4294967296)
  rcases hb with rfl | rfl | rfl | rfl | rfl
  all_goals
    go_enter Try.func24, Try.ntmps24
    go_wp2_with fail
    go_ret
    exact ⟨ret_bool (by unfold bitI; rw [Bool.eq_iff_iff]; simp; omega), rfl⟩
theorem tells_c (b : Int) (g : Nat) (p o len cap : Nat) (z : Nat → Int) (w : World) (hl : 17 ≤ len) (hg : w.cell? ⟨g, 0, none⟩ = some (.slice (some ⟨p, o, none⟩) len cap)) (hz : Zs w p o z) (hb : b = 16 ∨ b = 32 ∨ b = 64 ∨ b = 128 ∨ b = 256) : Calls Try.prog 22 #[.int .i64 b, .pointer (some ⟨g, 0, none⟩)] w fun e w' => e = .returned (.bool (bitI (z 0) b)) ∧ w = w' := by
  have z0 := hz.2 0 (by omega)
  simp only [Nat.add_zero] at z0
  have hl0 : ¬ ((len : Int) ≤ 0) := by omega
  have hl1 : (0 : Int) < (len : Int) := by omega
  have a1 := and16 (z 0)
  have a2 := and32 (z 0)
  have a3 := and64 (z 0)
  have a4 := and128 (z 0)
  have a5 := and256 (z 0)
  obtain ⟨f, hf⟩ : ∃ f, z 0 = f := ⟨_, rfl⟩
  rw [hf] at z0 a1 a2 a3 a4 a5 ⊢
  rcases hb with rfl | rfl | rfl | rfl | rfl
  all_goals
    go_enter Try.func22, Try.ntmps22
    go_wp2_with fail
    go_ret
    exact ⟨rfl, rfl⟩
end Sz
end Go.Proofs.Ytfckgkbhphkhoaa
