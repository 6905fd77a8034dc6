import Derived.Test.YtedhgdjlcddchaaRaM
namespace Go.Proofs.Ytedhgdjlcddchaa
open Go.RowKit
theorem wf_u32 {a : Int} (h : (Lit.int .u32 a).wf = true) : 0 ≤ a ∧ a < 4294967296 := by
  simp only [Lit.wf, decide_eq_true_eq, Bool.and_eq_true] at h
  have h1 : IntKind.u32.min = 0 := rfl
  have h2 : IntKind.u32.max = 4294967295 := rfl
  omega
/-- Blend's sum of parts, told once and for all. -/
theorem blend_sum (u o : Int) : blendI u o = mixI (u % 256) (o % 256) (o / 16777216) + 256 * mixI (u / 256 % 256) (o / 256 % 256) (o / 16777216) + 65536 * mixI (u / 65536 % 256) (o / 65536 % 256) (o / 16777216) + 16777216 * mixI (u / 16777216 % 256) 255 (o / 16777216) := by
  have f3 : partI (fullI o) 3 = 255 := by unfold partI fullI; omega
  have f2 : partI (fullI o) 2 = o / 65536 % 256 := by unfold partI fullI; omega
  have f1 : partI (fullI o) 1 = o / 256 % 256 := by unfold partI fullI; omega
  have f0 : partI (fullI o) 0 = o % 256 := by unfold partI fullI; omega
  have g3 : partI u 3 = u / 16777216 % 256 := by unfold partI; omega
  have g2 : partI u 2 = u / 65536 % 256 := by unfold partI; omega
  have g1 : partI u 1 = u / 256 % 256 := by unfold partI; omega
  have g0 : partI u 0 = u % 256 := by unfold partI; omega
  unfold blendI
  simp only [sumB, f3, f2, f1, f0, g3, g2, g1, g0]
  omega
theorem mix_full (u o : Int) : mixI u o 255 = o := by unfold mixI; omega
theorem mix_none (u o : Int) : mixI u o 0 = u := by unfold mixI; omega
theorem mix_between {u o a : Int} (ha : 0 ≤ a) (ha' : a ≤ 255) : min u o ≤ mixI u o a ∧ mixI u o a ≤ max u o := by
  have e : o * a + u * (255 - a) = 255 * u + (o - u) * a := by rw [Int.mul_sub, Int.sub_mul]; omega
  unfold mixI
  rw [e]
  rcases Int.le_total u o with h | h
  · have h1 : 0 ≤ (o - u) * a := Int.mul_nonneg (by omega) ha
    have h2 : (o - u) * a ≤ (o - u) * 255 := Int.mul_le_mul_of_nonneg_left ha' (by omega)
    omega
  · have h1 : 0 ≤ (u - o) * a := Int.mul_nonneg (by omega) ha
    have h2 : (u - o) * a ≤ (u - o) * 255 := Int.mul_le_mul_of_nonneg_left ha' (by omega)
    have h3 : (o - u) * a = - ((u - o) * a) := by rw [← Int.neg_mul]; congr 1; omega
    omega
theorem blend_full {u o : Int} (h : 4278190080 ≤ o) (h' : o < 4294967296) : blendI u o = o := by
  have e : o / 16777216 = 255 := by omega
  rw [blend_sum, e]
  simp only [mix_full]
  omega
theorem blend_none {u o : Int} (hu : 0 ≤ u) (hu' : u < 4294967296) (h : 0 ≤ o) (h' : o < 16777216) : blendI u o = u := by
  have e : o / 16777216 = 0 := by omega
  rw [blend_sum, e]
  simp only [mix_none]
  omega
/-- The parts of a blend. -/
theorem blend_parts {u o : Int} (ho : 0 ≤ o) (ho' : o < 4294967296) :
    blendI u o % 256 = mixI (u % 256) (o % 256) (o / 16777216) ∧ blendI u o / 256 % 256 = mixI (u / 256 % 256) (o / 256 % 256) (o / 16777216) ∧ blendI u o / 65536 % 256 = mixI (u / 65536 % 256) (o / 65536 % 256) (o / 16777216) ∧
      blendI u o / 16777216 = mixI (u / 16777216 % 256) 255 (o / 16777216) := by
  rw [blend_sum]
  have b0 := mix_bd (u := u % 256) (o := o % 256) (a := o / 16777216) (by omega) (by omega) (by omega) (by omega) (by omega) (by omega)
  have b1 := mix_bd (u := u / 256 % 256) (o := o / 256 % 256) (a := o / 16777216) (by omega) (by omega) (by omega) (by omega) (by omega) (by omega)
  have b2 := mix_bd (u := u / 65536 % 256) (o := o / 65536 % 256) (a := o / 16777216) (by omega) (by omega) (by omega) (by omega) (by omega) (by omega)
  have b3 := mix_bd (u := u / 16777216 % 256) (o := 255) (a := o / 16777216) (by omega) (by omega) (by omega) (by omega) (by omega) (by omega)
  generalize mixI (u % 256) (o % 256) (o / 16777216) = m0 at *
  generalize mixI (u / 256 % 256) (o / 256 % 256) (o / 16777216) = m1 at *
  generalize mixI (u / 65536 % 256) (o / 65536 % 256) (o / 16777216) = m2 at *
  generalize mixI (u / 16777216 % 256) 255 (o / 16777216) = m3 at *
  omega
theorem mix_top (u a : Int) (hu : 0 ≤ u) (hu' : u ≤ 255) (ha : 0 ≤ a) (ha' : a ≤ 255) : u ≤ mixI u 255 a ∧ a ≤ mixI u 255 a := by
  have e : 255 * a + u * (255 - a) = 255 * u + (255 - u) * a := by rw [Int.mul_sub, Int.sub_mul]; omega
  have h1 : 0 ≤ (255 - u) * a := Int.mul_nonneg (by omega) ha
  have h2 : 0 ≤ u * (255 - a) := Int.mul_nonneg hu (by omega)
  unfold mixI
  omega
end Go.Proofs.Ytedhgdjlcddchaa
