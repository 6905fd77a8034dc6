import Derived.Test.YtedhgdjlcddchaaRaA
namespace Go.Proofs.Ytedhgdjlcddchaa
open Go.RowKit
theorem rpart_c (c : Int) (k : Nat) (w : World) (h : 0 ≤ c) (h' : c < 4294967296) (hk : k ≤ 3) :
    Calls Try.prog 121 #[.int .u32 c, .int .i64 k] w fun e w' => e = .returned (.int .i64 (partI c (3 - k))) ∧ w = w' := by
  have : k = 0 ∨ k = 1 ∨ k = 2 ∨ k = 3 := by omega
  rcases this with rfl | rfl | rfl | rfl
  all_goals
    go_enter Try.func121, Try.ntmps121
    go_wp2
    go_ret
    exact ⟨ret_int (by unfold partI; simp), rfl⟩
/-- The parts told from the highest on. -/
def hornB (u o : Int) : Nat → Int
  | 0 => 0
  | k + 1 => hornB u o k * 256 + mixI (partI u (3 - k)) (if k = 0 then 255 else partI o (3 - k)) (partI o 3)
theorem horn_bd (u o : Int) (k : Nat) : 0 ≤ hornB u o k ∧ hornB u o k < 256 ^ k := by
  induction k with
  | zero => exact ⟨by simp [hornB], by simp [hornB]⟩
  | succ k ih =>
    obtain ⟨i1, i2⟩ := ih
    obtain ⟨a1, a2⟩ := part_bd u (3 - k)
    obtain ⟨b1, b2⟩ := part_bd o (3 - k)
    obtain ⟨c1, c2⟩ := part_bd o 3
    obtain ⟨m1, m2⟩ := mix_bd (u := partI u (3 - k)) (o := if k = 0 then 255 else partI o (3 - k)) (a := partI o 3) a1 a2 (by split <;> omega) (by split <;> omega) c1 c2
    refine ⟨by simp only [hornB]; omega, ?_⟩
    simp only [hornB, Int.pow_succ]; omega
theorem horn_blend {u o : Int} (h : 0 ≤ o) (h' : o < 4294967296) : hornB u o 4 = blendI u o := by
  have e3 : partI o 3 = o / 16777216 := by unfold partI; omega
  have f3 : partI (fullI o) 3 = 255 := by unfold partI fullI; omega
  have f2 : partI (fullI o) 2 = partI o 2 := by unfold partI fullI; omega
  have f1 : partI (fullI o) 1 = partI o 1 := by unfold partI fullI; omega
  have f0 : partI (fullI o) 0 = partI o 0 := by unfold partI fullI; omega
  unfold blendI
  simp only [hornB, sumB, e3, f3, f2, f1, f0]
  simp
  omega
set_option maxHeartbeats 1000000 in
theorem rblend_c (u o : Int) (w : World) (hu : 0 ≤ u) (hu' : u < 4294967296) (ho : 0 ≤ o) (ho' : o < 4294967296) :
    Calls Try.prog 112 #[.int .u32 u, .int .u32 o] w fun e w' => e = .returned (.int .u32 (blendI u o)) ∧ w = w' := by
  obtain ⟨c1, c2⟩ := part_bd o 3
  go_enter Try.func112, Try.ntmps112
  go_wp2_with (go_at_call 121; refine (rpart_c o 0 _ ho ho' (by omega)).mono ?_; rintro e w' ⟨rfl, rfl⟩)
  go_loop [6, 7] (fun c i => ∃ k : Nat, k ≤ 4 ∧ i = .int .i64 k ∧ c = .int .u32 (hornB u o k)) (fun _ i => 4 - (intOf i).toNat)
  case atStart => exact ⟨0, by omega, rfl, rfl⟩
  case round =>
    obtain ⟨k, hk, rfl, rfl⟩ := hrel
    obtain ⟨s1, s2⟩ := horn_bd u o k
    obtain ⟨a1, a2⟩ := part_bd u (3 - k)
    obtain ⟨b1, b2⟩ := part_bd o (3 - k)
    by_cases hlt : k < 4
    · have hbd : hornB u o k ≤ 16777215 := by
        have : k = 0 ∨ k = 1 ∨ k = 2 ∨ k = 3 := by omega
        rcases this with rfl | rfl | rfl | rfl <;> simp at s2 <;> omega
      have ex : ∃ x, x = if k = 0 then (255 : Int) else partI o (3 - k) := ⟨_, rfl⟩
      obtain ⟨x, hx⟩ := ex
      have hx0 : 0 ≤ x ∧ x ≤ 255 := by rw [hx]; split <;> omega
      obtain ⟨x1, x2⟩ := hx0
      obtain ⟨m1, m2⟩ := mix_bd (u := partI u (3 - k)) (o := x) (a := partI o 3) a1 a2 x1 x2 c1 c2
      have hst : hornB u o (k + 1) = hornB u o k * 256 + mixI (partI u (3 - k)) x (partI o 3) := by rw [hx]; rfl
      have Hst := Lib.hid hst
      clear hst s2
      have g1 : 0 ≤ x * partI o 3 := Int.mul_nonneg x1 c1
      have g2 : 0 ≤ partI u (3 - k) * (255 - partI o 3) := Int.mul_nonneg a1 (by omega)
      have g3 : x * partI o 3 ≤ 65025 := Int.le_trans (Int.mul_le_mul x2 c2 c1 (by omega)) (by omega)
      have g4 : partI u (3 - k) * (255 - partI o 3) ≤ 65025 := Int.le_trans (Int.mul_le_mul a2 (show 255 - partI o 3 ≤ 255 by omega) (by omega) (by omega)) (by omega)
      by_cases h0 : k = 0
      · have e0 : ((k : Int) == 0) = true := by simp [h0]
        have ex : x = 255 := by rw [hx, if_pos h0]
        subst ex
        have H0 := Lib.hid h0
        clear hx h0
        unfold mixI at m1 m2
        go_wp2_with (first | (go_at_call 121; (with_reducible refine (rpart_c o k _ ho ho' (by omega)).mono ?_); rintro e w' ⟨rfl, rfl⟩) | (go_at_call 121; (with_reducible refine (rpart_c u k _ hu hu' (by omega)).mono ?_); rintro e w' ⟨rfl, rfl⟩))
        go_round
        case rel => exact ⟨k + 1, by omega, by go_num, by rw [Hst.out]; unfold mixI; go_num⟩
        case measure => simp [intOf]; omega
      · have e0 : ((k : Int) == 0) = false := by simp; omega
        have ex : x = partI o (3 - k) := by rw [hx, if_neg h0]
        subst ex
        have H0 := Lib.hid h0
        clear hx h0
        unfold mixI at m1 m2
        go_wp2_with (first | (go_at_call 121; (with_reducible refine (rpart_c o k _ ho ho' (by omega)).mono ?_); rintro e w' ⟨rfl, rfl⟩) | (go_at_call 121; (with_reducible refine (rpart_c u k _ hu hu' (by omega)).mono ?_); rintro e w' ⟨rfl, rfl⟩))
        go_round
        case rel => exact ⟨k + 1, by omega, by go_num, by rw [Hst.out]; unfold mixI; go_num⟩
        case measure => simp [intOf]; omega
    · have hk4 : 4 ≤ k := by omega
      clear s1 s2 a1 a2 b1 b2
      have HB := Lib.hid (horn_blend (u := u) ho ho')
      go_wp2
      go_ret
      exact ⟨by rw [show k = 4 by omega, HB.out]; rfl, rfl⟩
end Go.Proofs.Ytedhgdjlcddchaa
