import Derived.Test.YtjgleibbhgfcpaaRaN
namespace Go.Proofs.Ytjgleibbhgfcpaa
open Go.RowKit
set_option maxHeartbeats 4000000 in
theorem laws_w (u o : Int) (w : World) (hu : (Lit.int .u32 u).wf = true) (ho : (Lit.int .u32 o).wf = true) :
    Calls Try.prog 12 #[.int .u32 u, .int .u32 o] w fun e w' => e = .returned (.bool true) ∧ Below w.heap.size w w' := by
  obtain ⟨u1, u2⟩ := wf_u32 hu
  obtain ⟨o1, o2⟩ := wf_u32 ho
  clear hu ho
  have hor : bits .or .u32 o 4278190080 = fullI o := (u32_or o 4278190080 o1 o2 (by omega) (by omega)).trans (or_full o1 o2)
  have han : bits .and .u32 o 16777215 = o % 16777216 := by
    obtain ⟨n, rfl⟩ := Int.eq_ofNat_of_zero_le o1
    have := u32_and_nat n 16777215 (by omega) (by omega)
    rw [show n &&& 16777215 = n % 2 ^ 24 from Nat.and_two_pow_sub_one_eq_mod n 24] at this
    exact this.trans (by omega)
  have f1 : 4278190080 ≤ fullI o ∧ fullI o < 4294967296 := by unfold fullI; omega
  have HF := Lib.hid (fun W => blend_c u (fullI o) W u1 u2 (by omega) f1.2)
  have HE := Lib.hid (blend_full (u := u) f1.1 f1.2)
  have HN := Lib.hid (fun W => blend_c u (o % 16777216) W u1 u2 (by omega) (by omega))
  have HM := Lib.hid (blend_none (o := o % 16777216) u1 u2 (by omega) (by omega))
  rw [HE.out] at HF
  rw [HM.out] at HN
  have HB := Lib.hid (fun W => blend_c u o W u1 u2 o1 o2)
  obtain ⟨p0, p1, p2, p3⟩ := blend_parts (u := u) o1 o2
  have hb := blend_bd (k := u) ⟨u1, u2⟩ ⟨o1, o2⟩
  have q0 := mix_between (u := u % 256) (o := o % 256) (a := o / 16777216) (by omega) (by omega)
  have q1 := mix_between (u := u / 256 % 256) (o := o / 256 % 256) (a := o / 16777216) (by omega) (by omega)
  have q2 := mix_between (u := u / 65536 % 256) (o := o / 65536 % 256) (a := o / 16777216) (by omega) (by omega)
  have q3 := mix_top (u / 16777216 % 256) (o / 16777216) (by omega) (by omega) (by omega) (by omega)
  rw [← p0] at q0
  rw [← p1] at q1
  rw [← p2] at q2
  rw [← p3] at q3
  generalize blendI u o = b at HB hb q0 q1 q2 q3
  clear p0 p1 p2 p3 HE HM f1
  go_enter Try.func12, Try.ntmps12
  go_wp2_with (first
    | (go_at_call 28; (with_reducible refine (HF.out _).mono ?_); rintro e w1 ⟨rfl, n1, rfl⟩)
    | (go_at_call 28; (with_reducible refine (HN.out _).mono ?_); rintro e w1 ⟨rfl, n2, rfl⟩)
    | (go_at_call 28; (with_reducible refine (HB.out _).mono ?_); rintro e w1 ⟨rfl, n3, rfl⟩))
  go_loop [8] (fun v => ∃ k : Nat, k ≤ 3 ∧ v = .int .u64 ((8 * k : Nat) : Int)) (fun v => 24 - (intOf v).toNat)
  case atStart => exact ⟨0, by omega, rfl⟩
  case round =>
    obtain ⟨k, hk, rfl⟩ := hrel
    have hk' : k = 0 ∨ k = 1 ∨ k = 2 ∨ k = 3 := by omega
    rcases hk' with rfl | rfl | rfl | rfl
    · have e : ((8 * (0 : Nat) : Nat) : Int) = 0 := rfl
      rw [e]; clear e
      have A : bits .and .u32 (u) 255 = u % 256 := and_255 (by omega) (by omega)
      have B : bits .and .u32 (o) 255 = o % 256 := and_255 (by omega) (by omega)
      have C : bits .and .u32 (b) 255 = b % 256 := and_255 (by omega) (by omega)
      clear q1 q2
      generalize u % 256 = x at A q0
      generalize o % 256 = y at B q0
      generalize b % 256 = z at C q0
      by_cases hlt : y < x
      · have d1 : y < x := hlt
        have d2 : ¬ x < y := by omega
        have d3 : ¬ z < y := by omega
        have d4 : ¬ x < z := by omega
        clear q0 hlt
        go_wp2
        go_round
        case rel => exact ⟨1, by omega, rfl⟩
        case measure => simp [intOf]
      · have d1 : ¬ y < x := hlt
        by_cases hxy : x < y
        · have d2 : x < y := hxy
          have d3 : ¬ z < x := by omega
          have d4 : ¬ y < z := by omega
          clear q0 hlt hxy
          go_wp2
          go_round
          case rel => exact ⟨1, by omega, rfl⟩
          case measure => simp [intOf]
        · have d2 : ¬ x < y := hxy
          have d3 : ¬ z < x := by omega
          have d4 : ¬ x < z := by omega
          clear q0 hlt hxy
          go_wp2
          go_round
          case rel => exact ⟨1, by omega, rfl⟩
          case measure => simp [intOf]
    · have e : ((8 * (1 : Nat) : Nat) : Int) = 8 := rfl
      rw [e]; clear e
      have A : bits .and .u32 (u / 256) 255 = u / 256 % 256 := and_255 (by omega) (by omega)
      have B : bits .and .u32 (o / 256) 255 = o / 256 % 256 := and_255 (by omega) (by omega)
      have C : bits .and .u32 (b / 256) 255 = b / 256 % 256 := and_255 (by omega) (by omega)
      clear q0 q2
      generalize u / 256 % 256 = x at A q1
      generalize o / 256 % 256 = y at B q1
      generalize b / 256 % 256 = z at C q1
      by_cases hlt : y < x
      · have d1 : y < x := hlt
        have d2 : ¬ x < y := by omega
        have d3 : ¬ z < y := by omega
        have d4 : ¬ x < z := by omega
        clear q1 hlt
        go_wp2
        go_round
        case rel => exact ⟨2, by omega, rfl⟩
        case measure => simp [intOf]
      · have d1 : ¬ y < x := hlt
        by_cases hxy : x < y
        · have d2 : x < y := hxy
          have d3 : ¬ z < x := by omega
          have d4 : ¬ y < z := by omega
          clear q1 hlt hxy
          go_wp2
          go_round
          case rel => exact ⟨2, by omega, rfl⟩
          case measure => simp [intOf]
        · have d2 : ¬ x < y := hxy
          have d3 : ¬ z < x := by omega
          have d4 : ¬ x < z := by omega
          clear q1 hlt hxy
          go_wp2
          go_round
          case rel => exact ⟨2, by omega, rfl⟩
          case measure => simp [intOf]
    · have e : ((8 * (2 : Nat) : Nat) : Int) = 16 := rfl
      rw [e]; clear e
      have A : bits .and .u32 (u / 65536) 255 = u / 65536 % 256 := and_255 (by omega) (by omega)
      have B : bits .and .u32 (o / 65536) 255 = o / 65536 % 256 := and_255 (by omega) (by omega)
      have C : bits .and .u32 (b / 65536) 255 = b / 65536 % 256 := and_255 (by omega) (by omega)
      clear q0 q1
      generalize u / 65536 % 256 = x at A q2
      generalize o / 65536 % 256 = y at B q2
      generalize b / 65536 % 256 = z at C q2
      by_cases hlt : y < x
      · have d1 : y < x := hlt
        have d2 : ¬ x < y := by omega
        have d3 : ¬ z < y := by omega
        have d4 : ¬ x < z := by omega
        clear q2 hlt
        go_wp2
        go_round
        case rel => exact ⟨3, by omega, rfl⟩
        case measure => simp [intOf]
      · have d1 : ¬ y < x := hlt
        by_cases hxy : x < y
        · have d2 : x < y := hxy
          have d3 : ¬ z < x := by omega
          have d4 : ¬ y < z := by omega
          clear q2 hlt hxy
          go_wp2
          go_round
          case rel => exact ⟨3, by omega, rfl⟩
          case measure => simp [intOf]
        · have d2 : ¬ x < y := hxy
          have d3 : ¬ z < x := by omega
          have d4 : ¬ x < z := by omega
          clear q2 hlt hxy
          go_wp2
          go_round
          case rel => exact ⟨3, by omega, rfl⟩
          case measure => simp [intOf]
    · have e : ((8 * (3 : Nat) : Nat) : Int) = 24 := rfl
      rw [e]; clear e
      clear q0 q1 q2
      have t1 : decide (u / 16777216 ≤ b / 16777216) = true := by simp; omega
      have t2 : decide (o / 16777216 ≤ b / 16777216) = true := by simp; omega
      go_wp2_with (go_at_call 30; refine (awake_c _).mono ?_; rintro e w2 ⟨rfl, hb2⟩)
      go_ret
      exact ⟨rfl, (below_drewN (Below.refl _ _) _).trans hb2⟩
end Go.Proofs.Ytjgleibbhgfcpaa
