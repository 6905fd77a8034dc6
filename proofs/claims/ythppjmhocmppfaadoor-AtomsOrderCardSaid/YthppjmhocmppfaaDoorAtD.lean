/- Transient, Wants: the code and the document. -/
import Derived.Test.YthppjmhocmppfaaDoorAtE
namespace Go.Proofs.YthppjmhocmppfaaDoor
open Go.RowKit Go.Maps
namespace At
theorem ofInt_nat (f : Int) : (BitVec.ofInt 64 f).toNat = (f % 18446744073709551616).toNat := by
  rw [BitVec.toNat_ofInt]; rfl
theorem and_i64 (f : Int) (k : Nat) (hk : k ≤ 8) : bits .and .i64 f ((2 ^ k : Nat) : Int) = (((f % 18446744073709551616).toNat / 2 ^ k % 2 * 2 ^ k : Nat) : Int) := by
  have h2 : 2 ^ k ≤ 2 ^ 8 := Nat.pow_le_pow_right (by omega) hk
  have hb : (BitVec.ofInt 64 ((2 ^ k : Nat) : Int)).toNat = 2 ^ k := by
    rw [ofInt_nat]
    generalize 2 ^ k = q at h2
    omega
  show IntKind.i64.wrap ((BitVec.ofInt 64 f &&& BitVec.ofInt 64 ((2 ^ k : Nat) : Int)).toNat : Int) = _
  rw [BitVec.toNat_and, ofInt_nat f, hb, nat_bit]
  have h3 : (f % 18446744073709551616).toNat / 2 ^ k % 2 * 2 ^ k ≤ 2 ^ 8 := by
    have : (f % 18446744073709551616).toNat / 2 ^ k % 2 ≤ 1 := by omega
    calc _ ≤ 1 * 2 ^ k := Nat.mul_le_mul_right _ this
      _ ≤ 2 ^ 8 := by omega
  exact IntWalk.i64_in _ (by omega)
theorem and1 (f : Int) : (bits .and .i64 f 1 == 0) = !bitT f 1 := by
  have := and_i64 f 0 (by omega)
  rw [show (1 : Int) = ((2 ^ 0 : Nat) : Int) from rfl, this]
  unfold bitT; rw [Bool.eq_iff_iff]; simp; omega
theorem and256 (f : Int) : (bits .and .i64 f 256 != 0) = bitT f 256 := by
  have := and_i64 f 8 (by omega)
  rw [show (256 : Int) = ((2 ^ 8 : Nat) : Int) from rfl, this]
  unfold bitT; rw [Bool.eq_iff_iff]; simp; omega
theorem rd_len' {w : World} {v : Value} {zs : List Int} {n : Nat} (h : Rd w v (ints zs)) (hn : zs.length = n) : ∃ p c, v = .slice p n c := by
  subst hn; exact rd_len h
theorem transient_c (s : ByteArray) (w : World) (hs : s.size ≤ 1048576) : Calls Tryd.prog 10 #[.string s] w fun e w' => e = .returned (.tuple #[.int .i64 (trL (NL s)), .bool (decide (0 < trL (NL s)))]) ∧ Below w.heap.size w w' := by
  have HN := Lib.hid (nums_code s w hs)
  generalize NL s = l at *
  clear hs
  by_cases h1 : l.length = 1
  · obtain ⟨z, rfl⟩ := List.length_eq_one_iff.1 h1
    clear h1
    by_cases hz : z < 1
    · have e0 : trL [z] = 0 := (if_pos hz : (if z < 1 then (0 : Int) else z) = 0)
      rw [e0]
      clear e0
      go_enter Tryd.func10, Tryd.ntmps10
      go_wp2_with (go_at_call 27; ((with_reducible refine (HN.out).mono ?_); rintro e w1 ⟨v, rfl, hr, hb⟩); obtain ⟨b, o, c, rfl, hlt, hc⟩ := rd_open hr; have c0 := hc 0 z rfl; simp only [Nat.add_zero, List.length_nil, Nat.zero_add] at c0 ⊢; clear hr hc)
      go_ret2
      exact ⟨rfl, hb⟩
    · have e0 : trL [z] = z := (if_neg hz : (if z < 1 then (0 : Int) else z) = z)
      rw [e0, show decide (0 < z) = true from decide_eq_true (by omega)]
      clear e0
      go_enter Tryd.func10, Tryd.ntmps10
      go_wp2_with (go_at_call 27; ((with_reducible refine (HN.out).mono ?_); rintro e w1 ⟨v, rfl, hr, hb⟩); obtain ⟨b, o, c, rfl, hlt, hc⟩ := rd_open hr; have c0 := hc 0 z rfl; simp only [Nat.add_zero, List.length_nil, Nat.zero_add] at c0 ⊢; clear hr hc)
      go_ret2
      exact ⟨rfl, hb⟩
  · have e0 : trL l = 0 := by
      match l, h1 with
      | [], _ => rfl
      | [z], h => exact absurd rfl h
      | z :: y :: r, _ => rfl
    rw [e0, show decide ((0 : Int) < 0) = false from rfl]
    obtain ⟨n, hn⟩ : ∃ n, l.length = n := ⟨_, rfl⟩
    have h2 : ((n : Int) != 1) = true := by rw [hn] at h1; simp; omega
    have h3 : ((n : Int) == 1) = false := by rw [hn] at h1; simp; omega
    have HL := Lib.hid hn
    clear hn h1 e0
    go_enter Tryd.func10, Tryd.ntmps10
    go_wp2_with (go_at_call 27; ((with_reducible refine (HN.out).mono ?_); rintro e w1 ⟨v, rfl, hr, hb⟩); obtain ⟨p, c, rfl⟩ := rd_len' hr HL.out; clear hr)
    go_ret2
    exact ⟨rfl, hb⟩
theorem rtransient_c (s : ByteArray) (w : World) (hs : s.size ≤ 1048576) : Calls Tryd.prog 11 #[.string s] w fun e w' => e = .returned (.int .i64 (trL (NL s))) ∧ Below w.heap.size w w' := by
  have HN := Lib.hid (nums_doc s w hs)
  have HO := Lib.hid (fun h => okN_of (s := s) h)
  generalize NL s = l at *
  generalize okN s = ok at *
  clear hs
  by_cases h1 : l.length = 1
  · obtain ⟨z, rfl⟩ := List.length_eq_one_iff.1 h1
    clear h1
    have hok := HO.out (by simp)
    subst hok
    clear HO
    by_cases hz : z < 1
    · have e0 : trL [z] = 0 := (if_pos hz : (if z < 1 then (0 : Int) else z) = 0)
      rw [e0]
      clear e0
      go_enter Tryd.func11, Tryd.ntmps11
      go_wp2_with (go_at_call 28; ((with_reducible refine (HN.out).mono ?_); rintro e w1 ⟨v, rfl, hr, hb⟩); obtain ⟨b, o, c, rfl, hlt, hc⟩ := rd_open hr; have c0 := hc 0 z rfl; simp only [Nat.add_zero, List.length_nil, Nat.zero_add] at c0 ⊢; clear hr hc)
      go_ret
      exact ⟨rfl, hb⟩
    · have e0 : trL [z] = z := (if_neg hz : (if z < 1 then (0 : Int) else z) = z)
      rw [e0]
      clear e0
      go_enter Tryd.func11, Tryd.ntmps11
      go_wp2_with (go_at_call 28; ((with_reducible refine (HN.out).mono ?_); rintro e w1 ⟨v, rfl, hr, hb⟩); obtain ⟨b, o, c, rfl, hlt, hc⟩ := rd_open hr; have c0 := hc 0 z rfl; simp only [Nat.add_zero, List.length_nil, Nat.zero_add] at c0 ⊢; clear hr hc)
      go_ret
      exact ⟨rfl, hb⟩
  · have e0 : trL l = 0 := by
      match l, h1 with
      | [], _ => rfl
      | [z], h => exact absurd rfl h
      | z :: y :: r, _ => rfl
    rw [e0]
    obtain ⟨n, hn⟩ : ∃ n, l.length = n := ⟨_, rfl⟩
    have h2 : ((n : Int) != 1) = true := by rw [hn] at h1; simp; omega
    have h3 : ((n : Int) == 1) = false := by rw [hn] at h1; simp; omega
    have HL := Lib.hid hn
    clear hn h1 e0 HO
    cases ok
    all_goals
      go_enter Tryd.func11, Tryd.ntmps11
      go_wp2_with (go_at_call 28; ((with_reducible refine (HN.out).mono ?_); rintro e w1 ⟨v, rfl, hr, hb⟩); obtain ⟨p, c, rfl⟩ := rd_len' hr HL.out; clear hr)
      go_ret
      exact ⟨rfl, hb⟩
set_option maxRecDepth 100000 in
set_option maxHeartbeats 2000000 in
theorem wants_c (s : ByteArray) (w : World) (hs : s.size ≤ 1048576) : Calls Tryd.prog 13 #[.string s] w fun e w' => e = .returned (.tuple #[.bool (wantA (NL s)), .bool (wantB (NL s))]) ∧ Below w.heap.size w w' := by
  have HN := Lib.hid (nums_code s w hs)
  generalize NL s = l at *
  clear hs
  match l, HN with
  | z :: y :: r, HN =>
    show Calls _ _ _ _ fun e w' => e = .returned (.tuple #[.bool (!bitT z 1 || (y != 0)), .bool (bitT z 256)]) ∧ Below w.heap.size w w'
    have a1 := and1 z
    have a2 := and256 z
    obtain ⟨b1, hb1⟩ : ∃ b, bitT z 1 = b := ⟨_, rfl⟩
    obtain ⟨b2, hb2⟩ : ∃ b, bitT z 256 = b := ⟨_, rfl⟩
    rw [hb1] at a1 ⊢
    rw [hb2] at a2 ⊢
    clear hb1 hb2
    obtain ⟨n, hn⟩ : ∃ n, (y :: r).length + 1 = n := ⟨_, rfl⟩
    have h2 : ¬ ((n : Int) < 2) := by rw [← hn, List.length_cons]; omega
    have h0 : (0 : Int) < (n : Int) := by omega
    have h1 : (1 : Int) < (n : Int) := by omega
    have HL := Lib.hid hn
    clear hn
    cases b1
    all_goals
      go_enter Tryd.func13, Tryd.ntmps13
      go_upto_region 2 with (go_at_call 27; ((with_reducible refine (HN.out).mono ?_); rintro e w1 ⟨v, rfl, hr, hb⟩); skip)
      obtain ⟨b, o, c, rfl, hlt, hc⟩ := rd_open hr
      have c0 := hc 0 z rfl
      have c1 := hc 1 y rfl
      rw [HL.out]
      simp only [Nat.add_zero] at c0
      clear hr hc
      go_upto_region 4 with fail
      go_quiet (fail)
      go_wp2_with fail
      go_ret2
      exact ⟨by simp, below_drewN hb _⟩
  | [], HN =>
    show Calls _ _ _ _ fun e w' => e = .returned (.tuple #[.bool true, .bool false]) ∧ Below w.heap.size w w'
    go_enter Tryd.func13, Tryd.ntmps13
    go_wp2_with (go_at_call 27; ((with_reducible refine (HN.out).mono ?_); rintro e w1 ⟨v, rfl, hr, hb⟩); obtain ⟨p, c, rfl⟩ := rd_len' hr (n := 0) rfl; clear hr)
    go_ret2
    exact ⟨rfl, hb⟩
  | [z], HN =>
    show Calls _ _ _ _ fun e w' => e = .returned (.tuple #[.bool true, .bool false]) ∧ Below w.heap.size w w'
    go_enter Tryd.func13, Tryd.ntmps13
    go_wp2_with (go_at_call 27; ((with_reducible refine (HN.out).mono ?_); rintro e w1 ⟨v, rfl, hr, hb⟩); obtain ⟨p, c, rfl⟩ := rd_len' hr (n := 1) rfl; clear hr)
    go_ret2
    exact ⟨rfl, hb⟩
set_option maxRecDepth 100000 in
set_option maxHeartbeats 2000000 in
theorem rwants_c (s : ByteArray) (w : World) (hs : s.size ≤ 1048576) : Calls Tryd.prog 14 #[.string s] w fun e w' => e = .returned (.tuple #[.bool (wantA (NL s)), .bool (wantB (NL s))]) ∧ Below w.heap.size w w' := by
  have HN := Lib.hid (nums_doc s w hs)
  have HO := Lib.hid (fun h => okN_of (s := s) h)
  generalize NL s = l at *
  generalize okN s = ok at *
  clear hs
  match l, HN, HO with
  | z :: y :: r, HN, HO =>
    show Calls _ _ _ _ fun e w' => e = .returned (.tuple #[.bool (!bitT z 1 || (y != 0)), .bool (bitT z 256)]) ∧ Below w.heap.size w w'
    have hok := HO.out (by simp)
    subst hok
    have e0 : IntKind.u32.wrap z = z % 4294967296 := IntKind.wrap_u32' z
    have k1 := Int.emod_nonneg z (by decide : (4294967296 : Int) ≠ 0)
    have k2 := Int.emod_lt_of_pos z (by decide : (0 : Int) < 4294967296)
    obtain ⟨n, hn⟩ : ∃ n, (y :: r).length + 1 = n := ⟨_, rfl⟩
    have h2 : ¬ ((n : Int) < 2) := by rw [← hn, List.length_cons]; omega
    have h0 : (0 : Int) < (n : Int) := by omega
    have h1 : (1 : Int) < (n : Int) := by omega
    have HL := Lib.hid hn
    clear hn HO
    go_enter Tryd.func14, Tryd.ntmps14
    go_upto_region 2 with (go_at_call 28; ((with_reducible refine (HN.out).mono ?_); rintro e w1 ⟨v, rfl, hr, hb⟩); skip)
    obtain ⟨b, o, c, rfl, hlt, hc⟩ := rd_open hr
    have c0 := hc 0 z rfl
    have c1 := hc 1 y rfl
    rw [HL.out]
    simp only [Nat.add_zero] at c0
    clear hr hc
    have q1 : bitT z 1 = !(z % 2 == 0) := by unfold bitT; rw [Bool.eq_iff_iff]; simp; omega
    have q2 : bitT z 256 = (z % 4294967296 / 256 % 2 == 1) := by unfold bitT; rw [Bool.eq_iff_iff]; simp; omega
    have Q := Lib.hid (And.intro q1 q2)
    clear q1 q2
    go_wp2_with fail
    · go_ret2
      refine ⟨?_, hb⟩
      have hz : (z % 2 == 0) = true := by first | assumption | (simp; assumption) | (simp; omega)
      rw [Q.out.1, Q.out.2, Bool.not_not, hz, Bool.true_or]
      rfl
    · go_ret2
      refine ⟨?_, hb⟩
      rw [Q.out.1, Q.out.2, Bool.not_not]
      rfl
  | [], HN, HO =>
    show Calls _ _ _ _ fun e w' => e = .returned (.tuple #[.bool true, .bool false]) ∧ Below w.heap.size w w'
    cases ok
    all_goals
      go_enter Tryd.func14, Tryd.ntmps14
      go_wp2_with (go_at_call 28; ((with_reducible refine (HN.out).mono ?_); rintro e w1 ⟨v, rfl, hr, hb⟩); obtain ⟨p, c, rfl⟩ := rd_len' hr (n := 0) rfl; clear hr)
      go_ret2
      exact ⟨rfl, hb⟩
  | [z], HN, HO =>
    show Calls _ _ _ _ fun e w' => e = .returned (.tuple #[.bool true, .bool false]) ∧ Below w.heap.size w w'
    have hok := HO.out (by simp)
    subst hok
    go_enter Tryd.func14, Tryd.ntmps14
    go_wp2_with (go_at_call 28; ((with_reducible refine (HN.out).mono ?_); rintro e w1 ⟨v, rfl, hr, hb⟩); obtain ⟨p, c, rfl⟩ := rd_len' hr (n := 1) rfl; clear hr)
    go_ret2
    exact ⟨rfl, hb⟩
end At
end Go.Proofs.YthppjmhocmppfaaDoor
