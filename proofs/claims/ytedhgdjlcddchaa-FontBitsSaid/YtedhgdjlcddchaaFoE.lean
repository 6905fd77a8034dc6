import Derived.Test.YtedhgdjlcddchaaFoD
import Derived.Test.YtedhgdjlcddchaaMem
import Derived.Deep.QuietTactic
import Derived.BigQuiet
namespace Go.Proofs.Ytedhgdjlcddchaa
open Go.RowKit Go.Shelf
theorem wf_u8 {a : Int} (h : (Lit.int .u8 a).wf = true) : 0 ≤ a ∧ a ≤ 255 := by
  simp only [Lit.wf, decide_eq_true_eq, Bool.and_eq_true] at h
  have h1 : IntKind.u8.min = 0 := rfl
  have h2 : IntKind.u8.max = 255 := rfl
  omega
theorem bits_w (c row : Int) (w : World) (hc : (Lit.int .u8 c).wf = true) :
    Calls Try.prog 9 #[.int .u8 c, .int .i64 row] w fun e w' => e = .returned (.bool true) ∧ Below w.heap.size w w' := by
  obtain ⟨c1, c2⟩ := wf_u8 hc
  go_enter Try.func9, Try.ntmps9
  go_wp2_with (first
    | (go_at_call 28; refine (bits_c _ _ _ c1 c2).mono ?_; rintro e w1 ⟨rfl, rfl⟩)
    | (go_at_call 29; refine (rbits_c _ _ _ c1 c2).mono ?_; rintro e w1 ⟨rfl, rfl⟩)
    | (go_at_call 30; refine (awake_c _).mono ?_; rintro e w1 ⟨rfl, hb⟩))
  go_ret
  exact ⟨rfl, hb⟩
theorem seen_w (c : Int) (w : World) (hc : (Lit.int .u8 c).wf = true) :
    Calls Try.prog 14 #[.int .u8 c] w fun e w' => e = .returned (.bool true) ∧ Below w.heap.size w w' := by
  obtain ⟨c1, c2⟩ := wf_u8 hc
  obtain ⟨c, rfl⟩ := Int.eq_ofNat_of_zero_le c1
  go_enter Try.func14, Try.ntmps14
  go_wp2_with fail
  go_loop [3, 4] (fun n i => ∃ k : Nat, k ≤ 16 ∧ i = .int .i64 k ∧ n = .int .i64 (rowsN c k : Nat)) (fun _ i => 16 - (intOf i).toNat)
  case atStart => exact ⟨0, Nat.zero_le _, rfl, rfl⟩
  case round =>
    obtain ⟨k, hk, rfl, rfl⟩ := hrel
    by_cases hlt : k < 16
    · have hB : ∀ W, Calls Try.prog 28 #[.int .u8 c, .int .i64 k] W fun e w' => e = .returned (.int .u8 (bitN c k : Nat)) ∧ W = w' := fun W => by
        have h := bits_c c k W c1 c2
        rw [show bitI c k = bitN c k by unfold bitI; rw [if_neg (by omega), Int.toNat_natCast, Int.toNat_natCast]] at h
        exact h
      obtain ⟨hb1, hb2⟩ := bit_lt c k
      have he : bits .and .u8 ((bitN c k : Nat) : Int) 129 = 0 := by
        rw [show (129 : Int) = ((129 : Nat) : Int) from rfl, u8_and_nat _ _ (by omega) (by omega), edge_none hb1 hb2]; rfl
      have HR := Lib.hid (show rowsN c (k + 1) = if bitN c k = 0 then rowsN c k else rowsN c k + 1 from rfl)
      have hle := rows_le c k
      by_cases hz : bitN c k = 0
      · rw [hz] at hB he
        have HQ := Lib.hid (show rowsN c (k + 1) = rowsN c k by rw [HR.out, if_pos hz])
        clear HR hz hb1 hb2
        go_wp2_with (go_at_call 28; refine (hB _).mono ?_; rintro e w1 ⟨rfl, rfl⟩)
        go_round
        case rel => exact ⟨k + 1, by omega, by go_num, by rw [HQ.out]⟩
        case measure => simp [intOf]; omega
      · have hz' : (((bitN c k : Nat) : Int) != 0) = true := by simp; omega
        have HQ := Lib.hid (show rowsN c (k + 1) = rowsN c k + 1 by rw [HR.out, if_neg hz])
        clear HR hz
        go_wp2_with (go_at_call 28; refine (hB _).mono ?_; rintro e w1 ⟨rfl, rfl⟩)
        go_round
        case rel => exact ⟨k + 1, by omega, by go_num, by rw [HQ.out]; go_num⟩
        case measure => simp [intOf]; omega
    · obtain rfl : k = 16 := by omega
      have hS := seen_of (c := c) (by omega)
      have h1 := fun W => bits_c c (-1) W c1 c2
      rw [show bitI c (-1) = 0 from rfl] at h1
      have h2 := fun W => bits_c c 16 W c1 c2
      rw [show bitI c 16 = 0 by unfold bitI bitN; rw [if_neg (by omega), if_pos (.inl (by decide))]; rfl] at h2
      by_cases h32 : c = 32
      · subst h32
        have e0 : rowsN 32 16 = 0 := by decide +kernel
        rw [e0]
        clear hS
        go_wp2_with fail
        refine (h1 _).mono ?_
        rintro e w1 ⟨rfl, rfl⟩
        go_wp2_with fail
        refine (h2 _).mono ?_
        rintro e w1 ⟨rfl, rfl⟩
        go_wp2_with (go_at_call 30; refine (awake_c _).mono ?_; rintro e w1 ⟨rfl, hb⟩)
        go_ret
        exact ⟨rfl, hb⟩
      · have e0 : 0 < rowsN c 16 := by
          have := hS
          rw [show (c == 32) = false by simpa using h32] at this
          simpa using this
        have e1 : ((c : Int) != 32) = true := by simp; omega
        generalize rowsN c 16 = z at e0 ⊢
        clear hS h32
        go_wp2_with fail
        refine (h1 _).mono ?_
        rintro e w1 ⟨rfl, rfl⟩
        go_wp2_with fail
        refine (h2 _).mono ?_
        rintro e w1 ⟨rfl, rfl⟩
        go_wp2_with (go_at_call 30; refine (awake_c _).mono ?_; rintro e w1 ⟨rfl, hb⟩)
        go_ret
        exact ⟨rfl, hb⟩
theorem fits_w (s : ByteArray) (n : Int) (w : World) (hs : s.size ≤ 140737488355328) (hn : -9223372036854775808 ≤ n) (hn' : n ≤ 9223372036854775807) :
    Calls Try.prog 10 #[.string s, .int .i64 n] w fun e w' => e = .returned (.bool true) ∧ Below w.heap.size w w' := by
  go_enter Try.func10, Try.ntmps10
  go_wp2_with (first
    | (go_at_call 31; refine (width_c _ _ hs).mono ?_; rintro e w1 ⟨rfl, rfl⟩)
    | (go_at_call 32; refine (fit_c _ _ _ hs hn hn').mono ?_; rintro e w1 ⟨rfl, hb1⟩)
    | (go_at_call 33; refine (rfit_c _ _ _ hs hn hn').mono ?_; rintro e w1 ⟨rfl, rfl⟩)
    | (go_at_call 30; refine (awake_c _).mono ?_; rintro e w2 ⟨rfl, hb⟩))
  go_ret
  exact ⟨rfl, hb1.trans (hb.mono hb1.size)⟩
theorem fit_size (s : ByteArray) (n : Int) : (fitB s n).size ≤ s.size ∧ (0 ≤ n → 8 * ((fitB s n).size : Int) ≤ n) := by
  unfold fitB
  split
  · exact ⟨Nat.zero_le _, fun h => by omega⟩
  · split
    · exact ⟨Nat.le_refl _, fun h => by omega⟩
    · split
      · exact ⟨Nat.zero_le _, fun h => h⟩
      · have e : (s.extract 0 (n / 8 - 3).toNat ++ dots).size = (n / 8).toNat := by
          rw [ByteArray.size_append, ByteArray.size_extract]
          show min (n / 8 - 3).toNat s.size - 0 + 3 = _
          omega
        rw [e]
        exact ⟨by omega, fun h => by omega⟩
theorem fit_whole {s : ByteArray} {n : Int} (h0 : 0 ≤ n) (h : 8 * (s.size : Int) ≤ n) : fitB s n = s := by
  unfold fitB; rw [if_neg (by omega), if_pos (by omega)]
theorem fit_neg {s : ByteArray} {n : Int} (h0 : n < 0) : fitB s n = ⟨#[]⟩ := by unfold fitB; rw [if_pos h0]
theorem fit_fit {s : ByteArray} {n : Int} (h0 : 0 ≤ n) : fitB (fitB s n) n = fitB s n := fit_whole h0 ((fit_size s n).2 h0)
theorem fit_get {s : ByteArray} {n : Int} (i : Nat) (h : i + 3 < (fitB s n).size) (h' : i < s.size) (h'' : i < (fitB s n).size) : (fitB s n)[i] = s[i] := by
  by_cases h0 : n < 0
  · rw [fit_neg h0] at h; exact absurd h (show ¬ (i + 3 < 0) by omega)
  by_cases h1 : (s.size : Int) ≤ n / 8
  · have e : fitB s n = s := by unfold fitB; rw [if_neg h0, if_pos h1]
    simp only [e]
  by_cases h2 : n / 8 < 3
  · have e : fitB s n = ⟨#[]⟩ := by unfold fitB; rw [if_neg h0, if_neg h1, if_pos h2]
    rw [e] at h; exact absurd h (show ¬ (i + 3 < 0) by omega)
  have e : fitB s n = s.extract 0 (n / 8 - 3).toNat ++ dots := by unfold fitB; rw [if_neg h0, if_neg h1, if_neg h2]
  have es : (s.extract 0 (n / 8 - 3).toNat ++ dots).size = (n / 8).toNat := by
    rw [ByteArray.size_append, ByteArray.size_extract]
    show min (n / 8 - 3).toNat s.size - 0 + 3 = _
    omega
  rw [e, es] at h
  simp only [e]
  rw [ByteArray.getElem_append_left (by rw [ByteArray.size_extract]; omega), ByteArray.getElem_extract]
  simp
set_option maxRecDepth 100000 in
set_option maxHeartbeats 2000000 in
theorem short_w (s : ByteArray) (n : Int) (w : World) (hs : s.size ≤ 140737488355328) (hn : -9223372036854775808 ≤ n) (hn' : n ≤ 9223372036854775807) :
    Calls Try.prog 12 #[.string s, .int .i64 n] w fun e w' => e = .returned (.bool true) ∧ Below w.heap.size w w' := by
  have hF := fun W => fit_c s n W hs hn hn'
  have hW := fun W => width_c s W hs
  obtain ⟨z1, z2⟩ := fit_size s n
  by_cases h0 : n < 0
  · rw [fit_neg h0] at hF
    clear z1 z2
    go_enter Try.func12, Try.ntmps12
    go_wp2_with (first
      | (go_at_call 32; refine (hF _).mono ?_; rintro e w1 ⟨rfl, hb1⟩)
      | (go_at_call 30; refine (awake_c _).mono ?_; rintro e w2 ⟨rfl, hb⟩))
    go_ret
    exact ⟨rfl, hb1.trans (hb.mono hb1.size)⟩
  · have z3 := z2 (by omega)
    have hG : ∀ i : Nat, i + 3 < (fitB s n).size → ∀ h' : i < s.size, ∀ h'' : i < (fitB s n).size, (fitB s n)[i] = s[i] := fun i h h' h'' => fit_get i h h' h''
    have hT : ∀ W, Calls Try.prog 32 #[.string (fitB s n), .int .i64 n] W fun e w' => e = .returned (.string (fitB s n)) ∧ Below W.heap.size W w' := fun W => by
      have h := fit_c (fitB s n) n W (by omega) hn hn'
      rw [fit_fit (by omega)] at h
      exact h
    have hV := fun W => width_c (fitB s n) W (by omega)
    have hE : 8 * (s.size : Int) ≤ n → fitB s n = s := fun h => fit_whole (by omega) h
    generalize fitB s n = t at *
    have HG := Lib.hid hG
    clear hG z2
    by_cases h1 : 8 * (s.size : Int) ≤ n
    · obtain rfl := hE h1
      clear hE hW hV
      go_enter Try.func12, Try.ntmps12
      go_wp2_with (first
        | (go_at_call 32; refine (hF _).mono ?_; rintro e w1 ⟨rfl, hb1⟩)
        | (go_at_call 31; refine (width_c _ _ hs).mono ?_; rintro e w2 ⟨rfl, rfl⟩))
      go_loopw [6] (fun i wr => ∃ k : Nat, i = .int .i64 k ∧ ∃ m, wr = w1.drewN m) (fun i _ => t.size - (intOf i).toNat)
      case atStart => exact ⟨0, rfl, 0, rfl⟩
      case round =>
        obtain ⟨k, rfl, m, rfl⟩ := hrel
        by_cases hlt : k + 3 < t.size
        · have l1 : (0 : Int) ≤ (k : Int) := by omega
          have l2 : (k : Int) < (t.size : Int) := by omega
          have l3 : (k : Int) < (t.size : Int) := by omega
          have l4 : decide ((k : Int) < (t.size : Int) - 3) = true := by simp; omega
          go_wp2_with fail
          go_quiet (fail)
          go_wp2_with fail
          go_roundw
          case rel => exact ⟨k + 1, by go_num, m + nq, rfl⟩
          case measure => simp [intOf]; omega
        · have l4 : decide ((k : Int) < (t.size : Int) - 3) = false := by simp; omega
          go_wp2_with (first
            | (go_at_call 32; refine (hT _).mono ?_; rintro e w3 ⟨rfl, hb3⟩)
            | (go_at_call 30; refine (awake_c _).mono ?_; rintro e w4 ⟨rfl, hb⟩))
          go_ret
          exact ⟨rfl, ((below_drewN hb1 m).trans (hb3.mono (below_drewN hb1 m).size)).trans (hb.mono ((below_drewN hb1 m).trans (hb3.mono (below_drewN hb1 m).size)).size)⟩
    · clear hE
      go_enter Try.func12, Try.ntmps12
      go_wp2_with (first
        | (go_at_call 32; refine (hF _).mono ?_; rintro e w1 ⟨rfl, hb1⟩)
        | (go_at_call 31; refine (hV _).mono ?_; rintro e w2 ⟨rfl, rfl⟩)
        | (go_at_call 31; refine (hW _).mono ?_; rintro e w2 ⟨rfl, rfl⟩))
      go_loopw [6] (fun i wr => ∃ k : Nat, i = .int .i64 k ∧ ∃ m, wr = w1.drewN m) (fun i _ => t.size - (intOf i).toNat)
      case atStart => exact ⟨0, rfl, 0, rfl⟩
      case round =>
        obtain ⟨k, rfl, m, rfl⟩ := hrel
        by_cases hlt : k + 3 < t.size
        · have l1 : (0 : Int) ≤ (k : Int) := by omega
          have l2 : (k : Int) < (t.size : Int) := by omega
          have l3 : (k : Int) < (s.size : Int) := by omega
          have l4 : decide ((k : Int) < (t.size : Int) - 3) = true := by simp; omega
          go_wp2_with fail
          go_quiet (fail)
          have hg : t[k] = s[k] := HG.out k hlt (by omega) (by omega)
          have l5 : (((t[k].toNat : Nat) : Int) != ((s[k].toNat : Nat) : Int)) = false := by simp [hg]
          clear hg
          go_wp2_with fail
          go_roundw
          case rel => exact ⟨k + 1, by go_num, m + nq, rfl⟩
          case measure => simp [intOf]; omega
        · have l4 : decide ((k : Int) < (t.size : Int) - 3) = false := by simp; omega
          go_wp2_with (first
            | (go_at_call 32; refine (hT _).mono ?_; rintro e w3 ⟨rfl, hb3⟩)
            | (go_at_call 30; refine (awake_c _).mono ?_; rintro e w4 ⟨rfl, hb⟩))
          go_ret
          exact ⟨rfl, ((below_drewN hb1 m).trans (hb3.mono (below_drewN hb1 m).size)).trans (hb.mono ((below_drewN hb1 m).trans (hb3.mono (below_drewN hb1 m).size)).size)⟩
end Go.Proofs.Ytedhgdjlcddchaa
