import Derived.Test.YtedhgdjlcddchaaFoC
import Derived.Test.YtedhgdjlcddchaaFoS
namespace Go.Proofs.Ytedhgdjlcddchaa
open Go.RowKit Go.Shelf
theorem strclone_c (s : ByteArray) (w : World) (hs : s.size ≤ 281474976710656) : Calls Try.prog 61 #[.string s] w fun e w' => e = .returned (.string s) ∧ Below w.heap.size w w' := by
  have HC := Lib.hid (fun W => Any.stringslite_Clone cloneStr s W hs)
  go_enter Try.func61, Try.ntmps61
  go_wp2_with (go_at_call 89; refine (HC.out _).mono ?_; rintro e w' ⟨rfl, hb⟩)
  go_ret
  exact ⟨rfl, hb⟩
def dots : ByteArray := ⟨#[46, 46, 46]⟩
def fitB (s : ByteArray) (w : Int) : ByteArray :=
  if w < 0 then ⟨#[]⟩ else if (s.size : Int) ≤ w / 8 then s else if w / 8 < 3 then ⟨#[]⟩ else s.extract 0 (w / 8 - 3).toNat ++ dots
theorem fit_c (s : ByteArray) (n : Int) (w : World) (hs : s.size ≤ 140737488355328) (hn : -9223372036854775808 ≤ n) (hn' : n ≤ 9223372036854775807) : Calls Try.prog 32 #[.string s, .int .i64 n] w fun e w' => e = .returned (.string (fitB s n)) ∧ Below w.heap.size w w' := by
  have hc : ∀ s W, s.size ≤ 281474976710656 → Calls Try.prog 61 #[.string s] W fun e w' => e = .returned (.string s) ∧ Below W.heap.size W w' := fun s W h => strclone_c s W h
  by_cases h0 : n < 0
  · have e : fitB s n = ⟨#[]⟩ := by unfold fitB; rw [if_pos h0]
    rw [e]
    clear e
    have q1 : n.tdiv 8 ≤ 0 := by
      have := Int.tdiv_nonneg (a := -n) (b := 8) (by omega) (by omega)
      rw [Int.neg_tdiv] at this
      omega
    have q2 : n.tdiv 8 < 3 := by omega
    by_cases hz : (s.size : Int) ≤ n.tdiv 8
    · have hz0 : s.size = 0 := by omega
      obtain rfl : s = ⟨#[]⟩ := by
        apply ByteArray.ext
        exact Array.eq_empty_of_size_eq_zero hz0
      have hq : (0 : Int) ≤ n.tdiv 8 := hz
      have hq0 : n.tdiv 8 = 0 := by omega
      clear hs q1 hz hz0
      go_enter Try.func32, Try.ntmps32
      go_wp2_with (go_at_call 61; refine (hc _ _ (by decide)).mono ?_; rintro e w' ⟨rfl, hb⟩)
      go_ret
      exact ⟨rfl, hb⟩
    · go_enter Try.func32, Try.ntmps32
      go_wp2_with fail
      go_ret
      exact ⟨rfl, Below.refl _ _⟩
  · by_cases h1 : (s.size : Int) ≤ n / 8
    · have e : fitB s n = s := by unfold fitB; rw [if_neg h0, if_pos h1]
      rw [e]
      go_enter Try.func32, Try.ntmps32
      go_wp2_with (go_at_call 61; refine (hc _ _ (by omega)).mono ?_; rintro e w' ⟨rfl, hb⟩)
      go_ret
      exact ⟨rfl, hb⟩
    · by_cases h2 : n / 8 < 3
      · have e : fitB s n = ⟨#[]⟩ := by unfold fitB; rw [if_neg h0, if_neg h1, if_pos h2]
        rw [e]
        go_enter Try.func32, Try.ntmps32
        go_wp2_with fail
        go_ret
        exact ⟨rfl, Below.refl _ _⟩
      · have e : fitB s n = s.extract 0 (n / 8 - 3).toNat ++ dots := by unfold fitB; rw [if_neg h0, if_neg h1, if_neg h2]
        rw [e]
        have hsz : (s.extract 0 (n / 8 - 3).toNat ++ ({ data := #[46, 46, 46] } : ByteArray)).size ≤ 281474976710656 := by
          rw [ByteArray.size_append, ByteArray.size_extract]
          show _ + 3 ≤ _
          omega
        go_enter Try.func32, Try.ntmps32
        go_wp2_with (go_at_call 61; refine (hc _ _ hsz).mono ?_; rintro e w' ⟨rfl, hb⟩)
        go_ret
        exact ⟨rfl, hb⟩
theorem rfit_c (s : ByteArray) (n : Int) (w : World) (hs : s.size ≤ 140737488355328) (hn : -9223372036854775808 ≤ n) (hn' : n ≤ 9223372036854775807) : Calls Try.prog 33 #[.string s, .int .i64 n] w fun e w' => e = .returned (.string (fitB s n)) ∧ w = w' := by
  by_cases h0 : n < 0
  · have e : fitB s n = ⟨#[]⟩ := by unfold fitB; rw [if_pos h0]
    rw [e]
    go_enter Try.func33, Try.ntmps33
    go_wp2_with fail
    go_ret
    exact ⟨rfl, rfl⟩
  · by_cases h1 : (s.size : Int) ≤ n / 8
    · have e : fitB s n = s := by unfold fitB; rw [if_neg h0, if_pos h1]
      rw [e]
      go_enter Try.func33, Try.ntmps33
      go_wp2_with fail
      go_ret
      exact ⟨rfl, rfl⟩
    · by_cases h2 : n / 8 < 3
      · have e : fitB s n = ⟨#[]⟩ := by unfold fitB; rw [if_neg h0, if_neg h1, if_pos h2]
        rw [e]
        go_enter Try.func33, Try.ntmps33
        go_wp2_with fail
        go_ret
        exact ⟨rfl, rfl⟩
      · have e : fitB s n = s.extract 0 (n / 8 - 3).toNat ++ dots := by unfold fitB; rw [if_neg h0, if_neg h1, if_neg h2]
        rw [e]
        go_enter Try.func33, Try.ntmps33
        go_wp2_with fail
        go_ret
        exact ⟨rfl, rfl⟩
theorem width_c (s : ByteArray) (w : World) (hs : s.size ≤ 140737488355328) : Calls Try.prog 31 #[.string s] w fun e w' => e = .returned (.int .i64 (8 * (s.size : Int))) ∧ w = w' := by
  go_enter Try.func31, Try.ntmps31
  go_wp2
  go_ret
  exact ⟨rfl, rfl⟩
theorem fit_ex1 : fitB ⟨#[97, 98, 99, 100, 101, 102]⟩ 40 = ⟨#[97, 98, 46, 46, 46]⟩ := by decide +kernel
theorem fit_ex2 : fitB ⟨#[97, 98, 99]⟩ 24 = ⟨#[97, 98, 99]⟩ := by decide +kernel
theorem fit_ex3 : fitB ⟨#[97, 98, 99, 100]⟩ 16 = ⟨#[]⟩ := by decide +kernel
set_option maxHeartbeats 1000000 in
theorem awake_c (w : World) : Calls Try.prog 30 #[] w fun e w' => e = .returned (.bool true) ∧ Below w.heap.size w w' := by
  have h1 := fun W => fit_c ⟨#[97, 98, 99, 100, 101, 102]⟩ 40 W (by decide) (by omega) (by omega)
  have h2 := fun W => fit_c ⟨#[97, 98, 99]⟩ 24 W (by decide) (by omega) (by omega)
  have h3 := fun W => fit_c ⟨#[97, 98, 99, 100]⟩ 16 W (by decide) (by omega) (by omega)
  rw [fit_ex1] at h1
  rw [fit_ex2] at h2
  rw [fit_ex3] at h3
  have h4 := fun W => bits_c 33 0 W (by omega) (by omega)
  rw [show bitI 33 0 = 0 by decide +kernel] at h4
  have h5 := fun W => bits_c 127 2 W (by omega) (by omega)
  rw [show bitI 127 2 = 126 by decide +kernel] at h5
  have h6 := fun W => width_c ⟨#[97, 98]⟩ W (by decide)
  go_enter Try.func30, Try.ntmps30
  go_wp2_with fail
  refine (h1 _).mono ?_
  rintro e w1 ⟨rfl, hb1⟩
  go_wp2_with fail
  refine (h2 _).mono ?_
  rintro e w2 ⟨rfl, hb2⟩
  go_wp2_with fail
  refine (h3 _).mono ?_
  rintro e w3 ⟨rfl, hb3⟩
  go_wp2_with fail
  refine (h4 _).mono ?_
  rintro e w4 ⟨rfl, rfl⟩
  go_wp2_with fail
  refine (h5 _).mono ?_
  rintro e w5 ⟨rfl, rfl⟩
  go_wp2_with fail
  refine (h6 _).mono ?_
  rintro e w6 ⟨rfl, rfl⟩
  go_wp2_with fail
  go_ret
  exact ⟨rfl, (hb1.trans (hb2.mono hb1.size)).trans (hb3.mono (Nat.le_trans hb1.size hb2.size))⟩
end Go.Proofs.Ytedhgdjlcddchaa
