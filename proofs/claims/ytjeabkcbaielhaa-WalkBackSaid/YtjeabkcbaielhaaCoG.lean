/- Is a container sound by itself: cons.sound, cons.isSplit; the document's shape. -/
import Derived.Test.YtjeabkcbaielhaaCoF
namespace Go.Proofs.Ytjeabkcbaielhaa.Co
open Go.RowKit
def splitB (k : Int) : Bool := decide (1 ≤ k ∧ k ≤ 4)
theorem isSplit_c (k : Int) (w : World) : Calls Try.prog 76 #[.int .i64 k] w fun e w' => e = .returned (.bool (splitB k)) ∧ w = w' := by
  by_cases h1 : 1 ≤ k
  · by_cases h2 : k ≤ 4
    · rw [show splitB k = true from decide_eq_true ⟨h1, h2⟩]
      go_enter Try.func76, Try.ntmps76
      go_wp2
      go_ret
      exact ⟨rfl, rfl⟩
    · rw [show splitB k = false from decide_eq_false fun h => h2 h.2]
      go_enter Try.func76, Try.ntmps76
      go_wp2
      go_ret
      exact ⟨rfl, rfl⟩
  · rw [show splitB k = false from decide_eq_false fun h => h1 h.1]
    go_enter Try.func76, Try.ntmps76
    go_wp2
    go_ret
    exact ⟨rfl, rfl⟩
set_option maxHeartbeats 1000000 in
theorem sound_c (x : Con) (p : Option Addr) (cap : Nat) (deep : Nat) (w : World) (hl : x.ks.length ≤ 1152921504606846976) (hd : deep ≤ 1000000) :
    Calls Try.prog 58 #[conV x.a (.slice p x.ks.length cap), .int .i64 deep] w fun e w' => e = .returned (.bool (soundB x deep)) ∧ Below w.heap.size w w' := by
  obtain ⟨⟨k, wt, c, s⟩, ks⟩ := x
  show Calls Try.prog 58 #[.agg #[.int .i64 k, .int .i64 wt, .int .i64 c, .int .i64 s, .slice p ks.length cap], .int .i64 deep] w fun e w' => e = .returned (.bool (soundB (.mk ⟨k, wt, c, s⟩ ks) deep)) ∧ Below w.heap.size w w'
  have hl : ks.length ≤ 1152921504606846976 := hl
  have hB := (Below.refl w.heap.size w).alloc (Nat.le_refl _) (.cells #[.int .i64 k, .int .i64 wt, .int .i64 c, .int .i64 s, .slice p ks.length cap] 24)
  obtain ⟨m, hm⟩ : ∃ m, m = ks.length := ⟨_, rfl⟩
  rw [← hm] at hl hB ⊢
  have HM := Lib.hid hm
  clear hm
  obtain ⟨r, hr⟩ : ∃ r, r = soundB (.mk ⟨k, wt, c, s⟩ ks) deep := ⟨_, rfl⟩
  rw [← hr]
  by_cases h1 : (8 : Int) < deep
  · have HR : Hid (r = false) := by rw [hr]; unfold soundB; rw [if_pos (.inl (by omega))]; rfl
    clear hr
    go_enter Try.func58, Try.ntmps58
    go_wp2
    go_ret
    exact ⟨ret_bool HR.out.symm, hB⟩
  by_cases h2 : wt < 1
  · have HR : Hid (r = false) := by rw [hr]; unfold soundB; rw [if_pos (.inr (.inl h2))]; rfl
    clear hr
    go_enter Try.func58, Try.ntmps58
    go_wp2
    go_ret
    exact ⟨ret_bool HR.out.symm, hB⟩
  by_cases h3 : 1048576 < wt
  · have HR : Hid (r = false) := by rw [hr]; unfold soundB; rw [if_pos (.inr (.inr h3))]; rfl
    clear hr
    go_enter Try.func58, Try.ntmps58
    go_wp2
    go_ret
    exact ⟨ret_bool HR.out.symm, hB⟩
  by_cases h4 : k = 0
  · subst h4
    have HR : Hid (r = decide (0 < deep ∧ 1 ≤ c ∧ 0 ≤ s ∧ m = 0)) := by
      rw [hr, HM.out]; unfold soundB; rw [if_neg (by simp only [Tr.a_mk]; omega)]; simp only [Tr.a_mk, Tr.ks_mk, if_true]; rfl
    clear hr hd
    go_enter Try.func58, Try.ntmps58
    go_wp2
    all_goals (go_ret; refine ⟨ret_bool ?_, hB⟩; rw [HR.out, Bool.eq_iff_iff]; simp; omega)
  · have HR : Hid (r = decide (1 ≤ k ∧ k ≤ 4 ∧ c = 0 ∧ s = 0 ∧ m ≤ 64 ∧ (deep = 0 ∨ 0 < m))) := by
      rw [hr, HM.out]; unfold soundB; rw [if_neg (by simp only [Tr.a_mk]; omega)]; simp only [Tr.a_mk, Tr.ks_mk, h4, if_false]; rfl
    clear hr hd
    have hsp : splitB k = decide (1 ≤ k ∧ k ≤ 4) := rfl
    cases hs : splitB k
    · have HS : Hid (¬ (1 ≤ k ∧ k ≤ 4)) := fun h => by rw [hsp, decide_eq_true h] at hs; cases hs
      have HI := Lib.hid (fun W => isSplit_c k W)
      rw [hs] at HI
      clear hs hsp
      have h6 : decide (64 < (m : Int)) = decide (64 < m) := by rw [Bool.eq_iff_iff]; simp; omega
      go_enter Try.func58, Try.ntmps58
      go_wp2_with (go_at_call 76; ((with_reducible refine (HI.out _).mono ?_); rintro e1 w1 ⟨rfl, rfl⟩); skip)
      all_goals (go_ret; refine ⟨ret_bool ?_, (Below.refl _ _).alloc (Nat.le_refl _) _⟩; have := HS.out; rw [HR.out, Bool.eq_iff_iff]; simp; omega)
    · have hS2 : 1 ≤ k ∧ k ≤ 4 := of_decide_eq_true (hsp.symm.trans hs)
      have HS := Lib.hid hS2
      clear hS2
      have HI := Lib.hid (fun W => isSplit_c k W)
      rw [hs] at HI
      clear hs hsp
      go_enter Try.func58, Try.ntmps58
      go_wp2_with (go_at_call 76; ((with_reducible refine (HI.out _).mono ?_); rintro e1 w1 ⟨rfl, rfl⟩); skip)
      all_goals (go_ret; refine ⟨ret_bool ?_, (Below.refl _ _).alloc (Nat.le_refl _) _⟩; have := HS.out; rw [HR.out, Bool.eq_iff_iff]; simp; omega)
end Go.Proofs.Ytjeabkcbaielhaa.Co
