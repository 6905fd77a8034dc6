/- The document's answers: along, height, find: pure, and walked. -/
import Derived.Test.YtdmoncpeoaoppaaSzI
namespace Go.Proofs.Ytdmoncpeoaoppaa
open Go.RowKit
namespace Sz
def alongB (n l m b i : Int) : Bool := decide (l ≤ n ∧ n ≤ mx m ∧ b ≤ n ∧ (n - b) % i = 0)
theorem alongB_iff (n l m b i : Int) : alongB n l m b i = true ↔ (newS l m b i).S n := by
  unfold alongB newS Sd.S; rw [decide_eq_true_iff]
  simp only []
  constructor
  · rintro ⟨h1, h2, h3, h4⟩; exact ⟨by omega, h2, h4⟩
  · rintro ⟨h1, h2, h3⟩; exact ⟨by omega, h2, by omega, h3⟩
theorem whole_c (n l : Int) (w : World) : Calls Try.prog 68 #[.int .i64 n, .int .i64 l] w fun e w' => e = .returned (.bool (decide (l ≤ n ∧ n ≤ 65535))) ∧ w = w' := by
  go_enter Try.func68, Try.ntmps68
  go_wp2
  all_goals (go_ret; exact ⟨ret_bool (by rw [Bool.eq_iff_iff]; simp; omega), rfl⟩)
theorem along_c (n l m b i : Int) (b0 : 0 ≤ b) (i1 : 1 ≤ i) (hn : n ≤ 4611686018427387904) (w : World) : Calls Try.prog 50 #[.int .i64 n, .int .i64 l, .int .i64 m, .int .i64 b, .int .i64 i] w fun e w' => e = .returned (.bool (alongB n l m b i)) ∧ w = w' := by
  obtain ⟨M, hM⟩ : ∃ M, mx m = M := ⟨_, rfl⟩
  have E : alongB n l m b i = decide (l ≤ n ∧ n ≤ M ∧ b ≤ n ∧ (n - b) % i = 0) := by unfold alongB; rw [hM]
  rw [E]
  have hm : (m = 0 ∧ M = 65535) ∨ (m ≠ 0 ∧ M = m) := by
    unfold mx at hM; split at hM
    · exact .inl ⟨by assumption, by omega⟩
    · exact .inr ⟨by assumption, by omega⟩
  clear E hM
  by_cases h1 : l ≤ n
  · by_cases h2 : n ≤ M
    · by_cases h3 : b ≤ n
      · obtain ⟨r, hr⟩ : ∃ r, (n - b) % i = r := ⟨_, rfl⟩
        have f1 : IntKind.i64.wrap (n - b) = n - b := IntWalk.i64_in _ (by omega)
        have E : decide (l ≤ n ∧ n ≤ M ∧ b ≤ n ∧ (n - b) % i = 0) = decide (r = 0) := by rw [hr]; simp [h1, h2, h3]
        rw [E]; clear E
        rcases hm with ⟨hm, rfl⟩ | ⟨hm, rfl⟩
        all_goals
          go_enter Try.func50, Try.ntmps50
          go_wp2_with fail
          go_ret
          exact ⟨ret_bool (by rw [Bool.eq_iff_iff]; simp), rfl⟩
      · have E : decide (l ≤ n ∧ n ≤ M ∧ b ≤ n ∧ (n - b) % i = 0) = false := decide_eq_false (fun k => h3 k.2.2.1)
        rw [E]; clear E
        rcases hm with ⟨hm, rfl⟩ | ⟨hm, rfl⟩
        all_goals
          go_enter Try.func50, Try.ntmps50
          go_wp2_with fail
          go_ret
          exact ⟨rfl, rfl⟩
    · have E : decide (l ≤ n ∧ n ≤ M ∧ b ≤ n ∧ (n - b) % i = 0) = false := decide_eq_false (fun k => h2 k.2.1)
      rw [E]; clear E
      rcases hm with ⟨hm, rfl⟩ | ⟨hm, rfl⟩
      all_goals
        go_enter Try.func50, Try.ntmps50
        go_wp2_with fail
        go_ret
        exact ⟨rfl, rfl⟩
  · have E : decide (l ≤ n ∧ n ≤ M ∧ b ≤ n ∧ (n - b) % i = 0) = false := decide_eq_false (fun k => h1 k.1)
    rw [E]; clear E
    rcases hm with ⟨hm, rfl⟩ | ⟨hm, rfl⟩
    all_goals
      go_enter Try.func50, Try.ntmps50
      go_wp2_with fail
      go_ret
      exact ⟨rfl, rfl⟩
/-- What height tells. -/
def HtP (h : Hn) (x t y : Int) : Prop := (0 < y ∧ Near (heightsS h x).S t y) ∨ (y = 0 ∧ ∀ z, ¬ (heightsS h x).S z)
/-- Its end: from the least one on. -/
theorem ht_none {s : Sd} (i1 : 1 ≤ s.i) {L : Int} (h : L = upV s s.l ∨ s.m < s.l) (hL : s.m < L) : ∀ z, ¬ s.S z := by
  intro z hz
  rcases h with h | h
  · have := up_least s i1 s.l z hz hz.1; have := hz.2.1; omega
  · have := hz.1; have := hz.2.1; omega
theorem ht_low {s : Sd} (i1 : 1 ≤ s.i) {t : Int} (hL : upV s s.l ≤ s.m) (ht : t < upV s s.l) : Near s.S t (upV s s.l) :=
  ⟨up_in s i1 _ hL, fun k => absurd k (by omega), fun _ z hz => up_least s i1 _ z hz hz.1⟩
theorem ht_step {s : Sd} (i1 : 1 ≤ s.i) {t k : Int} (hL : upV s s.l ≤ s.m) (ht : upV s s.l ≤ t) (hk : min t s.m = k) : Near s.S t (k - (k - upV s s.l) % s.i) := by
  have u := up_in s i1 s.l hL
  have r0 := Int.emod_nonneg (k - upV s s.l) (by omega : s.i ≠ 0)
  have e1 := Int.emod_add_mul_ediv (k - upV s s.l) s.i
  have e2 := Int.emod_add_mul_ediv (upV s s.l - s.b) s.i
  have e3 := Int.mul_nonneg (by omega : 0 ≤ s.i) (Int.ediv_nonneg (by omega : 0 ≤ k - upV s s.l) (by omega : 0 ≤ s.i))
  have u1 := u.1
  have u3 := u.2.2
  refine ⟨⟨by omega, by omega, mod_of (q := (k - upV s s.l) / s.i + (upV s s.l - s.b) / s.i) ?_⟩, fun _ z hz hn => ?_, fun c => absurd c (by omega)⟩
  · rw [Int.mul_add]; omega
  · have z1 := up_least s i1 s.l z hz hz.1
    have z2 := hz.2.1
    have z3 := hz.2.2
    have f1 := Int.emod_add_mul_ediv (z - s.b) s.i
    refine step_le i1 (mod_of (q := (z - s.b) / s.i - (upV s s.l - s.b) / s.i) ?_) (by omega)
    rw [Int.mul_sub]; omega
end Sz
end Go.Proofs.Ytdmoncpeoaoppaa
