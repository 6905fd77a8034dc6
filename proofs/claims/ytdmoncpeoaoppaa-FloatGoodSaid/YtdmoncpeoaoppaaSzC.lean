/- The lengths of one way, in the code: each call answers what its plain function does. -/
import Derived.Test.YtdmoncpeoaoppaaSzB
import Derived.Test.YtdmoncpeoaoppaaGeoA
import Derived.BigQuiet
namespace Go.Proofs.Ytdmoncpeoaoppaa
open Go.RowKit
namespace Sz

theorem tm {a b : Int} (h : 0 ≤ a) : a.tmod b = a % b := Int.tmod_eq_emod_of_nonneg h
theorem td {a b : Int} (h : 0 ≤ a) : a.tdiv b = a / b := Int.tdiv_eq_ediv_of_nonneg h
theorem newSide_c (l m b i : Int) (w : World) : Calls Try.prog 86 #[.int .i64 l, .int .i64 m, .int .i64 b, .int .i64 i] w fun e w' => e = .returned (.agg #[.int .i64 (newS l m b i).l, .int .i64 (newS l m b i).m, .int .i64 (newS l m b i).b, .int .i64 (newS l m b i).i]) ∧ Below w.heap.size w w' := by
  by_cases h : m = 0
  · have e1 : (newS l m b i) = ⟨max l b, 65535, b, i⟩ := by unfold newS mx; rw [if_pos h]
    rw [e1]
    have h0 : (m == 0) = true := by simp [h]
    go_enter Try.func86, Try.ntmps86
    go_wp2
    all_goals (go_returns; exact ⟨by simp <;> omega, by repeat' (first | (with_reducible exact Below.refl _ _) | (with_reducible assumption) | (with_reducible refine Below.alloc ?_ ?_ _) | (with_reducible refine Below.drew ?_) | (with_reducible refine Below.setCell ?_ ?_ _) | (with_reducible refine Below.on (by with_reducible assumption) ?_ ?_) | go_size)⟩)
  · have e1 : (newS l m b i) = ⟨max l b, m, b, i⟩ := by unfold newS mx; rw [if_neg h]
    rw [e1]
    have h0 : (m == 0) = false := by simp [h]
    go_enter Try.func86, Try.ntmps86
    go_wp2
    all_goals (go_returns; exact ⟨by simp <;> omega, by repeat' (first | (with_reducible exact Below.refl _ _) | (with_reducible assumption) | (with_reducible refine Below.alloc ?_ ?_ _) | (with_reducible refine Below.drew ?_) | (with_reducible refine Below.setCell ?_ ?_ _) | (with_reducible refine Below.on (by with_reducible assumption) ?_ ?_) | go_size)⟩)
theorem up_at {s : Sd} {n k r v : Int} (hk : max n s.l = k) (hr : (k - s.b) % s.i = r) (hv : (if 0 < r then k + (s.i - r) else k) = v) : upV s n = v := by
  unfold upV; rw [hk, hr]; exact hv
theorem up_c (s : Sd) (h : s.Ok) (n : Int) (n1 : 0 ≤ n) (n2 : n ≤ 4611686018427387904) (w : World) : Calls Try.prog 79 #[.agg #[.int .i64 s.l, .int .i64 s.m, .int .i64 s.b, .int .i64 s.i], .int .i64 n] w fun e w' => e = .returned (.tuple #[.int .i64 (upV s n), .bool (decide (upV s n ≤ s.m))]) ∧ Below w.heap.size w w' := by
  obtain ⟨i1, i2, b1, b2, l2, m1, m2⟩ := h
  by_cases hn : n < s.l
  · obtain ⟨r, hr⟩ : ∃ r, (s.l - s.b) % s.i = r := ⟨_, rfl⟩
    have e1 := Int.emod_nonneg (s.l - s.b) (by omega : s.i ≠ 0)
    have e2 := Int.emod_lt_of_pos (s.l - s.b) (by omega : 0 < s.i)
    rw [hr] at e1 e2
    have f1 : IntKind.i64.wrap (s.l - s.b) = s.l - s.b := IntWalk.i64_in _ (by omega)
    have f2 : IntKind.i64.wrap (s.i - r) = s.i - r := IntWalk.i64_in _ (by omega)
    have f3 : IntKind.i64.wrap (s.l + (s.i - r)) = s.l + (s.i - r) := IntWalk.i64_in _ (by omega)
    by_cases hp : 0 < r
    · have E : upV s n = s.l + (s.i - r) := up_at (by omega : max n s.l = s.l) hr (if_pos hp)
      rw [E]; clear E
      go_enter Try.func79, Try.ntmps79
      go_wp2_with fail
      go_quiet (fail)
      go_wp2_with fail
      go_ret2
      exact ⟨by simp, below_drewN (by repeat' (first | (with_reducible exact Below.refl _ _) | (with_reducible assumption) | (with_reducible refine Below.alloc ?_ ?_ _) | (with_reducible refine Below.drew ?_) | (with_reducible refine Below.setCell ?_ ?_ _) | (with_reducible refine Below.on (by with_reducible assumption) ?_ ?_) | go_size)) _⟩
    · have E : upV s n = s.l := up_at (by omega : max n s.l = s.l) hr (if_neg hp)
      rw [E]; clear E
      go_enter Try.func79, Try.ntmps79
      go_wp2_with fail
      go_quiet (fail)
      go_wp2_with fail
      go_ret2
      exact ⟨by simp, below_drewN (by repeat' (first | (with_reducible exact Below.refl _ _) | (with_reducible assumption) | (with_reducible refine Below.alloc ?_ ?_ _) | (with_reducible refine Below.drew ?_) | (with_reducible refine Below.setCell ?_ ?_ _) | (with_reducible refine Below.on (by with_reducible assumption) ?_ ?_) | go_size)) _⟩
  · obtain ⟨r, hr⟩ : ∃ r, (n - s.b) % s.i = r := ⟨_, rfl⟩
    have e1 := Int.emod_nonneg (n - s.b) (by omega : s.i ≠ 0)
    have e2 := Int.emod_lt_of_pos (n - s.b) (by omega : 0 < s.i)
    rw [hr] at e1 e2
    have f1 : IntKind.i64.wrap (n - s.b) = n - s.b := IntWalk.i64_in _ (by omega)
    have f2 : IntKind.i64.wrap (s.i - r) = s.i - r := IntWalk.i64_in _ (by omega)
    have f3 : IntKind.i64.wrap (n + (s.i - r)) = n + (s.i - r) := IntWalk.i64_in _ (by omega)
    by_cases hp : 0 < r
    · have E : upV s n = n + (s.i - r) := up_at (by omega : max n s.l = n) hr (if_pos hp)
      rw [E]; clear E
      go_enter Try.func79, Try.ntmps79
      go_wp2_with fail
      go_quiet (fail)
      go_wp2_with fail
      go_ret2
      exact ⟨by simp, below_drewN (by repeat' (first | (with_reducible exact Below.refl _ _) | (with_reducible assumption) | (with_reducible refine Below.alloc ?_ ?_ _) | (with_reducible refine Below.drew ?_) | (with_reducible refine Below.setCell ?_ ?_ _) | (with_reducible refine Below.on (by with_reducible assumption) ?_ ?_) | go_size)) _⟩
    · have E : upV s n = n := up_at (by omega : max n s.l = n) hr (if_neg hp)
      rw [E]; clear E
      go_enter Try.func79, Try.ntmps79
      go_wp2_with fail
      go_quiet (fail)
      go_wp2_with fail
      go_ret2
      exact ⟨by simp, below_drewN (by repeat' (first | (with_reducible exact Below.refl _ _) | (with_reducible assumption) | (with_reducible refine Below.alloc ?_ ?_ _) | (with_reducible refine Below.drew ?_) | (with_reducible refine Below.setCell ?_ ?_ _) | (with_reducible refine Below.on (by with_reducible assumption) ?_ ?_) | go_size)) _⟩
theorem down_at {s : Sd} {n k d r : Int} (hk : min n s.m = k) (hd : max (k - s.b) 0 = d) (hr : d % s.i = r) : downV s n = k - r := by
  unfold downV; rw [hk, hd, hr]
theorem down_c (s : Sd) (h : s.Ok) (n : Int) (n1 : -1 ≤ n) (n2 : n ≤ 4611686018427387904) (w : World) : Calls Try.prog 78 #[.agg #[.int .i64 s.l, .int .i64 s.m, .int .i64 s.b, .int .i64 s.i], .int .i64 n] w fun e w' => e = .returned (.tuple #[.int .i64 (downV s n), .bool (decide (s.l ≤ downV s n))]) ∧ Below w.heap.size w w' := by
  obtain ⟨i1, i2, b1, b2, l2, m1, m2⟩ := h
  have main : ∀ k, min n s.m = k → (n ≤ s.m ∧ k = n ∨ s.m < n ∧ k = s.m) → Calls Try.prog 78 #[.agg #[.int .i64 s.l, .int .i64 s.m, .int .i64 s.b, .int .i64 s.i], .int .i64 n] w fun e w' => e = .returned (.tuple #[.int .i64 (downV s n), .bool (decide (s.l ≤ downV s n))]) ∧ Below w.heap.size w w' := by
    intro k hk hc
    have f1 : IntKind.i64.wrap (k - s.b) = k - s.b := IntWalk.i64_in _ (by omega)
    have f3 : IntKind.i64.wrap k = k := IntWalk.i64_in _ (by omega)
    by_cases hd : k - s.b < 0
    · have E := down_at hk (by omega : max (k - s.b) 0 = 0) (Int.zero_emod s.i)
      rw [E]
      rcases hc with ⟨hc, hk'⟩ | ⟨hc, hk'⟩ <;> clear hk E <;> subst hk'
      all_goals
        go_enter Try.func78, Try.ntmps78
        go_wp2_with fail
        go_quiet (fail)
        go_wp2_with fail
        go_ret2
        exact ⟨by simp, below_drewN (by repeat' (first | (with_reducible exact Below.refl _ _) | (with_reducible assumption) | (with_reducible refine Below.alloc ?_ ?_ _) | (with_reducible refine Below.drew ?_) | (with_reducible refine Below.setCell ?_ ?_ _) | (with_reducible refine Below.on (by with_reducible assumption) ?_ ?_) | go_size)) _⟩
    · obtain ⟨r, hr⟩ : ∃ r, (k - s.b) % s.i = r := ⟨_, rfl⟩
      have e1 := Int.emod_nonneg (k - s.b) (by omega : s.i ≠ 0)
      have e2 := Int.emod_lt_of_pos (k - s.b) (by omega : 0 < s.i)
      have e3 := Int.emod_add_mul_ediv (k - s.b) s.i
      have e4 := Int.mul_nonneg (by omega : 0 ≤ s.i) (Int.ediv_nonneg (by omega : 0 ≤ k - s.b) (by omega : 0 ≤ s.i))
      rw [hr] at e1 e2 e3
      have e5 : r ≤ k - s.b := by omega
      clear e3 e4
      have f2 : IntKind.i64.wrap (k - r) = k - r := IntWalk.i64_in _ (by omega)
      have E := down_at hk (by omega : max (k - s.b) 0 = k - s.b) hr
      rw [E]
      rcases hc with ⟨hc, hk'⟩ | ⟨hc, hk'⟩ <;> clear hk E <;> subst hk'
      all_goals
        go_enter Try.func78, Try.ntmps78
        go_wp2_with fail
        go_quiet (fail)
        go_wp2_with fail
        go_ret2
        exact ⟨by simp, below_drewN (by repeat' (first | (with_reducible exact Below.refl _ _) | (with_reducible assumption) | (with_reducible refine Below.alloc ?_ ?_ _) | (with_reducible refine Below.drew ?_) | (with_reducible refine Below.setCell ?_ ?_ _) | (with_reducible refine Below.on (by with_reducible assumption) ?_ ?_) | go_size)) _⟩
  by_cases hn : n ≤ s.m
  · exact main n (by omega) (.inl ⟨hn, rfl⟩)
  · exact main s.m (by omega) (.inr ⟨by omega, rfl⟩)
end Sz
end Go.Proofs.Ytdmoncpeoaoppaa
