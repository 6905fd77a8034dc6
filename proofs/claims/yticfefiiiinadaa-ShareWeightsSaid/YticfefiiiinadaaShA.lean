import Derived.Test.YticfefiiiinadaaProg
import Derived.Test.YticfefiiiinadaaShF
import Derived.WalkKit
import Derived.WalkSpells
import Derived.WalkLawsBesides
import Derived.LoopTactic
import Derived.ProofKit
import Derived.Lib.Hide
import Derived.Outline
import Derived.Handy
import Derived.KernelRfl
namespace Go.Proofs.Yticfefiiiinadaa
open Go.RowKit Ieee

theorem isnan_c (x : Nat) (w : World) :
    Calls Try.prog 20 #[.float .f64 x] w fun e w' => e = .returned (.bool (double.read x).isNaN) ∧ w = w' := by
  rw [← order_self]
  go_enter Try.func20, Try.ntmps20
  go_wp2
  all_goals (go_ret; exact ⟨rfl, rfl⟩)

theorem min_run {P : Program} (ats : Array TypeId) (ty : TypeId) (x y r : Nat) (w : World) (h : fmin2 x y = some r) : (Builtin.min_ ats ty #[.float .f64 x, .float .f64 y]).run P w = .ok (.float .f64 r) w := by
  have hd : FloatKind.f64.decode x = double.read x := rfl
  have hf : FloatKind.f64.format = double := rfl
  unfold fmin2 at h
  simp only [Builtin.min_, List.foldlM, Builtin.min2, hd, hf]
  cases ho : double.order x y with
  | none => rw [ho] at h; cases h
  | some o => rw [ho] at h; cases o <;> simp only at h <;> cases h <;> rfl
theorem max_run {P : Program} (ats : Array TypeId) (ty : TypeId) (x y r : Nat) (w : World) (h : fmax2 x y = some r) : (Builtin.max_ ats ty #[.float .f64 x, .float .f64 y]).run P w = .ok (.float .f64 r) w := by
  have hd : FloatKind.f64.decode x = double.read x := rfl
  have hf : FloatKind.f64.format = double := rfl
  unfold fmax2 at h
  simp only [Builtin.max_, List.foldlM, Builtin.max2, hd, hf]
  cases ho : double.order x y with
  | none => rw [ho] at h; cases h
  | some o => rw [ho] at h; cases o <;> simp only at h <;> cases h <;> rfl

theorem weight_c (x : Nat) (w : World) :
    Calls Try.prog 8 #[.float .f64 x] w fun e w' => e = .returned (.int .i64 (wt x)) ∧ w = w' := by
  cases hn : (double.read x).isNaN
  · obtain ⟨r, t, u, h1, h2, h3, h4⟩ := weight_fl x hn
    have hmul : ∀ w, (binOp .mul 22 (.float .f64 x) (.float .f64 4679240012837945344)).run Try.prog w = .ok (.float .f64 r) w := fun w => run_float_arith w .mul _ .f64 x _ r h1
    have hmin : ∀ ats ty w, (Builtin.min_ ats ty #[.float .f64 r, .float .f64 4697254411347427328]).run Try.prog w = .ok (.float .f64 t) w := fun ats ty w => min_run ats ty r _ t w h2
    have hmax : ∀ ats ty w, (Builtin.max_ ats ty #[.float .f64 t, .float .f64 4607182418800017408]).run Try.prog w = .ok (.float .f64 u) w := fun ats ty w => max_run ats ty t _ u w h3
    have hint : ∀ w, (convert 22 3 (.float .f64 u)).run Try.prog w = .ok (.int .i64 (wt x)) w := fun w => run_convert_float_int w _ _ .f64 .i64 u _ (by rw [Try.underlying22]; rfl) Try.underlying3 h4
    go_enter Try.func8, Try.ntmps8
    go_wp2_with (go_at_call 20; refine (isnan_c _ _).mono ?_; rintro e w1 ⟨rfl, rfl⟩; rw [hn])
    all_goals (go_ret; exact ⟨rfl, rfl⟩)
  · rw [wt_nan hn]
    go_enter Try.func8, Try.ntmps8
    go_wp2_with (go_at_call 20; refine (isnan_c _ _).mono ?_; rintro e w1 ⟨rfl, rfl⟩; rw [hn])
    all_goals (go_ret; exact ⟨rfl, rfl⟩)

/-- The number of a weight. -/
def clipW (n : Int) : Int := max 1 (min 1048576 n)
theorem clipW_bounds (n : Int) : 1 ≤ clipW n ∧ clipW n ≤ 1048576 := by unfold clipW; omega
theorem clipW_id {n : Int} (h : 1 ≤ n) (h' : n ≤ 1048576) : clipW n = n := by unfold clipW; omega
def rt (n : Int) : Nat := (double.div (floatOfInt .f64 (clipW n)) cONE).getD 0
theorem rt_div (n : Int) : double.div (floatOfInt .f64 (clipW n)) cONE = some (rt n) := by
  have := clipW_bounds n
  obtain ⟨r, h, _⟩ := quot_fl (clipW n) (by omega)
  unfold rt; rw [h]; rfl
theorem rt_grid (n : Int) : GV (rt n) (clipW n) := by
  have := clipW_bounds n
  obtain ⟨r, h, g⟩ := quot_fl (clipW n) (by omega)
  unfold rt; rw [h]; exact g
theorem wt_rt (n : Int) : wt (rt n) = clipW n := by
  rw [(rt_grid n).weight]
  have := clipW_bounds n
  omega

theorem ratio_c (n : Int) (w : World) :
    Calls Try.prog 10 #[.int .i64 n] w fun e w' => e = .returned (.float .f64 (rt n)) ∧ w = w' := by
  have h1 : (double.div (floatOfInt .f64 (clipW n)) cONE) = some (rt n) := rt_div n
  have hdiv : ∀ w, (binOp .quo 22 (.float .f64 (floatOfInt .f64 (clipW n))) (.float .f64 4679240012837945344)).run Try.prog w = .ok (.float .f64 (rt n)) w := fun w => run_float_arith w .quo _ .f64 _ _ _ h1
  have hmm : ∀ ats ty w, (Builtin.min_ ats ty #[.int .i64 n, .int .i64 1048576]).run Try.prog w = .ok (.int .i64 (min 1048576 n)) w := by
    intro ats ty w
    have : min 1048576 n = if 1048576 < n then 1048576 else n := by omega
    rw [this]; rfl
  have hmx : ∀ ats ty w, (Builtin.max_ ats ty #[.int .i64 (min 1048576 n), .int .i64 1]).run Try.prog w = .ok (.int .i64 (clipW n)) w := by
    intro ats ty w
    have : clipW n = if 1 > min 1048576 n then 1 else min 1048576 n := by unfold clipW; omega
    rw [this]; rfl
  go_enter Try.func10, Try.ntmps10
  go_wp2
  all_goals (go_ret; exact ⟨rfl, rfl⟩)

theorem rratio_c (n : Int) (w : World) :
    Calls Try.prog 11 #[.int .i64 n] w fun e w' => e = .returned (.float .f64 (rt n)) ∧ w = w' := by
  have hdiv : ∀ w, (binOp .quo 22 (.float .f64 (floatOfInt .f64 (clipW n))) (.float .f64 4679240012837945344)).run Try.prog w = .ok (.float .f64 (rt n)) w := fun w => run_float_arith w .quo _ .f64 _ _ _ (rt_div n)
  by_cases h1 : n < 1
  · have e : clipW n = 1 := by unfold clipW; omega
    rw [e] at hdiv
    go_enter Try.func11, Try.ntmps11
    go_wp2
    all_goals (go_ret; exact ⟨rfl, rfl⟩)
  · by_cases h2 : n > 1048576
    · have e : clipW n = 1048576 := by unfold clipW; omega
      rw [e] at hdiv
      go_enter Try.func11, Try.ntmps11
      go_wp2
      all_goals (go_ret; exact ⟨rfl, rfl⟩)
    · have e : clipW n = n := by unfold clipW; omega
      rw [e] at hdiv
      go_enter Try.func11, Try.ntmps11
      go_wp2
      all_goals (go_ret; exact ⟨rfl, rfl⟩)

theorem rweight_c (x : Nat) (w : World) :
    Calls Try.prog 9 #[.float .f64 x] w fun e w' => e = .returned (.int .i64 (wt x)) ∧ w = w' := by
  have hnan : (FloatKind.f64.format.order x x != some .eq) = (double.read x).isNaN := order_self x
  cases hn : (double.read x).isNaN
  case true =>
    rw [hn] at hnan
    rw [wt_nan hn]
    go_enter Try.func9, Try.ntmps9
    go_wp2
    all_goals (go_ret; exact ⟨rfl, rfl⟩)
  case false =>
  rw [hn] at hnan
  cases hg : (double.order x cSIXT == some .gt || double.order x cSIXT == some .eq)
  case true =>
    have hg' : (FloatKind.f64.format.order x 4625196817309499392 == some .gt || FloatKind.f64.format.order x 4625196817309499392 == some .eq) = true := hg
    rw [wt_ge16 hg]
    go_enter Try.func9, Try.ntmps9
    go_wp2
    all_goals (go_ret; exact ⟨rfl, rfl⟩)
  case false =>
  have hg' : (FloatKind.f64.format.order x 4625196817309499392 == some .gt || FloatKind.f64.format.order x 4625196817309499392 == some .eq) = false := hg
  cases hl : (double.order x 0 == some .lt || double.order x 0 == some .eq)
  case true =>
    have hl' : (FloatKind.f64.format.order x 0 == some .lt || FloatKind.f64.format.order x 0 == some .eq) = true := hl
    rw [wt_le0 hl]
    go_enter Try.func9, Try.ntmps9
    go_wp2
    all_goals (go_ret; exact ⟨rfl, rfl⟩)
  case false =>
  have hl' : (FloatKind.f64.format.order x 0 == some .lt || FloatKind.f64.format.order x 0 == some .eq) = false := hl
  obtain ⟨K, L, hx, hL, hv0, hv1⟩ := between hn hg hl
  have hw : wt x = max 1 (min 1048576 ((vn K L * 65536 / TT : Nat) : Int)) := by unfold wt; rw [hx]; rfl
  rw [hw]
  generalize hV : vn K L * 65536 = V at hw ⊢
  have hV1 : V < 1048576 * TT := by omega
  have hT := TT_pos
  clear hg hl hn hw
  generalize hR : max 1 (min 1048576 ((V / TT : Nat) : Int)) = R
  have hRR := Lib.hid hR
  clear hR
  -- one step of the search
  have hquo : ∀ mid : Nat, mid ≤ 1048576 → ∃ q, (∀ w, (binOp .quo 22 (.float .f64 (floatOfInt .f64 (mid : Int))) (.float .f64 4679240012837945344)).run Try.prog w = .ok (.float .f64 q) w) ∧ (FloatKind.f64.format.order q x == some .lt || FloatKind.f64.format.order q x == some .eq) = decide (mid * TT ≤ V) := by
    intro mid hm
    obtain ⟨q, h1, h2⟩ := quot_fl (mid : Int) (by omega)
    refine ⟨q, fun w => run_float_arith w .quo _ .f64 _ _ _ h1, ?_⟩
    have := le_grid h2 hx hL
    rw [hV] at this
    exact this
  go_enter Try.func9, Try.ntmps9
  go_wp2
  go_loop [3, 4] (fun l h => ∃ (low high : Nat), l = .int .i64 low ∧ h = .int .i64 high ∧ low < high ∧ high ≤ 1048576 ∧ low * TT ≤ V ∧ V < high * TT) (fun l h => (intOf h - intOf l).toNat)
  case atStart => exact ⟨0, 1048576, rfl, rfl, by omega, by omega, by omega, hV1⟩
  case round =>
    obtain ⟨low, high, rfl, rfl, hlh, hh, hlo, hhi⟩ := hrel
    by_cases hlt : low + 1 < high
    · have hlt' : (low : Int) + 1 < (high : Int) := by omega
      obtain ⟨q, hq, hc⟩ := hquo ((low + high) / 2) (by omega)
      rw [show (((low + high) / 2 : Nat) : Int) = ((low : Int) + (high : Int)) / 2 by omega] at hq
      by_cases hle : (low + high) / 2 * TT ≤ V
      · rw [decide_eq_true hle] at hc
        go_wp2
        go_round
        case rel => exact ⟨(low + high) / 2, high, by congr 1, rfl, by omega, hh, hle, hhi⟩
        case measure => simp [intOf]; omega
      · rw [decide_eq_false hle] at hc
        go_wp2
        go_round
        case rel => exact ⟨low, (low + high) / 2, rfl, by congr 1, by omega, by omega, hlo, by omega⟩
        case measure => simp [intOf]; omega
    · have hlt' : ¬ (low : Int) + 1 < (high : Int) := by omega
      have hlow : V / TT = low := by
        have : high = low + 1 := by omega
        subst this
        exact Nat.div_eq_of_lt_le hlo hhi
      have hR := hRR.out
      rw [hlow] at hR
      clear hlow
      by_cases h1 : low < 1
      · have h1' : (low : Int) < 1 := by omega
        go_wp2
        go_ret
        exact ⟨by rw [show R = 1 by omega]; rfl, rfl⟩
      · have h1' : ¬ (low : Int) < 1 := by omega
        go_wp2
        go_ret
        exact ⟨by rw [show R = (low : Int) by omega]; rfl, rfl⟩
end Go.Proofs.Yticfefiiiinadaa
