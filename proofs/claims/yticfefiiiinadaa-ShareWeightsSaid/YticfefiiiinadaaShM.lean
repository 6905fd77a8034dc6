import Derived.Test.YticfefiiiinadaaShL
namespace Go.Proofs.Yticfefiiiinadaa
open Go.RowKit Go.Lib Go.Sort Ieee

set_option maxHeartbeats 4000000 in
theorem weights_w (x : Nat) (n : Int) (w : World) : Calls Try.prog 3 #[.float .f64 x, .int .i64 n] w fun e w' => e = .returned (.bool true) ∧ RowKit.Below w.heap.size w w' := by
  have h1 := weight_c x
  have h2 := rweight_c x
  have h3 := ratio_c n
  have h4 := rratio_c n
  have he : (FloatKind.f64.format.order (rt n) (rt n) == some .eq) = true := by
    have := order_self (rt n)
    rw [(rt_grid n).notNaN] at this
    have hf : FloatKind.f64.format = double := rfl
    rw [hf]
    simpa using this
  generalize wt x = a at h1 h2
  generalize rt n = b at h3 h4 he
  go_enter Try.func3, Try.ntmps3
  go_wp2_with (first
    | (go_at_call 8; with_reducible refine (h1 _).mono ?_; rintro e w1 ⟨rfl, rfl⟩)
    | (go_at_call 9; with_reducible refine (h2 _).mono ?_; rintro e w1 ⟨rfl, rfl⟩)
    | (go_at_call 10; with_reducible refine (h3 _).mono ?_; rintro e w1 ⟨rfl, rfl⟩)
    | (go_at_call 11; with_reducible refine (h4 _).mono ?_; rintro e w1 ⟨rfl, rfl⟩)
    | (go_at_call 12; with_reducible refine (awake_c _).mono ?_; rintro e w2 ⟨rfl, hb⟩))
  go_ret
  exact ⟨rfl, hb⟩

set_option maxHeartbeats 4000000 in
theorem back_w (n : Int) (x y : Nat) (w : World) : Calls Try.prog 6 #[.int .i64 n, .float .f64 x, .float .f64 y] w fun e w' => e = .returned (.bool true) ∧ RowKit.Below w.heap.size w w' := by
  have h1 := ratio_c n
  have h2 : ∀ w, Calls Try.prog 8 #[.float .f64 (rt n)] w fun e w' => e = .returned (.int .i64 (clipW n)) ∧ w = w' := by
    intro w; have := weight_c (rt n) w; rwa [wt_rt] at this
  have h3 := weight_c x
  have h4 := weight_c y
  have b1 := wt_bounds x
  have b2 := wt_bounds y
  have hid : 1 ≤ n → n ≤ 1048576 → clipW n = n := clipW_id
  have hmono : (double.order x y == some .lt || double.order x y == some .eq) = true → wt x ≤ wt y := wt_mono
  obtain ⟨oo, hord, hm⟩ : ∃ oo, FloatKind.f64.format.order x y = oo ∧ ((oo == some .lt || oo == some .eq) = true → wt x ≤ wt y) := ⟨_, rfl, hmono⟩
  clear hmono
  generalize wt x = a at h3 b1 hm
  generalize wt y = c at h4 b2 hm
  generalize clipW n = m at h2 hid
  generalize rt n = r at h1 h2
  have key : ∀ oo : Option Ordering, FloatKind.f64.format.order x y = oo → ((oo == some .lt || oo == some .eq) = true → a ≤ c) → (1 ≤ n → n ≤ 1048576 → m = n) →
      Calls Try.prog 6 #[.int .i64 n, .float .f64 x, .float .f64 y] w fun e w' => e = .returned (.bool true) ∧ RowKit.Below w.heap.size w w' := by
    clear hord hm hid oo
    intro oo hord hm hid
    by_cases g1 : 1 ≤ n
    · by_cases g2 : n ≤ 1048576
      · have hmn := hid g1 g2
        subst hmn
        clear hid
        rcases oo with _ | _ | _ | _
        · clear hm
          go_enter Try.func6, Try.ntmps6
          go_wp2_with (first
            | (go_at_call 10; with_reducible refine (h1 _).mono ?_; rintro e w1 ⟨rfl, rfl⟩)
            | (go_at_call 8; with_reducible refine (h2 _).mono ?_; rintro e w1 ⟨rfl, rfl⟩)
            | (go_at_call 8; with_reducible refine (h3 _).mono ?_; rintro e w1 ⟨rfl, rfl⟩)
            | (go_at_call 8; with_reducible refine (h4 _).mono ?_; rintro e w1 ⟨rfl, rfl⟩)
            | (go_at_call 12; with_reducible refine (awake_c _).mono ?_; rintro e w2 ⟨rfl, hb⟩))
          go_ret
          exact ⟨rfl, hb⟩
        · have hm := hm rfl
          go_enter Try.func6, Try.ntmps6
          go_wp2_with (first
            | (go_at_call 10; with_reducible refine (h1 _).mono ?_; rintro e w1 ⟨rfl, rfl⟩)
            | (go_at_call 8; with_reducible refine (h2 _).mono ?_; rintro e w1 ⟨rfl, rfl⟩)
            | (go_at_call 8; with_reducible refine (h3 _).mono ?_; rintro e w1 ⟨rfl, rfl⟩)
            | (go_at_call 8; with_reducible refine (h4 _).mono ?_; rintro e w1 ⟨rfl, rfl⟩)
            | (go_at_call 12; with_reducible refine (awake_c _).mono ?_; rintro e w2 ⟨rfl, hb⟩))
          go_ret
          exact ⟨rfl, hb⟩
        · have hm := hm rfl
          go_enter Try.func6, Try.ntmps6
          go_wp2_with (first
            | (go_at_call 10; with_reducible refine (h1 _).mono ?_; rintro e w1 ⟨rfl, rfl⟩)
            | (go_at_call 8; with_reducible refine (h2 _).mono ?_; rintro e w1 ⟨rfl, rfl⟩)
            | (go_at_call 8; with_reducible refine (h3 _).mono ?_; rintro e w1 ⟨rfl, rfl⟩)
            | (go_at_call 8; with_reducible refine (h4 _).mono ?_; rintro e w1 ⟨rfl, rfl⟩)
            | (go_at_call 12; with_reducible refine (awake_c _).mono ?_; rintro e w2 ⟨rfl, hb⟩))
          go_ret
          exact ⟨rfl, hb⟩
        · clear hm
          go_enter Try.func6, Try.ntmps6
          go_wp2_with (first
            | (go_at_call 10; with_reducible refine (h1 _).mono ?_; rintro e w1 ⟨rfl, rfl⟩)
            | (go_at_call 8; with_reducible refine (h2 _).mono ?_; rintro e w1 ⟨rfl, rfl⟩)
            | (go_at_call 8; with_reducible refine (h3 _).mono ?_; rintro e w1 ⟨rfl, rfl⟩)
            | (go_at_call 8; with_reducible refine (h4 _).mono ?_; rintro e w1 ⟨rfl, rfl⟩)
            | (go_at_call 12; with_reducible refine (awake_c _).mono ?_; rintro e w2 ⟨rfl, hb⟩))
          go_ret
          exact ⟨rfl, hb⟩
      · clear hid h1 h2
        have h1 := ratio_c n
        have h2 := h3
        rcases oo with _ | _ | _ | _
        · clear hm
          go_enter Try.func6, Try.ntmps6
          go_wp2_with (first
            | (go_at_call 10; with_reducible refine (h1 _).mono ?_; rintro e w1 ⟨rfl, rfl⟩)
            | (go_at_call 8; with_reducible refine (h2 _).mono ?_; rintro e w1 ⟨rfl, rfl⟩)
            | (go_at_call 8; with_reducible refine (h3 _).mono ?_; rintro e w1 ⟨rfl, rfl⟩)
            | (go_at_call 8; with_reducible refine (h4 _).mono ?_; rintro e w1 ⟨rfl, rfl⟩)
            | (go_at_call 12; with_reducible refine (awake_c _).mono ?_; rintro e w2 ⟨rfl, hb⟩))
          go_ret
          exact ⟨rfl, hb⟩
        · have hm := hm rfl
          go_enter Try.func6, Try.ntmps6
          go_wp2_with (first
            | (go_at_call 10; with_reducible refine (h1 _).mono ?_; rintro e w1 ⟨rfl, rfl⟩)
            | (go_at_call 8; with_reducible refine (h2 _).mono ?_; rintro e w1 ⟨rfl, rfl⟩)
            | (go_at_call 8; with_reducible refine (h3 _).mono ?_; rintro e w1 ⟨rfl, rfl⟩)
            | (go_at_call 8; with_reducible refine (h4 _).mono ?_; rintro e w1 ⟨rfl, rfl⟩)
            | (go_at_call 12; with_reducible refine (awake_c _).mono ?_; rintro e w2 ⟨rfl, hb⟩))
          go_ret
          exact ⟨rfl, hb⟩
        · have hm := hm rfl
          go_enter Try.func6, Try.ntmps6
          go_wp2_with (first
            | (go_at_call 10; with_reducible refine (h1 _).mono ?_; rintro e w1 ⟨rfl, rfl⟩)
            | (go_at_call 8; with_reducible refine (h2 _).mono ?_; rintro e w1 ⟨rfl, rfl⟩)
            | (go_at_call 8; with_reducible refine (h3 _).mono ?_; rintro e w1 ⟨rfl, rfl⟩)
            | (go_at_call 8; with_reducible refine (h4 _).mono ?_; rintro e w1 ⟨rfl, rfl⟩)
            | (go_at_call 12; with_reducible refine (awake_c _).mono ?_; rintro e w2 ⟨rfl, hb⟩))
          go_ret
          exact ⟨rfl, hb⟩
        · clear hm
          go_enter Try.func6, Try.ntmps6
          go_wp2_with (first
            | (go_at_call 10; with_reducible refine (h1 _).mono ?_; rintro e w1 ⟨rfl, rfl⟩)
            | (go_at_call 8; with_reducible refine (h2 _).mono ?_; rintro e w1 ⟨rfl, rfl⟩)
            | (go_at_call 8; with_reducible refine (h3 _).mono ?_; rintro e w1 ⟨rfl, rfl⟩)
            | (go_at_call 8; with_reducible refine (h4 _).mono ?_; rintro e w1 ⟨rfl, rfl⟩)
            | (go_at_call 12; with_reducible refine (awake_c _).mono ?_; rintro e w2 ⟨rfl, hb⟩))
          go_ret
          exact ⟨rfl, hb⟩
    · clear hid h1 h2
      have h1 := ratio_c n
      have h2 := h3
      rcases oo with _ | _ | _ | _
      · clear hm
        go_enter Try.func6, Try.ntmps6
        go_wp2_with (first
          | (go_at_call 10; with_reducible refine (h1 _).mono ?_; rintro e w1 ⟨rfl, rfl⟩)
          | (go_at_call 8; with_reducible refine (h2 _).mono ?_; rintro e w1 ⟨rfl, rfl⟩)
          | (go_at_call 8; with_reducible refine (h3 _).mono ?_; rintro e w1 ⟨rfl, rfl⟩)
          | (go_at_call 8; with_reducible refine (h4 _).mono ?_; rintro e w1 ⟨rfl, rfl⟩)
          | (go_at_call 12; with_reducible refine (awake_c _).mono ?_; rintro e w2 ⟨rfl, hb⟩))
        go_ret
        exact ⟨rfl, hb⟩
      · have hm := hm rfl
        go_enter Try.func6, Try.ntmps6
        go_wp2_with (first
          | (go_at_call 10; with_reducible refine (h1 _).mono ?_; rintro e w1 ⟨rfl, rfl⟩)
          | (go_at_call 8; with_reducible refine (h2 _).mono ?_; rintro e w1 ⟨rfl, rfl⟩)
          | (go_at_call 8; with_reducible refine (h3 _).mono ?_; rintro e w1 ⟨rfl, rfl⟩)
          | (go_at_call 8; with_reducible refine (h4 _).mono ?_; rintro e w1 ⟨rfl, rfl⟩)
          | (go_at_call 12; with_reducible refine (awake_c _).mono ?_; rintro e w2 ⟨rfl, hb⟩))
        go_ret
        exact ⟨rfl, hb⟩
      · have hm := hm rfl
        go_enter Try.func6, Try.ntmps6
        go_wp2_with (first
          | (go_at_call 10; with_reducible refine (h1 _).mono ?_; rintro e w1 ⟨rfl, rfl⟩)
          | (go_at_call 8; with_reducible refine (h2 _).mono ?_; rintro e w1 ⟨rfl, rfl⟩)
          | (go_at_call 8; with_reducible refine (h3 _).mono ?_; rintro e w1 ⟨rfl, rfl⟩)
          | (go_at_call 8; with_reducible refine (h4 _).mono ?_; rintro e w1 ⟨rfl, rfl⟩)
          | (go_at_call 12; with_reducible refine (awake_c _).mono ?_; rintro e w2 ⟨rfl, hb⟩))
        go_ret
        exact ⟨rfl, hb⟩
      · clear hm
        go_enter Try.func6, Try.ntmps6
        go_wp2_with (first
          | (go_at_call 10; with_reducible refine (h1 _).mono ?_; rintro e w1 ⟨rfl, rfl⟩)
          | (go_at_call 8; with_reducible refine (h2 _).mono ?_; rintro e w1 ⟨rfl, rfl⟩)
          | (go_at_call 8; with_reducible refine (h3 _).mono ?_; rintro e w1 ⟨rfl, rfl⟩)
          | (go_at_call 8; with_reducible refine (h4 _).mono ?_; rintro e w1 ⟨rfl, rfl⟩)
          | (go_at_call 12; with_reducible refine (awake_c _).mono ?_; rintro e w2 ⟨rfl, hb⟩))
        go_ret
        exact ⟨rfl, hb⟩
  exact key oo hord hm hid
end Go.Proofs.Yticfefiiiinadaa
