import Derived.Test.YticfefiiiinadaaShN
namespace Go.Proofs.Yticfefiiiinadaa
open Go.RowKit Go.Lib Go.Sort Ieee

theorem IsInts.below {w w' : World} {v : Value} {zs : List Int} (h : IsInts w v zs) (hb : RowKit.Below w.heap.size w w') : IsInts w' v zs := by
  rcases h with h | ⟨b, off, c, h1, h2, h3, h4, h5⟩
  · exact .inl h
  · exact .inr ⟨b, off, c, h1, Nat.lt_of_lt_of_le h2 hb.size, h3, h4, SI.below h5 hb h2⟩
theorem check_v (v : Value) (zs : List Int) (w : World) (h : IsInts w v zs) : Calls Try.prog 16 #[v] w fun e w' => e = .returned (.int .i64 (chk zs)) ∧ RowKit.Below w.heap.size w w' := by
  rcases h with ⟨rfl, a, c, rfl⟩ | ⟨b, off, c, rfl, _, h3, _, h5⟩
  · exact (check_nil a c w).mono fun e w' ⟨h, hw⟩ => ⟨h, hw ▸ Below.refl _ _⟩
  · exact check_c b off c zs w h3 h5
theorem rcheck_v (v : Value) (zs : List Int) (w : World) (h : IsInts w v zs) : Calls Try.prog 17 #[v] w fun e w' => e = .returned (.int .i64 (chk zs)) ∧ w = w' := by
  rcases h with ⟨rfl, a, c, rfl⟩ | ⟨b, off, c, rfl, _, h3, _, h5⟩
  · exact rcheck_nil a c w
  · exact rcheck_c b off c zs w h3 h5

theorem OI.ints {w : World} {base : Nat} {v : Value} {l : List Int} (h : OI w base v l) : IsInts w v l := by
  by_cases hl : l = []
  · subst hl
    obtain ⟨a, c, rfl⟩ := h.nilForm
    exact .inl ⟨rfl, a, c, rfl⟩
  · obtain ⟨g, c, rfl, _, h2, h3, _⟩ := h.form hl
    have := h.room
    exact .inr ⟨g, 0, c, rfl, h2, by have h4 := this.2; unfold maxLen at h4; omega, hl, h3⟩
theorem ints_v (v1 v2 : Value) (l1 l2 : List Int) (w : World) (h1 : IsInts w v1 l1) (h2 : IsInts w v2 l2) (hn : l1.length ≤ 64) : Calls Try.prog 15 #[v1, v2] w fun e w' => e = .returned (.bool (decide (l1 = l2))) ∧ RowKit.Below w.heap.size w w' := by
  rcases h1 with ⟨rfl, a, c, rfl⟩ | ⟨b, off, c, rfl, _, _, hne, h5⟩
  · rcases h2 with ⟨rfl, a', c', rfl⟩ | ⟨b', off', c', rfl, _, _, hne, h5⟩
    · exact (ints_none a a' c c' w).mono fun e w' ⟨h, hw⟩ => ⟨by rw [h]; rfl, hw ▸ Below.refl _ _⟩
    · have : (0 : Nat) ≠ l2.length := fun h => hne (List.eq_nil_of_length_eq_zero h.symm)
      exact (ints_lens _ _ _ _ _ _ w this).mono fun e w' ⟨h, hw⟩ => ⟨by rw [h, decide_eq_false (fun h => hne h.symm)], hw ▸ Below.refl _ _⟩
  · rcases h2 with ⟨rfl, a', c', rfl⟩ | ⟨b', off', c', rfl, _, _, hne', h5'⟩
    · have : l1.length ≠ 0 := fun h => hne (List.eq_nil_of_length_eq_zero h)
      exact (ints_lens _ _ _ _ _ _ w this).mono fun e w' ⟨h, hw⟩ => ⟨by rw [h, decide_eq_false hne], hw ▸ Below.refl _ _⟩
    · exact ints_c b off c b' off' c' l1 l2 w hn h5 h5'

theorem growR_length (zs : List Int) (k : Int) (y : Nat) : (growR zs k y).length ≤ 64 := by
  unfold growR
  split
  · rename_i h
    have h1 := (chk_zero (growE_ok h).1).2.1
    rw [growL_length]; exact h1
  · simp

set_option maxHeartbeats 4000000 in
theorem grows_w (v : Value) (zs : List Int) (k : Int) (y : Nat) (w : World) (hv : IsInts w v zs) : Calls Try.prog 4 #[v, .int .i64 k, .float .f64 y] w fun e w' => e = .returned (.bool true) ∧ RowKit.Below w.heap.size w w' := by
  have hV := Lib.hid hv
  have hL := Lib.hid (growR_length zs k y)
  have hg := grow_c v zs k y w hv
  have hr : ∀ w1, RowKit.Below w.heap.size w w1 → Calls Try.prog 14 #[v, .int .i64 k, .float .f64 y] w1 fun e w' => ∃ v', e = .returned (.tuple #[v', .int .i64 (growE zs k)]) ∧ One1 w1.heap.size w1 w' v' (growR zs k y) := fun w1 hb => rgrow_c v zs k y w1 (hv.below hb)
  have hc : ∀ w1, RowKit.Below w.heap.size w w1 → Calls Try.prog 16 #[v] w1 fun e w' => e = .returned (.int .i64 (chk zs)) ∧ RowKit.Below w1.heap.size w1 w' := fun w1 hb => check_v v zs w1 (hv.below hb)
  have hrc : ∀ w1, RowKit.Below w.heap.size w w1 → Calls Try.prog 17 #[v] w1 fun e w' => e = .returned (.int .i64 (chk zs)) ∧ w1 = w' := fun w1 hb => rcheck_v v zs w1 (hv.below hb)
  have hi : ∀ (v1 v2 : Value) (w1 w2 : World), One1 w.heap.size w w1 v1 (growR zs k y) → One1 w1.heap.size w1 w2 v2 (growR zs k y) → Calls Try.prog 15 #[v1, v2] w2 fun e w' => e = .returned (.bool true) ∧ RowKit.Below w2.heap.size w2 w' := by
    intro v1 v2 w1 w2 h1 h2
    have := ints_v v1 v2 _ _ w2 (h1.2.ints.below h2.1) h2.2.ints (growR_length zs k y)
    rwa [decide_eq_true rfl] at this
  generalize growE zs k = E at hg hr
  generalize growR zs k y = R at hg hr hi
  generalize chk zs = C at hc hrc
  clear hv hL
  go_enter Try.func4, Try.ntmps4
  go_wp2_with (first
    | (go_at_call 13; refine hg.mono ?_; rintro e w1 ⟨v1, rfl, hO1⟩; have hb1 := hO1.1)
    | (go_at_call 14; refine (hr _ hb1).mono ?_; rintro e w2 ⟨v2, rfl, hO2⟩; have hb2 := hb1.trans (hO2.1.mono hb1.size))
    | (go_at_call 15; refine (hi _ _ _ _ hO1 hO2).mono ?_; rintro e w3 ⟨rfl, hB3⟩; have hb3 := hb2.trans (hB3.mono hb2.size))
    | (go_at_call 16; refine (hc _ hb3).mono ?_; rintro e w4 ⟨rfl, hB4⟩; have hb4 := hb3.trans (hB4.mono hb3.size))
    | (go_at_call 17; refine (hrc _ hb4).mono ?_; rintro e w5 ⟨rfl, rfl⟩)
    | (go_at_call 12; refine (awake_c _).mono ?_; rintro e w6 ⟨rfl, hB6⟩; have hb6 := hb4.trans (hB6.mono hb4.size)))
  go_ret
  exact ⟨rfl, hb6⟩
end Go.Proofs.Yticfefiiiinadaa
