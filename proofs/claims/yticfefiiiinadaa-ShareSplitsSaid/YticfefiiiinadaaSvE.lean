/- ShareSplits, walked. -/
import Derived.Test.YticfefiiiinadaaSvD
namespace Go.Proofs.Yticfefiiiinadaa
open Go.RowKit Go.Lib Go.Sort

theorem rsplit_c (v : Value) (zs : List Int) (total : Int) (w : World) (hv : IsInts w v zs) :
    Calls Try.prog 19 #[.int .i64 total, v] w fun e w' => ∃ v', e = .returned (.tuple #[v', .int .i64 (splitE total zs)]) ∧ One1 w.heap.size w w' v' (splitR total zs) := by
  rcases hv with ⟨rfl, a, c, rfl⟩ | ⟨b, off, c, rfl, hb, hlen, hne, hc⟩
  · refine (rsplit_nil a c total w).mono ?_
    rintro e w' ⟨rfl, rfl⟩
    exact ⟨_, rfl, Below.refl _ _, OI.nil _ _⟩
  · by_cases hE : splitE total zs = 0
    · obtain ⟨h1, h2, h3⟩ := splitE_ok hE
      refine (rsplit_ok total b off c zs w h1 h2 h3 hb hc).mono ?_
      rintro e w' ⟨v', rfl, hO⟩
      exact ⟨v', by rw [hE], by unfold splitR; rw [if_pos hE]; exact hO⟩
    · refine (rsplit_err b off c zs total w hlen hE hc).mono ?_
      rintro e w' ⟨rfl, rfl⟩
      exact ⟨_, rfl, Below.refl _ _, by unfold splitR; rw [if_neg hE]; exact OI.nil _ _⟩
theorem splitR_length (total : Int) (zs : List Int) : (splitR total zs).length ≤ 64 := by
  unfold splitR
  split
  · rename_i h
    have h1 := (chk_zero (splitE_ok h).1).2.1
    rw [splitL_length]; exact h1
  · simp

set_option maxHeartbeats 4000000 in
theorem splits_w (total : Int) (v : Value) (zs : List Int) (w : World) (hv : IsInts w v zs) : Calls Try.prog 5 #[.int .i64 total, v] w fun e w' => e = .returned (.bool true) ∧ RowKit.Below w.heap.size w w' := by
  have hg := split_c v zs total w hv
  have hr : ∀ w1, RowKit.Below w.heap.size w w1 → Calls Try.prog 19 #[.int .i64 total, v] w1 fun e w' => ∃ v', e = .returned (.tuple #[v', .int .i64 (splitE total zs)]) ∧ One1 w1.heap.size w1 w' v' (splitR total zs) := fun w1 hb => rsplit_c v zs total w1 (hv.below hb)
  have hi : ∀ (v1 v2 : Value) (w1 w2 : World), One1 w.heap.size w w1 v1 (splitR total zs) → One1 w1.heap.size w1 w2 v2 (splitR total zs) → Calls Try.prog 15 #[v1, v2] w2 fun e w' => e = .returned (.bool true) ∧ RowKit.Below w2.heap.size w2 w' := by
    intro v1 v2 w1 w2 h1 h2
    have := ints_v v1 v2 _ _ w2 (h1.2.ints.below h2.1) h2.2.ints (splitR_length total zs)
    rwa [decide_eq_true rfl] at this
  generalize splitE total zs = E at hg hr
  generalize splitR total zs = R at hg hr hi
  clear hv
  go_enter Try.func5, Try.ntmps5
  go_wp2_with (first
    | (go_at_call 18; refine hg.mono ?_; rintro e w1 ⟨v1, rfl, hO1⟩; have hb1 := hO1.1)
    | (go_at_call 19; refine (hr _ hb1).mono ?_; rintro e w2 ⟨v2, rfl, hO2⟩; have hb2 := hb1.trans (hO2.1.mono hb1.size))
    | (go_at_call 15; refine (hi _ _ _ _ hO1 hO2).mono ?_; rintro e w3 ⟨rfl, hB3⟩; have hb3 := hb2.trans (hB3.mono hb2.size))
    | (go_at_call 12; refine (awake_c _).mono ?_; rintro e w6 ⟨rfl, hB6⟩; have hb6 := hb3.trans (hB6.mono hb3.size)))
  go_ret
  exact ⟨rfl, hb6⟩
end Go.Proofs.Yticfefiiiinadaa
