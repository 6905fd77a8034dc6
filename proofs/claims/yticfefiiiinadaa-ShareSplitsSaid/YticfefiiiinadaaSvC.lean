/- share.Split whole, and the reference's. -/
import Derived.Test.YticfefiiiinadaaSvB
namespace Go.Proofs.Yticfefiiiinadaa
open Go.RowKit Go.Lib Go.Sort

def splitE (total : Int) (zs : List Int) : Int := if chk zs ≠ 0 then chk zs else if total < 0 ∨ 65536 < total then 1 else 0
def splitR (total : Int) (zs : List Int) : List Int := if splitE total zs = 0 then splitL total zs else []
theorem splitE_ok {total : Int} {zs : List Int} (h : splitE total zs = 0) : chk zs = 0 ∧ 0 ≤ total ∧ total ≤ 65536 := by
  unfold splitE at h
  split at h
  · rename_i h1; exact absurd h h1
  · rename_i h1
    split at h
    · cases h
    · rename_i h2; exact ⟨by omega, by omega, by omega⟩
theorem splitE_bad {total : Int} {zs : List Int} (hE : splitE total zs ≠ 0) (h : chk zs = 0) : splitE total zs = 1 ∧ (total < 0 ∨ 65536 < total) := by
  unfold splitE at hE ⊢
  rw [if_neg (by omega)] at hE ⊢
  by_cases h2 : total < 0 ∨ 65536 < total
  · rw [if_pos h2]; exact ⟨rfl, h2⟩
  · rw [if_neg h2] at hE; exact absurd rfl hE
theorem splitE_chk {total : Int} {zs : List Int} (h : chk zs ≠ 0) : splitE total zs = chk zs := by unfold splitE; rw [if_pos h]

theorem split_err (b off cap : Nat) (zs : List Int) (total : Int) (w : World) (hlen : zs.length ≤ 9223372036854775807) (hE : splitE total zs ≠ 0) (hc : SI w b off zs) :
    Calls Try.prog 18 #[.int .i64 total, .slice (some ⟨b, off, none⟩) zs.length cap] w fun e w' => e = .returned (.tuple #[.slice none 0 0, .int .i64 (splitE total zs)]) ∧ RowKit.Below w.heap.size w w' := by
  have hcheck := check_c b off cap zs w hlen hc
  by_cases h : chk zs = 0
  · obtain ⟨hE', hk⟩ := splitE_bad hE h
    rw [hE']
    rw [h] at hcheck
    clear hE hE' hc h
    by_cases h1 : total < 0
    · clear hk
      go_enter Try.func18, Try.ntmps18
      go_wp2_with (go_at_call 16; refine hcheck.mono ?_; rintro e w1 ⟨rfl, hb1⟩)
      go_ret2
      exact ⟨rfl, hb1⟩
    · have h2 : 65536 < total := by omega
      clear hk
      go_enter Try.func18, Try.ntmps18
      go_wp2_with (go_at_call 16; refine hcheck.mono ?_; rintro e w1 ⟨rfl, hb1⟩)
      go_ret2
      exact ⟨rfl, hb1⟩
  · rw [splitE_chk h]
    generalize chk zs = c at hcheck h
    clear hE hc
    go_enter Try.func18, Try.ntmps18
    go_wp2_with (go_at_call 16; refine hcheck.mono ?_; rintro e w1 ⟨rfl, hb1⟩)
    go_ret2
    exact ⟨rfl, hb1⟩
theorem split_nil (a : Option Addr) (cap : Nat) (total : Int) (w : World) :
    Calls Try.prog 18 #[.int .i64 total, .slice a 0 cap] w fun e w' => e = .returned (.tuple #[.slice none 0 0, .int .i64 1]) ∧ w = w' := by
  go_enter Try.func18, Try.ntmps18
  go_wp2_with (go_at_call 16; refine (check_nil _ _ _).mono ?_; rintro e w1 ⟨rfl, rfl⟩)
  go_ret2
  exact ⟨rfl, rfl⟩
theorem split_c (v : Value) (zs : List Int) (total : Int) (w : World) (hv : IsInts w v zs) :
    Calls Try.prog 18 #[.int .i64 total, v] w fun e w' => ∃ v', e = .returned (.tuple #[v', .int .i64 (splitE total zs)]) ∧ One1 w.heap.size w w' v' (splitR total zs) := by
  rcases hv with ⟨rfl, a, c, rfl⟩ | ⟨b, off, c, rfl, hb, hlen, hne, hc⟩
  · refine (split_nil a c total w).mono ?_
    rintro e w' ⟨rfl, rfl⟩
    exact ⟨_, rfl, Below.refl _ _, OI.nil _ _⟩
  · by_cases hE : splitE total zs = 0
    · obtain ⟨h1, h2, h3⟩ := splitE_ok hE
      refine (split_g total b off c zs w h1 h2 h3 hb hc).mono ?_
      rintro e w' ⟨v', rfl, hO⟩
      exact ⟨v', by rw [hE], by unfold splitR; rw [if_pos hE]; exact hO⟩
    · refine (split_err b off c zs total w hlen hE hc).mono ?_
      rintro e w' ⟨rfl, hB⟩
      exact ⟨_, rfl, hB, by unfold splitR; rw [if_neg hE]; exact OI.nil _ _⟩

/-! ### The reference's -/
theorem rsplit_err (b off cap : Nat) (zs : List Int) (total : Int) (w : World) (hlen : zs.length ≤ 9223372036854775807) (hE : splitE total zs ≠ 0) (hc : SI w b off zs) :
    Calls Try.prog 19 #[.int .i64 total, .slice (some ⟨b, off, none⟩) zs.length cap] w fun e w' => e = .returned (.tuple #[.slice none 0 0, .int .i64 (splitE total zs)]) ∧ w = w' := by
  have hcheck := rcheck_c b off cap zs w hlen hc
  by_cases h : chk zs = 0
  · obtain ⟨hE', hk⟩ := splitE_bad hE h
    rw [hE']
    rw [h] at hcheck
    clear hE hE' hc h
    by_cases h1 : total < 0
    · clear hk
      go_enter Try.func19, Try.ntmps19
      go_wp2_with (go_at_call 17; refine hcheck.mono ?_; rintro e w1 ⟨rfl, rfl⟩)
      go_ret2
      exact ⟨rfl, rfl⟩
    · have h2 : 65536 < total := by omega
      clear hk
      go_enter Try.func19, Try.ntmps19
      go_wp2_with (go_at_call 17; refine hcheck.mono ?_; rintro e w1 ⟨rfl, rfl⟩)
      go_ret2
      exact ⟨rfl, rfl⟩
  · rw [splitE_chk h]
    generalize chk zs = c at hcheck h
    clear hE hc
    go_enter Try.func19, Try.ntmps19
    go_wp2_with (go_at_call 17; refine hcheck.mono ?_; rintro e w1 ⟨rfl, rfl⟩)
    go_ret2
    exact ⟨rfl, rfl⟩
theorem rsplit_nil (a : Option Addr) (cap : Nat) (total : Int) (w : World) :
    Calls Try.prog 19 #[.int .i64 total, .slice a 0 cap] w fun e w' => e = .returned (.tuple #[.slice none 0 0, .int .i64 1]) ∧ w = w' := by
  go_enter Try.func19, Try.ntmps19
  go_wp2_with (go_at_call 17; refine (rcheck_nil _ _ _).mono ?_; rintro e w1 ⟨rfl, rfl⟩)
  go_ret2
  exact ⟨rfl, rfl⟩

theorem Two.drewN {B : Nat} {w0 w : World} {v1 v2 : Value} {l1 l2 : List Int} (h : Two B w0 w v1 v2 l1 l2) (q : Nat) : Two B w0 (w.drewN q) v1 v2 l1 l2 :=
  ⟨below_drewN' h.1 q, h.2.1.below (below_dn w q), h.2.2.1.below (below_dn w q), h.2.2.2⟩
theorem Two.store {B g1 g2 n1 n2 c1 c2 x : Nat} {w0 w : World} {l1 l2 : List Int} (h : Two B w0 w (.slice (some ⟨g1, 0, none⟩) n1 c1) (.slice (some ⟨g2, 0, none⟩) n2 c2) l1 l2) (hB : B ≤ g1) (hn : l1.length = n1) (y : Int) :
    Two B w0 (w.setCell ⟨g1, x, none⟩ (.int .i64 y)) (.slice (some ⟨g1, 0, none⟩) n1 c1) (.slice (some ⟨g2, 0, none⟩) n2 c2) (l1.set x y) l2 := by
  obtain ⟨h1, h2, h3, h4⟩ := h
  subst hn
  refine ⟨h1.setCell hB _, ?_, ?_, h4⟩
  · have := (World.ownsRow.stored h2 x (.int .i64 y)).1
    unfold OI
    rw [List.length_set, List.map_set]
    exact this
  · refine World.ownsRow.kept h3 (World.ownsRow.stored h2 x (.int .i64 y)).2 (.inr fun e => ?_)
    have := h4 g1 rfl
    exact this e
theorem Two.ne {B g1 g2 n1 n2 c1 c2 : Nat} {w0 w : World} {l1 l2 : List Int} (h : Two B w0 w (.slice (some ⟨g1, 0, none⟩) n1 c1) (.slice (some ⟨g2, 0, none⟩) n2 c2) l1 l2) : g1 ≠ g2 := by
  intro e
  have := h.2.2.2 g1 rfl
  rw [e] at this
  exact this rfl
theorem OI.at_ {w : World} {base g n c : Nat} {l : List Int} (h : OI w base (.slice (some ⟨g, 0, none⟩) n c) l) (hn : l.length = n) {x : Nat} (hx : x < n) : w.cell? ⟨g, x, none⟩ = some (.int .i64 (l.getD x 0)) ∧ w.frozen? ⟨g, x, none⟩ = false := by
  subst hn
  refine ⟨?_, World.ownsRow.frozenAt h x⟩
  rw [World.ownsRow.cellAt h x (by omega), List.getElem?_map, List.getElem?_eq_getElem hx, List.getD_eq_getElem?_getD, List.getElem?_eq_getElem hx]; rfl
theorem sumI_take_next (f : Int → Int) (zs : List Int) (k : Nat) (hk : k < zs.length) : sumI ((zs.map f).take (k + 1)) = sumI ((zs.map f).take k) + f (zs.getD k 0) := by
  rw [map_take_next f zs k hk, sumI_append]
end Go.Proofs.Yticfefiiiinadaa
