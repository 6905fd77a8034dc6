import Derived.Test.YticfefiiiinadaaShM
import Derived.Test.YticfefiiiinadaaOpen
namespace Go.Proofs.Yticfefiiiinadaa
open Go.RowKit Go.Lib Go.Sort Ieee

/-- Grow's number. -/
def growE (zs : List Int) (k : Int) : Int := if chk zs ≠ 0 then chk zs else if k < 0 ∨ (zs.length : Int) ≤ k then 1 else 0
def growR (zs : List Int) (k : Int) (y : Nat) : List Int := if growE zs k = 0 then growL zs k.toNat y else []

theorem chk_nil : chk [] = 1 := rfl
theorem growE_ok {zs : List Int} {k : Int} (h : growE zs k = 0) : chk zs = 0 ∧ 0 ≤ k ∧ k < zs.length := by
  unfold growE at h
  split at h
  · rename_i h1; exact absurd h h1
  · rename_i h1
    split at h
    · cases h
    · rename_i h2; exact ⟨by omega, by omega, by omega⟩

theorem grow_err (b off cap : Nat) (zs : List Int) (k : Int) (y : Nat) (w : World) (hlen : zs.length ≤ 9223372036854775807) (hE : growE zs k ≠ 0) (hc : SI w b off zs) :
    Calls Try.prog 13 #[.slice (some ⟨b, off, none⟩) zs.length cap, .int .i64 k, .float .f64 y] w fun e w' => e = .returned (.tuple #[.slice none 0 0, .int .i64 (growE zs k)]) ∧ RowKit.Below w.heap.size w w' := by
  have hcheck := check_c b off cap zs w hlen hc
  by_cases h : chk zs = 0
  · have hE' : growE zs k = 1 := by
      unfold growE at hE ⊢
      rw [if_neg (by omega)] at hE ⊢
      split
      · rfl
      · rename_i h2; rw [if_neg h2] at hE; exact absurd rfl hE
    have hk : k < 0 ∨ (zs.length : Int) ≤ k := by
      unfold growE at hE
      rw [if_neg (by omega)] at hE
      by_cases h2 : k < 0 ∨ (zs.length : Int) ≤ k
      · exact h2
      · rw [if_neg h2] at hE; exact absurd rfl hE
    rw [hE']
    rw [h] at hcheck
    clear hE hE' hc h
    by_cases h1 : k < 0
    · clear hk
      go_enter Try.func13, Try.ntmps13
      go_wp2_with (go_at_call 16; refine hcheck.mono ?_; rintro e w1 ⟨rfl, hb1⟩)
      go_ret2
      exact ⟨rfl, hb1⟩
    · have h2 : (zs.length : Int) ≤ k := by omega
      clear hk
      go_enter Try.func13, Try.ntmps13
      go_wp2_with (go_at_call 16; refine hcheck.mono ?_; rintro e w1 ⟨rfl, hb1⟩)
      go_ret2
      exact ⟨rfl, hb1⟩
  · have hE' : growE zs k = chk zs := by unfold growE; rw [if_pos h]
    rw [hE']
    generalize chk zs = c at hcheck h
    clear hE hE' hc
    go_enter Try.func13, Try.ntmps13
    go_wp2_with (go_at_call 16; refine hcheck.mono ?_; rintro e w1 ⟨rfl, hb1⟩)
    go_ret2
    exact ⟨rfl, hb1⟩
theorem grow_nil (a : Option Addr) (cap : Nat) (k : Int) (y : Nat) (w : World) :
    Calls Try.prog 13 #[.slice a 0 cap, .int .i64 k, .float .f64 y] w fun e w' => e = .returned (.tuple #[.slice none 0 0, .int .i64 1]) ∧ w = w' := by
  go_enter Try.func13, Try.ntmps13
  go_wp2_with (go_at_call 16; refine (check_nil _ _ _).mono ?_; rintro e w1 ⟨rfl, rfl⟩)
  go_ret2
  exact ⟨rfl, rfl⟩

theorem grow_c (v : Value) (zs : List Int) (k : Int) (y : Nat) (w : World) (hv : IsInts w v zs) :
    Calls Try.prog 13 #[v, .int .i64 k, .float .f64 y] w fun e w' => ∃ v', e = .returned (.tuple #[v', .int .i64 (growE zs k)]) ∧ One1 w.heap.size w w' v' (growR zs k y) := by
  rcases hv with ⟨rfl, a, c, rfl⟩ | ⟨b, off, c, rfl, hb, hlen, hne, hc⟩
  · refine (grow_nil a c k y w).mono ?_
    rintro e w' ⟨rfl, rfl⟩
    exact ⟨_, rfl, Below.refl _ _, OI.nil _ _⟩
  · by_cases hE : growE zs k = 0
    · obtain ⟨h1, h2, h3⟩ := growE_ok hE
      have h := grow_ok b off c zs k.toNat y w h1 (by omega) hb hc
      rw [Int.toNat_of_nonneg h2] at h
      refine h.mono ?_
      rintro e w' ⟨v', rfl, hO⟩
      exact ⟨v', by rw [hE], by unfold growR; rw [if_pos hE]; exact hO⟩
    · refine (grow_err b off c zs k y w hlen hE hc).mono ?_
      rintro e w' ⟨rfl, hB⟩
      exact ⟨_, rfl, hB, by unfold growR; rw [if_neg hE]; exact OI.nil _ _⟩

/-! ### The reference's -/
theorem rgrow_err (b off cap : Nat) (zs : List Int) (k : Int) (y : Nat) (w : World) (hlen : zs.length ≤ 9223372036854775807) (hE : growE zs k ≠ 0) (hc : SI w b off zs) :
    Calls Try.prog 14 #[.slice (some ⟨b, off, none⟩) zs.length cap, .int .i64 k, .float .f64 y] w fun e w' => e = .returned (.tuple #[.slice none 0 0, .int .i64 (growE zs k)]) ∧ w = w' := by
  have hcheck := rcheck_c b off cap zs w hlen hc
  by_cases h : chk zs = 0
  · have hE' : growE zs k = 1 := by
      unfold growE at hE ⊢
      rw [if_neg (by omega)] at hE ⊢
      split
      · rfl
      · rename_i h2; rw [if_neg h2] at hE; exact absurd rfl hE
    have hk : k < 0 ∨ (zs.length : Int) ≤ k := by
      unfold growE at hE
      rw [if_neg (by omega)] at hE
      by_cases h2 : k < 0 ∨ (zs.length : Int) ≤ k
      · exact h2
      · rw [if_neg h2] at hE; exact absurd rfl hE
    rw [hE']
    rw [h] at hcheck
    clear hE hE' hc h
    by_cases h1 : k < 0
    · clear hk
      go_enter Try.func14, Try.ntmps14
      go_wp2_with (go_at_call 17; refine hcheck.mono ?_; rintro e w1 ⟨rfl, rfl⟩)
      go_ret2
      exact ⟨rfl, rfl⟩
    · have h2 : (zs.length : Int) ≤ k := by omega
      clear hk
      go_enter Try.func14, Try.ntmps14
      go_wp2_with (go_at_call 17; refine hcheck.mono ?_; rintro e w1 ⟨rfl, rfl⟩)
      go_ret2
      exact ⟨rfl, rfl⟩
  · have hE' : growE zs k = chk zs := by unfold growE; rw [if_pos h]
    rw [hE']
    generalize chk zs = c at hcheck h
    clear hE hE' hc
    go_enter Try.func14, Try.ntmps14
    go_wp2_with (go_at_call 17; refine hcheck.mono ?_; rintro e w1 ⟨rfl, rfl⟩)
    go_ret2
    exact ⟨rfl, rfl⟩
theorem rgrow_nil (a : Option Addr) (cap : Nat) (k : Int) (y : Nat) (w : World) :
    Calls Try.prog 14 #[.slice a 0 cap, .int .i64 k, .float .f64 y] w fun e w' => e = .returned (.tuple #[.slice none 0 0, .int .i64 1]) ∧ w = w' := by
  go_enter Try.func14, Try.ntmps14
  go_wp2_with (go_at_call 17; refine (rcheck_nil _ _ _).mono ?_; rintro e w1 ⟨rfl, rfl⟩)
  go_ret2
  exact ⟨rfl, rfl⟩

set_option maxHeartbeats 4000000 in
theorem rgrow_ok (b off cap : Nat) (zs : List Int) (k y : Nat) (w : World) (hk : chk zs = 0) (hkn : k < zs.length) (hb : b < w.heap.size) (hc : SI w b off zs) :
    Calls Try.prog 14 #[.slice (some ⟨b, off, none⟩) zs.length cap, .int .i64 k, .float .f64 y] w fun e w' => ∃ v, e = .returned (.tuple #[v, .int .i64 0]) ∧ One1 w.heap.size w w' v (growL zs k y) := by
  obtain ⟨i0, hi, hz0, hz1, hz2⟩ := info_parts info3
  obtain ⟨hn0, hn64, hz⟩ := chk_zero hk
  have hcheck := rcheck_c b off cap zs w (by omega) hc
  rw [hk] at hcheck
  have hkn' : (k : Int) < (zs.length : Int) := by omega
  have hC := Lib.hid hc
  have hW1 : SI (w.alloc (.cells #[] 3)) b off zs := SI.below hc (lit_below w _) hb
  have hnews : ∀ j u, (zs.map (Value.int .i64))[j]? = some u → (w.alloc (.cells #[] 3)).cell? ((⟨b, off, none⟩ : Addr).add j) = some u := by
    intro j u hj
    rw [List.getElem?_map] at hj
    cases hzj : zs[j]? with
    | none => rw [hzj] at hj; cases hj
    | some z =>
      rw [hzj] at hj
      have hjl := (List.getElem?_eq_some_iff.1 hzj).1
      have h1 := hW1 j hjl
      rw [List.getD_eq_getElem?_getD, hzj] at h1
      rw [show ((⟨b, off, none⟩ : Addr).add j) = ⟨b, off + j, none⟩ by unfold Addr.add; split <;> simp_all, h1]
      exact hj
  have hNEWS := Lib.hid hnews
  have hown0 : (w.alloc (.cells #[] 3)).ownsRow w.heap.size 3 1 (.slice (some ⟨w.heap.size, 0, none⟩) 0 0) 0 [] :=
    World.ownsRow_made w #[] 0 (Nat.le_refl _) (by unfold maxLen; omega) rfl
  have hOWN := Lib.hid hown0
  have happ : ∀ (v' : Value) (w1 : World), w1.ownsRow w.heap.size 3 1 v' (0 + zs.length) ([] ++ zs.map (Value.int .i64)) → (w.alloc (.cells #[] 3)).grownBy w1 (Value.ownBlock (.slice (some ⟨w.heap.size, 0, none⟩) 0 0)) →
      ∃ g cg, v' = .slice (some ⟨g, 0, none⟩) zs.length cg ∧ Hid (One1 w.heap.size w w1 (.slice (some ⟨g, 0, none⟩) zs.length cg) zs ∧ w.heap.size ≤ g) ∧ w1.cell? ⟨b, off + k, none⟩ = some (.int .i64 (zs.getD k 0)) ∧ (∃ u, w1.cell? ⟨g, k, none⟩ = some u) ∧ w1.frozen? ⟨g, k, none⟩ = false := by
    intro v' w1 h1 h2
    rw [Nat.zero_add, List.nil_append] at h1
    have hO : OI w1 w.heap.size v' zs := h1
    have hB : RowKit.Below w.heap.size w w1 := (lit_below w (.cells #[] 3)).grown h2 (by simp) (fun j hj => by simp [Value.ownBlock] at hj; omega)
    obtain ⟨g, cg, rfl, g1, g2, g3, g4⟩ := hO.form (by intro h; rw [h] at hn0; simp at hn0)
    exact ⟨g, cg, rfl, ⟨⟨hB, hO⟩, g1⟩, (SI.below hc hB hb) k hkn, ⟨_, by have := g3 k hkn; rwa [Nat.zero_add] at this⟩, g4 _⟩
  have hAPP := Lib.hid happ
  clear happ hown0 hnews hW1 hc
  have heq : (FloatKind.f64.format.order y y == some .eq) = !(double.read y).isNaN := by
    have := order_self y
    rw [← this]
    show _ = !(!_)
    rw [Bool.not_not]; rfl
  cases hn : (double.read y).isNaN
  · rw [hn] at heq
    have hg : growL zs k y = zs.set k (wt (gsum (zs.getD k 0) y)) := by unfold growL; rw [hn]; rfl
    rw [hg]
    have hadd : ∀ w, (binOp .add 22 (.float .f64 (rt (zs.getD k 0))) (.float .f64 y)).run Try.prog w = .ok (.float .f64 (gsum (zs.getD k 0) y)) w := fun w => run_float_arith w .add _ .f64 _ _ _ (gsum_add _ hn)
    generalize zs.getD k 0 = z at hAPP hadd ⊢
    generalize gsum z y = gz at hadd ⊢
    have hrat := rratio_c z
    have hwei := rweight_c gz
    generalize rt z = rz at hadd hrat
    generalize wt gz = wz at hwei ⊢
    clear hk hz hg
    go_enter Try.func14, Try.ntmps14
    go_wp2_with (first
      | (go_at_call 17; refine hcheck.mono ?_; rintro e w1 ⟨rfl, rfl⟩)
      | (at_builtin; refine wpList_append_own_at _ rfl (.tmp 22) (.tmp 23) 27 rfl w.heap.size 3 i0 (.int .i64 0) 1 8 Try.underlying27 hi hz0 hz1 hz2 rfl (by decide) _ 0 [] rfl hOWN.out ⟨b, off, none⟩ zs.length cap (zs.map (Value.int .i64)) rfl (by simp) hNEWS.out (by intro u hu; obtain ⟨z, _, rfl⟩ := List.mem_map.1 hu; rfl) (by unfold maxLen; omega) (by omega) (by simp) ?_
         intro v' w1 hown' hgrow _ _
         obtain ⟨g, cg, rfl, hO, hcell, ⟨u, hcu⟩, hfu⟩ := hAPP.out v' w1 hown' hgrow
         clear hown' hgrow)
      | (go_at_call 11; refine (hrat _).mono ?_; rintro e w3 ⟨rfl, rfl⟩)
      | (go_at_call 9; refine (hwei _).mono ?_; rintro e w3 ⟨rfl, rfl⟩))
    go_ret2
    exact ⟨_, rfl, One1.store hO.out.1 hO.out.2 rfl wz⟩
  · rw [hn] at heq
    have hg : growL zs k y = zs := by unfold growL; rw [hn]; rfl
    rw [hg]
    generalize zs.getD k 0 = z at hAPP
    clear hk hz hg
    go_enter Try.func14, Try.ntmps14
    go_wp2_with (first
      | (go_at_call 17; refine hcheck.mono ?_; rintro e w1 ⟨rfl, rfl⟩)
      | (at_builtin; refine wpList_append_own_at _ rfl (.tmp 22) (.tmp 23) 27 rfl w.heap.size 3 i0 (.int .i64 0) 1 8 Try.underlying27 hi hz0 hz1 hz2 rfl (by decide) _ 0 [] rfl hOWN.out ⟨b, off, none⟩ zs.length cap (zs.map (Value.int .i64)) rfl (by simp) hNEWS.out (by intro u hu; obtain ⟨z, _, rfl⟩ := List.mem_map.1 hu; rfl) (by unfold maxLen; omega) (by omega) (by simp) ?_
         intro v' w1 hown' hgrow _ _
         obtain ⟨g, cg, rfl, hO, hcell, ⟨u, hcu⟩, hfu⟩ := hAPP.out v' w1 hown' hgrow
         clear hown' hgrow))
    go_ret2
    exact ⟨_, rfl, hO.out.1⟩

theorem rgrow_c (v : Value) (zs : List Int) (k : Int) (y : Nat) (w : World) (hv : IsInts w v zs) :
    Calls Try.prog 14 #[v, .int .i64 k, .float .f64 y] w fun e w' => ∃ v', e = .returned (.tuple #[v', .int .i64 (growE zs k)]) ∧ One1 w.heap.size w w' v' (growR zs k y) := by
  rcases hv with ⟨rfl, a, c, rfl⟩ | ⟨b, off, c, rfl, hb, hlen, hne, hc⟩
  · refine (rgrow_nil a c k y w).mono ?_
    rintro e w' ⟨rfl, rfl⟩
    exact ⟨_, rfl, Below.refl _ _, OI.nil _ _⟩
  · by_cases hE : growE zs k = 0
    · obtain ⟨h1, h2, h3⟩ := growE_ok hE
      have h := rgrow_ok b off c zs k.toNat y w h1 (by omega) hb hc
      rw [Int.toNat_of_nonneg h2] at h
      refine h.mono ?_
      rintro e w' ⟨v', rfl, hO⟩
      exact ⟨v', by rw [hE], by unfold growR; rw [if_pos hE]; exact hO⟩
    · refine (rgrow_err b off c zs k y w hlen hE hc).mono ?_
      rintro e w' ⟨rfl, rfl⟩
      exact ⟨_, rfl, Below.refl _ _, by unfold growR; rw [if_neg hE]; exact OI.nil _ _⟩
end Go.Proofs.Yticfefiiiinadaa
