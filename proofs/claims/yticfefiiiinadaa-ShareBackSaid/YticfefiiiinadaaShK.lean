import Derived.Test.YticfefiiiinadaaShJ
namespace Go.Proofs.Yticfefiiiinadaa
open Go.RowKit Go.Lib Go.Sort Ieee

/-! ### The sum of a weight's number and another -/
theorem add_some {x y : Nat} {a : Int} (hx : GV x a) (hy : (double.read y).isNaN = false) : ∃ r, double.add x y = some r := by
  obtain ⟨s, K, L, h1, _⟩ := hx
  unfold Format.add
  rw [h1]
  rcases read_is y with ⟨s, t, hy'⟩ | ⟨s, hy'⟩ | ⟨s, m, i, hy', _⟩
  · rw [hy'] at hy; cases hy
  · rw [hy']; exact ⟨_, rfl⟩
  · rw [hy']; exact ⟨_, rfl⟩
def gsum (n : Int) (y : Nat) : Nat := (double.add (rt n) y).getD 0
theorem gsum_add (n : Int) {y : Nat} (hy : (double.read y).isNaN = false) : double.add (rt n) y = some (gsum n y) := by
  obtain ⟨r, h⟩ := add_some (rt_grid n) hy
  unfold gsum; rw [h]; rfl
/-- Grow's answer. -/
def growL (zs : List Int) (k : Nat) (y : Nat) : List Int := if (double.read y).isNaN then zs else zs.set k (wt (gsum (zs.getD k 0) y))
theorem growL_length (zs : List Int) (k y : Nat) : (growL zs k y).length = zs.length := by unfold growL; split <;> simp

theorem clone_c (b off cap : Nat) (zs : List Int) (w : World) (hn : zs.length ≤ 64) (hc : SI w b off zs) :
    Calls Try.prog 22 #[.slice (some ⟨b, off, none⟩) zs.length cap] w fun e w' => ∃ v, e = .returned v ∧ One1 w.heap.size w w' v zs := by
  have h := Any.slices_Clone_int cloneInt b off zs.length cap zs w (Nat.le_refl _) (by omega) hc
  rw [List.take_length] at h
  refine h.mono ?_
  rintro e w' ⟨v, rfl, h1, _, h2⟩
  exact ⟨v, rfl, h2, h1⟩

theorem One1.store {B g cap n x : Nat} {w0 w : World} {l : List Int} (h : One1 B w0 w (.slice (some ⟨g, 0, none⟩) n cap) l) (hB : B ≤ g) (hn : l.length = n) (y : Int) : One1 B w0 (w.setCell ⟨g, x, none⟩ (.int .i64 y)) (.slice (some ⟨g, 0, none⟩) n cap) (l.set x y) := by
  subst hn
  obtain ⟨h1, h2⟩ := h
  refine ⟨h1.setCell hB _, ?_⟩
  have := (World.ownsRow.stored h2 x (.int .i64 y)).1
  unfold OI
  rw [List.length_set, List.map_set]
  exact this

set_option maxHeartbeats 4000000 in
theorem grow_ok (b off cap : Nat) (zs : List Int) (k y : Nat) (w : World) (hk : chk zs = 0) (hkn : k < zs.length) (hb : b < w.heap.size) (hc : SI w b off zs) :
    Calls Try.prog 13 #[.slice (some ⟨b, off, none⟩) zs.length cap, .int .i64 k, .float .f64 y] w fun e w' => ∃ v, e = .returned (.tuple #[v, .int .i64 0]) ∧ One1 w.heap.size w w' v (growL zs k y) := by
  obtain ⟨hn0, hn64, hz⟩ := chk_zero hk
  have hcheck := check_c b off cap zs w (by omega) hc
  rw [hk] at hcheck
  have hkn' : (k : Int) < (zs.length : Int) := by omega
  have hclone : ∀ w1, Below w.heap.size w w1 → Calls Try.prog 22 #[.slice (some ⟨b, off, none⟩) zs.length cap] w1 fun e w' => ∃ g cg, e = .returned (.slice (some ⟨g, 0, none⟩) zs.length cg) ∧ Hid (One1 w.heap.size w w' (.slice (some ⟨g, 0, none⟩) zs.length cg) zs ∧ w.heap.size ≤ g) ∧
      w'.cell? ⟨b, off + k, none⟩ = some (.int .i64 (zs.getD k 0)) ∧ (∃ u, w'.cell? ⟨g, k, none⟩ = some u) ∧ w'.frozen? ⟨g, k, none⟩ = false := by
    intro w1 hb1
    have hs1 := hb1.size
    have hc1 := SI.below hc hb1 hb
    refine (clone_c b off cap zs w1 hn64 hc1).mono ?_
    rintro e w2 ⟨v, rfl, hO⟩
    obtain ⟨g, cg, rfl, h1, h2, h3, h4⟩ := hO.2.form (by intro h; rw [h] at hn0; simp at hn0)
    refine ⟨g, cg, rfl, ⟨⟨hb1.trans (hO.1.mono hs1), hO.2.mono hs1⟩, by omega⟩, (SI.below hc1 hO.1 (by omega)) k hkn, ⟨_, by have := h3 k hkn; rwa [Nat.zero_add] at this⟩, h4 _⟩
  cases hn : (double.read y).isNaN
  · have hg : growL zs k y = zs.set k (wt (gsum (zs.getD k 0) y)) := by unfold growL; rw [hn]; rfl
    rw [hg]
    have hadd : ∀ w, (binOp .add 22 (.float .f64 (rt (zs.getD k 0))) (.float .f64 y)).run Try.prog w = .ok (.float .f64 (gsum (zs.getD k 0) y)) w := fun w => run_float_arith w .add _ .f64 _ _ _ (gsum_add _ hn)
    generalize zs.getD k 0 = z at hclone hadd ⊢
    generalize gsum z y = gz at hadd ⊢
    have hrat := ratio_c z
    have hwei := weight_c gz
    generalize rt z = rz at hadd hrat
    generalize wt gz = wz at hwei ⊢
    clear hk hc hz hg
    go_enter Try.func13, Try.ntmps13
    go_wp2_with (first
      | (go_at_call 16; refine hcheck.mono ?_; rintro e w1 ⟨rfl, hb1⟩)
      | (go_at_call 22; refine (hclone _ (by assumption)).mono ?_; rintro e w2 ⟨g, cg, rfl, hO, hcell, ⟨u, hcu⟩, hfu⟩)
      | (go_at_call 20; refine (isnan_c _ _).mono ?_; rintro e w3 ⟨rfl, rfl⟩; rw [hn])
      | (go_at_call 10; refine (hrat _).mono ?_; rintro e w3 ⟨rfl, rfl⟩)
      | (go_at_call 8; refine (hwei _).mono ?_; rintro e w3 ⟨rfl, rfl⟩))
    go_ret2
    exact ⟨_, rfl, One1.store hO.out.1 hO.out.2 rfl wz⟩
  · have hg : growL zs k y = zs := by unfold growL; rw [hn]; rfl
    rw [hg]
    generalize zs.getD k 0 = z at hclone
    clear hk hc hz hg
    go_enter Try.func13, Try.ntmps13
    go_wp2_with (first
      | (go_at_call 16; refine hcheck.mono ?_; rintro e w1 ⟨rfl, hb1⟩)
      | (go_at_call 22; refine (hclone _ (by assumption)).mono ?_; rintro e w2 ⟨g, cg, rfl, hO, hcell, ⟨u, hcu⟩, hfu⟩)
      | (go_at_call 20; refine (isnan_c _ _).mono ?_; rintro e w3 ⟨rfl, rfl⟩; rw [hn]))
    go_ret2
    exact ⟨_, rfl, hO.out.1⟩

/-! ### Ints -/
theorem ints_lens (a1 a2 : Option Addr) (n1 c1 n2 c2 : Nat) (w : World) (hne : n1 ≠ n2) :
    Calls Try.prog 15 #[.slice a1 n1 c1, .slice a2 n2 c2] w fun e w' => e = .returned (.bool false) ∧ w = w' := by
  have hne' : ¬ (n1 : Int) = (n2 : Int) := by omega
  go_enter Try.func15, Try.ntmps15
  go_wp2
  all_goals (go_ret; exact ⟨rfl, rfl⟩)
theorem ints_none (a1 a2 : Option Addr) (c1 c2 : Nat) (w : World) :
    Calls Try.prog 15 #[.slice a1 0 c1, .slice a2 0 c2] w fun e w' => e = .returned (.bool true) ∧ w = w' := by
  go_enter Try.func15, Try.ntmps15
  go_wp2
  refine wp_loop_rounds 1 ?_
  rw [rounds_succ]
  go_wp2
  go_ret
  exact ⟨rfl, rfl⟩

theorem take_eq_next {l1 l2 : List Int} {k : Nat} (h : l1.take k = l2.take k) (h1 : k < l1.length) (h2 : k < l2.length) (he : l1.getD k 0 = l2.getD k 0) : l1.take (k + 1) = l2.take (k + 1) := by
  rw [take_next l1 k h1, take_next l2 k h2, h, he]

set_option maxHeartbeats 4000000 in
theorem ints_c (b1 o1 c1 b2 o2 c2 : Nat) (l1 l2 : List Int) (w : World) (hn : l1.length ≤ 64) (h1 : SI w b1 o1 l1) (h2 : SI w b2 o2 l2) :
    Calls Try.prog 15 #[.slice (some ⟨b1, o1, none⟩) l1.length c1, .slice (some ⟨b2, o2, none⟩) l2.length c2] w fun e w' => e = .returned (.bool (decide (l1 = l2))) ∧ Below w.heap.size w w' := by
  by_cases hne : l1.length = l2.length
  case neg =>
    rw [decide_eq_false (by intro h; exact hne (by rw [h]))]
    exact (ints_lens _ _ _ _ _ _ _ hne).mono fun e w' ⟨h, hw⟩ => ⟨h, hw ▸ Below.refl _ _⟩
  have H1 := Lib.hid h1
  have H2 := Lib.hid h2
  generalize hR : decide (l1 = l2) = R
  have hRR := Lib.hid hR
  clear h1 h2 hR
  rw [← hne]
  have hne2 := Lib.hid hne
  clear hne
  go_enter Try.func15, Try.ntmps15
  go_wp2
  go_loopw [5] (fun i wr => ∃ k : Nat, k ≤ l1.length ∧ i = .int .i64 k ∧ Hid (l1.take k = l2.take k) ∧ Aside (Below w.heap.size w wr ∧ wr.heap = w.heap)) (fun i _ => l1.length - (intOf i).toNat)
  case atStart => exact ⟨0, Nat.zero_le _, rfl, rfl, Below.refl _ _, rfl⟩
  case round =>
    obtain ⟨k, hk, rfl, hall, hW⟩ := hrel
    have hW0 := Lib.hid hW
    clear hW
    by_cases hlt : k < l1.length
    · have hlt' : (k : Int) < (l1.length : Int) := by omega
      have hlt2 : k < l2.length := by have := hne2.out; omega
      have hc1 : wr.cell? ⟨b1, o1 + k, none⟩ = some (.int .i64 (l1.getD k 0)) := by rw [← H1.out k hlt]; unfold World.cell?; rw [hW0.out.2]
      have hc2 : wr.cell? ⟨b2, o2 + k, none⟩ = some (.int .i64 (l2.getD k 0)) := by rw [← H2.out k hlt2]; unfold World.cell?; rw [hW0.out.2]
      by_cases he : l1.getD k 0 = l2.getD k 0
      · have hnx := Lib.hid (take_eq_next hall.out hlt hlt2 he)
        rw [← he] at hc2
        generalize l1.getD k 0 = x at hc1 hc2
        clear he hlt2
        go_wp2
        go_quiet (fail)
        go_wp2
        go_roundw
        case rel => exact ⟨k + 1, by omega, by go_num, hnx.out, below_drewN' hW0.out.1 _, hW0.out.2⟩
        case measure => simp [intOf]; omega
      · have hR : R = false := by
          rw [← hRR.out, decide_eq_false]
          intro h; rw [h] at he; exact he rfl
        subst hR
        generalize l1.getD k 0 = x at hc1 he
        generalize l2.getD k 0 = y at hc2 he
        clear hlt2
        go_wp2
        go_quiet (fail)
        go_wp2
        go_ret
        exact ⟨rfl, below_drewN' hW0.out.1 _⟩
    · have hlt' : ¬ (k : Int) < (l1.length : Int) := by omega
      have hkn : k = l1.length := by omega
      have hR : R = true := by
        have h3 := hall.out
        have h4 := hne2.out
        rw [List.take_of_length_le (by omega), List.take_of_length_le (by omega)] at h3
        rw [← hRR.out, decide_eq_true h3]
      subst hR hkn
      clear hall
      go_wp2
      go_ret
      exact ⟨rfl, hW0.out.1⟩
end Go.Proofs.Yticfefiiiinadaa
