/- float's small calls, walked: middle, sized, hold, bounded, edges; layout.Check; the document's half, Laid, least, held. -/
import Derived.Test.YtdmoncpeoaoppaaFlA
import Derived.Test.YtdmoncpeoaoppaaGeoF
import Derived.Test.YtdmoncpeoaoppaaFlK
import Derived.Lib.Hide
namespace Go.Proofs.Ytdmoncpeoaoppaa.Fl
open Go.RowKit
abbrev rcV (r : Rc) : Value := .agg #[.int .i64 r.x, .int .i64 r.y, .int .i64 r.w, .int .i64 r.h]
abbrev stV (g b t : Int) : Value := .agg #[.int .i64 g, .int .i64 b, .int .i64 t]
theorem shr_run {P : Program} (t : TypeId) (x : Int) (w : World) : (binOp .shr t (.int .i64 x) (.int .i64 1)).run P w = .ok (.int .i64 (x / 2)) w := by
  have e : Op.shift .shr .i64 x .i64 1 = pure (.int .i64 (x / 2 ^ (1 : Int).toNat)) := Go.shift_shr_i64 .i64 x 1 (by decide) (by decide)
  rw [binOp_shr, e]; rfl
theorem middle_c (s n a : Int) (w : World) (h1 : -200000 ≤ s ∧ s ≤ 200000) (h2 : -200000 ≤ n ∧ n ≤ 200000) (h3 : -200000 ≤ a ∧ a ≤ 200000) :
    Calls Try.prog 27 #[.int .i64 s, .int .i64 n, .int .i64 a] w fun e w' => e = .returned (.int .i64 (midI s n a)) ∧ w = w' := by
  obtain ⟨h1, h1'⟩ := h1
  obtain ⟨h2, h2'⟩ := h2
  obtain ⟨h3, h3'⟩ := h3
  have hs := @shr_run
  go_enter Try.func27, Try.ntmps27
  go_wp2
  go_ret
  exact ⟨rfl, rfl⟩
theorem half_c (n : Int) (w : World) (h : -500000 ≤ n ∧ n ≤ 500000) :
    Calls Try.prog 34 #[.int .i64 n] w fun e w' => e = .returned (.int .i64 (n / 2)) ∧ w = w' := by
  obtain ⟨h1, h2⟩ := h
  have h5 := Lib.hid (Int.mul_tdiv_add_tmod n 2)
  have h6 := Lib.hid (fun (k : 0 ≤ n) => Int.tmod_nonneg 2 k)
  have h8 := Int.tmod_lt_of_pos n (b := 2) (by omega)
  have h7 : Hid (n ≤ 0 → n.tmod 2 ≤ 0) := fun hn => by
    have e : n.tmod 2 = -((-n).tmod 2) := by rw [Int.neg_tmod, Int.neg_neg]
    have := Int.tmod_nonneg (a := -n) 2 (by omega)
    omega
  have h9 : -2 < n.tmod 2 := by
    by_cases hn : 0 ≤ n
    · have := Int.tmod_nonneg 2 hn; omega
    · have e : n.tmod 2 = -((-n).tmod 2) := by rw [Int.neg_tmod, Int.neg_neg]
      have := Int.tmod_lt_of_pos (-n) (b := 2) (by omega)
      omega
  have k1 : -300000 ≤ n.tdiv 2 := by have := h5.out; omega
  have k2 : n.tdiv 2 ≤ 300000 := by have := h5.out; omega
  by_cases z : n.tmod 2 = 0
  · have zb : (n.tmod 2 != 0) = false := by simp [z]
    go_enter Try.func34, Try.ntmps34
    go_wp2
    all_goals (go_ret; exact ⟨ret_int (by have a5 := h5.out; omega), rfl⟩)
  · have zb : (n.tmod 2 != 0) = true := by simp [z]
    by_cases hn : n < 0
    · go_enter Try.func34, Try.ntmps34
      go_wp2
      all_goals (go_ret; exact ⟨ret_int (by have a5 := h5.out; have a7 := h7.out; omega), rfl⟩)
    · go_enter Try.func34, Try.ntmps34
      go_wp2
      all_goals (go_ret; exact ⟨ret_int (by have a5 := h5.out; have a6 := h6.out; omega), rfl⟩)
theorem rleast_c (x y : Int) (w : World) : Calls Try.prog 32 #[.int .i64 x, .int .i64 y] w fun e w' => e = .returned (.int .i64 (min x y)) ∧ w = w' := by
  go_enter Try.func32, Try.ntmps32
  go_wp2
  all_goals (go_ret; exact ⟨ret_int (by omega), rfl⟩)
theorem sized_c (x y a b : Int) (w : World) (h1 : -1000000 ≤ x ∧ x ≤ 1000000) (h2 : -1000000 ≤ y ∧ y ≤ 1000000) :
    Calls Try.prog 29 #[.int .i64 x, .int .i64 y, .int .i64 a, .int .i64 b] w fun e w' => e = .returned (rcV (laidR x y a b)) ∧ Below w.heap.size w w' := by
  obtain ⟨h1, h1'⟩ := h1
  obtain ⟨h2, h2'⟩ := h2
  have HS := Lib.hid (fun W => shift_c (-32768) (-32768) a b (x + 32768) (y + 32768) W)
  obtain ⟨r, hr⟩ : ∃ r, r = laidR x y a b := ⟨_, rfl⟩
  rw [← hr]
  change Hid (∀ W, Calls _ _ _ W fun e w' => e = .returned (rcV (laidR x y a b)) ∧ _) at HS
  rw [← hr] at HS
  clear hr
  have H0 := (Bk.start w).alloc #[.int .i64 0, .int .i64 0, .int .i64 0, .int .i64 0] 23
  simp only [List.nil_append] at H0
  go_enter Try.func29, Try.ntmps29
  go_wp2_with fail
  refine (HS.out _).mono ?_
  rintro e w1 ⟨rfl, hb⟩
  have H1 := H0.next hb
  obtain ⟨⟨c0, c1, c2, c3⟩, ⟨f0, f1, f2, f3⟩⟩ := (H1.get 0 rfl).c4
  clear hb H0
  go_wp2_with fail
  refine bodyPost_ret (by simp [results, Try.results29, go_sem, c0, c1, c2, c3]; try rfl) rfl ?_
  exact ⟨rfl, (H1.put4 0 rfl _ _ _ _).below⟩
theorem laid_c (x y a b : Int) (w : World) (h1 : -1000000 ≤ x ∧ x ≤ 1000000) (h2 : -1000000 ≤ y ∧ y ≤ 1000000) :
    Calls Try.prog 33 #[.int .i64 x, .int .i64 y, .int .i64 a, .int .i64 b] w fun e w' => e = .returned (rcV (laidR x y a b)) ∧ Below w.heap.size w w' := by
  obtain ⟨h1, h1'⟩ := h1
  obtain ⟨h2, h2'⟩ := h2
  have HS := Lib.hid (fun W => rshift_c (-32768) (-32768) a b (x + 32768) (y + 32768) W)
  obtain ⟨r, hr⟩ : ∃ r, r = laidR x y a b := ⟨_, rfl⟩
  rw [← hr]
  change Hid (∀ W, Calls _ _ _ W fun e w' => e = .returned (rcV (laidR x y a b)) ∧ _) at HS
  rw [← hr] at HS
  clear hr
  have H0 := (Bk.start w).alloc #[.int .i64 0, .int .i64 0, .int .i64 0, .int .i64 0] 23
  simp only [List.nil_append] at H0
  go_enter Try.func33, Try.ntmps33
  go_wp2_with fail
  refine (HS.out _).mono ?_
  rintro e w1 ⟨rfl, hb⟩
  have H1 := H0.next hb
  obtain ⟨⟨c0, c1, c2, c3⟩, ⟨f0, f1, f2, f3⟩⟩ := (H1.get 0 rfl).c4
  clear hb H0
  go_wp2_with fail
  refine bodyPost_ret (by simp [results, Try.results33, go_sem, c0, c1, c2, c3]; try rfl) rfl ?_
  exact ⟨rfl, (H1.put4 0 rfl _ _ _ _).below⟩
theorem hold_c (s n t m : Int) (w : World) (h1 : -100000 ≤ s ∧ s ≤ 100000) (h2 : 0 ≤ n ∧ n ≤ 100000) (h3 : -100000 ≤ t ∧ t ≤ 100000) (h4 : 0 ≤ m ∧ m ≤ 100000) :
    Calls Try.prog 37 #[.int .i64 s, .int .i64 n, .int .i64 t, .int .i64 m] w fun e w' => e = .returned (.int .i64 (holdI s n t m)) ∧ w = w' := by
  obtain ⟨h1, h1'⟩ := h1
  obtain ⟨h2, h2'⟩ := h2
  obtain ⟨h3, h3'⟩ := h3
  obtain ⟨h4, h4'⟩ := h4
  go_enter Try.func37, Try.ntmps37
  go_wp2_with (go_at_call 60; refine (span_c _ _ _ _).mono ?_; rintro e w' ⟨rfl, rfl⟩)
  all_goals (go_ret; exact ⟨ret_int (by unfold holdI spanI; omega), rfl⟩)
theorem held_c (s n t m : Int) (w : World) (h1 : -100000 ≤ s ∧ s ≤ 100000) (h2 : 0 ≤ n ∧ n ≤ 100000) (h3 : -100000 ≤ t ∧ t ≤ 100000) (h4 : 0 ≤ m ∧ m ≤ 100000) :
    Calls Try.prog 39 #[.int .i64 s, .int .i64 n, .int .i64 t, .int .i64 m] w fun e w' => e = .returned (.int .i64 (holdI s n t m)) ∧ w = w' := by
  obtain ⟨h1, h1'⟩ := h1
  obtain ⟨h2, h2'⟩ := h2
  obtain ⟨h3, h3'⟩ := h3
  obtain ⟨h4, h4'⟩ := h4
  go_enter Try.func39, Try.ntmps39
  go_wp2_with (first | (go_at_call 32; refine (rleast_c _ _ _).mono ?_; rintro e w' ⟨rfl, rfl⟩) | (go_at_call 42; refine (rspan_c _ _ _ _).mono ?_; rintro e w' ⟨rfl, rfl⟩))
  all_goals (go_ret; exact ⟨ret_int (by unfold holdI spanI; omega), rfl⟩)
theorem bounded_c (n : Int) (w : World) : Calls Try.prog 40 #[.int .i64 n] w fun e w' => e = .returned (.int .i64 (spanI n (-65535) 65535)) ∧ w = w' := by
  go_enter Try.func40, Try.ntmps40
  go_wp2_with (go_at_call 60; refine (span_c _ _ _ _).mono ?_; rintro e w' ⟨rfl, rfl⟩)
  go_ret
  exact ⟨rfl, rfl⟩
def chkI (g b t : Int) : Int := if styleB g b t = true then 0 else 1
theorem chk_yes {g b t : Int} (h : (0 ≤ g ∧ g ≤ 100) ∧ (0 ≤ b ∧ b ≤ 100) ∧ (0 ≤ t ∧ t ≤ 100)) : chkI g b t = 0 := if_pos (decide_eq_true h)
theorem chk_no {g b t : Int} (h : ¬ ((0 ≤ g ∧ g ≤ 100) ∧ (0 ≤ b ∧ b ≤ 100) ∧ (0 ≤ t ∧ t ≤ 100))) : chkI g b t = 1 := if_neg fun k => h (of_decide_eq_true k)
theorem wrongst_c (n : Int) (w : World) : Calls Try.prog 65 #[.int .i64 n] w fun e w' => e = .returned (.bool (decide (n < 0 ∨ 100 < n))) ∧ w = w' := by
  go_enter Try.func65, Try.ntmps65
  go_wp2
  all_goals (go_ret; exact ⟨ret_bool (by rw [Bool.eq_iff_iff] <;> first | (simp; omega) | simp), rfl⟩)
set_option maxHeartbeats 4000000 in
theorem check_c (g b t : Int) (w : World) : Calls Try.prog 43 #[stV g b t] w fun e w' => e = .returned (.int .i64 (chkI g b t)) ∧ Below w.heap.size w w' := by
  have H0 := ((Bk.start w).alloc #[.int .i64 g, .int .i64 b, .int .i64 t] 34).below
  by_cases h1 : g < 0 ∨ 100 < g
  all_goals by_cases h2 : b < 0 ∨ 100 < b
  all_goals by_cases h3 : t < 0 ∨ 100 < t
  all_goals
    have HG := Lib.hid (fun W => wrongst_c g W)
    have HB := Lib.hid (fun W => wrongst_c b W)
    have HT := Lib.hid (fun W => wrongst_c t W)
    first | rw [decide_eq_true h1] at HG | rw [decide_eq_false h1] at HG
    first | rw [decide_eq_true h2] at HB | rw [decide_eq_false h2] at HB
    first | rw [decide_eq_true h3] at HT | rw [decide_eq_false h3] at HT
    have HC : Hid (chkI g b t = if ((g < 0 ∨ 100 < g) ∨ (b < 0 ∨ 100 < b) ∨ (t < 0 ∨ 100 < t)) then 1 else 0) := by
      show _ = _
      split
      · exact chk_no (by omega)
      · exact chk_yes (by omega)
    first | rw [if_pos (by omega)] at HC | rw [if_neg (by omega)] at HC
    rw [HC.out]
    clear h1 h2 h3 HC
    go_enter Try.func43, Try.ntmps43
    go_wp2_with first
      | (go_at_call 65; (with_reducible refine (HG.out _).mono ?_); rintro e w1 ⟨rfl, rfl⟩; skip)
      | (go_at_call 65; (with_reducible refine (HB.out _).mono ?_); rintro e w1 ⟨rfl, rfl⟩; skip)
      | (go_at_call 65; (with_reducible refine (HT.out _).mono ?_); rintro e w1 ⟨rfl, rfl⟩; skip)
    go_ret
    exact ⟨rfl, H0⟩
set_option maxHeartbeats 4000000 in
theorem rcheck_c (g b t : Int) (w : World) : Calls Try.prog 45 #[stV g b t] w fun e w' => e = .returned (.int .i64 (chkI g b t)) ∧ Below w.heap.size w w' := by
  have H0 := ((Bk.start w).alloc #[.int .i64 g, .int .i64 b, .int .i64 t] 34).below
  go_enter Try.func45, Try.ntmps45
  go_wp2
  all_goals (go_ret; first | exact ⟨ret_int (chk_no (by omega)).symm, H0⟩ | exact ⟨ret_int (chk_yes (by omega)).symm, H0⟩)
theorem edges_c (g b t : Int) (w : World) (h1 : 0 ≤ b ∧ b ≤ 100) (h2 : 0 ≤ t ∧ t ≤ 100) : Calls Try.prog 44 #[stV g b t] w fun e w' => e = .returned (.agg #[.int .i64 b, .int .i64 (b + t), .int .i64 b, .int .i64 b]) ∧ Below w.heap.size w w' := by
  obtain ⟨h1, h1'⟩ := h1
  obtain ⟨h2, h2'⟩ := h2
  go_enter Try.func44, Try.ntmps44
  go_wp2
  all_goals (go_returns; exact ⟨rfl, by repeat' (first | (with_reducible exact Below.refl _ _) | (with_reducible assumption) | (with_reducible refine Below.alloc ?_ ?_ _) | (with_reducible refine Below.drew ?_) | (with_reducible refine Below.setCell ?_ ?_ _) | (with_reducible refine Below.on (by with_reducible assumption) ?_ ?_) | go_size)⟩)
end Go.Proofs.Ytdmoncpeoaoppaa.Fl
