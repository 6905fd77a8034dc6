/- Strut of the document. -/
import Derived.Test.YthppjmhocmppfaaDoorAtH
namespace Go.Proofs.YthppjmhocmppfaaDoor
open Go.RowKit Go.Maps Go.Shelf
namespace At
theorem nums_fresh (s : ByteArray) (z : Int) (l : List Int) (hl : NL s = z :: l) (W : World) (hs : s.size ≤ 1048576) : Calls Tryd.prog 28 #[.string s] W fun e w' => ∃ p c, e = .returned (.tuple #[.slice (some ⟨p, 0, none⟩) (l.length + 1) c, .bool true]) ∧ (∀ j y, (z :: l)[j]? = some y → w'.cell? ⟨p, j, none⟩ = some (.int .i64 y)) ∧ W.heap.size ≤ p ∧ Below W.heap.size W w' := by
  have h4 : s.size % 4 = 0 := by
    apply Classical.byContradiction
    intro h
    unfold NL at hl
    rw [if_neg h] at hl
    cases hl
  have hnl : numsL s = z :: l := by unfold NL at hl; rwa [if_pos h4] at hl
  refine (rnumbers_gi s W hs h4).mono ?_
  rintro e w1 ⟨v, rfl, hG⟩
  rw [hnl] at hG
  obtain ⟨hO, hb⟩ := hG
  have h0 := hO
  obtain ⟨hlen, h1⟩ := h0
  rcases h1 with ⟨rfl, hn⟩ | ⟨g, cap, cur, rfl, hB, hg, hnc, hcm, hcs, ht⟩
  · simp at hn
  · refine ⟨g, cap, by simp, fun j y hy => ?_, hB, hb⟩
    have hj : j < (z :: l).length := (List.getElem?_eq_some_iff.1 hy).1
    rw [World.ownsRow.cellAt hO j (by simpa using hj), List.getElem?_map, hy]
    rfl
set_option maxRecDepth 100000 in
set_option maxHeartbeats 4000000 in
theorem rstrut_no (s : ByteArray) (w : World) (hs : s.size ≤ 1048576) (hn : ¬ stOf (NL s)) : Calls Tryd.prog 23 #[.string s] w fun e w' => e = .returned (.tuple #[strV 0 0 0 0, .bool false]) ∧ Below w.heap.size w w' := by
  have HN := Lib.hid (fun W : World => nums_doc s W hs)
  generalize NL s = l at *
  generalize okN s = ok at *
  clear hs
  obtain ⟨n, hl⟩ : ∃ n, l.length = n := ⟨_, rfl⟩
  have h2 : ((n : Int) != 4) = true := by unfold stOf at hn; rw [hl] at hn; simp; omega
  have h3 : ((n : Int) == 4) = false := by unfold stOf at hn; rw [hl] at hn; simp; omega
  have h4 : ((n : Int) != 12) = true := by unfold stOf at hn; rw [hl] at hn; simp; omega
  have h5 : ((n : Int) == 12) = false := by unfold stOf at hn; rw [hl] at hn; simp; omega
  have HL := Lib.hid hl
  clear hl hn
  have A0 := TB.zero w
  have W0 : Below w.heap.size w (w.alloc (.cells (stC 0 0 0 0) 34)) := (Below.refl _ _).alloc (Nat.le_refl _) _
  cases ok
  all_goals
    go_enter Tryd.func23, Tryd.ntmps23
    go_upto_region 2 with (go_at_call 28; ((with_reducible refine (HN.out _).mono ?_); rintro e w1 ⟨v, rfl, hr, hb⟩); skip)
    obtain ⟨p, c, rfl⟩ := rd_len' hr HL.out
    have A1 := A0.next hb
    have W1 := hb.on W0 W0.size
    clear hr hb A0 W0
    obtain ⟨⟨c0, c1, c2, c3, c4⟩, f0, f1, f2, f3, f4⟩ := A1.out
    go_upto_region 3 with fail
    go_cut [3] (fun r wx => r = .bool false ∧ TB wx w.heap.size 0 0 0 0 ∧ Below w.heap.size w wx)
    case first =>
      go_wp2_with fail
      go_meet
      exact ⟨rfl, A1.put 0 0 0 0, below_put5 W1 (Nat.le_refl _) 0 0 0 0⟩
    case rest =>
      obtain ⟨rfl, X1, X2⟩ := hcut
      rename_i K2 aK2
      refine aK2 _ _ ?_
      refine wp_ret ?_
      (try simp only [Exit.then])
      exact bodyPost_ret (res_strut rfl _ rfl rfl X1) rfl ⟨rfl, X2⟩
set_option maxRecDepth 100000 in
set_option maxHeartbeats 4000000 in
theorem rstrut_yes (s : ByteArray) (w : World) (hs : s.size ≤ 1048576) (a b c d : Int) (r : List Int) (hl : NL s = a :: b :: c :: d :: r) (hr : r.length = 0 ∨ r.length = 8) :
    Calls Tryd.prog 23 #[.string s] w fun e w' => e = .returned (.tuple #[strL (NL s), .bool (strOk (NL s))]) ∧ Below w.heap.size w w' := by
  have hok := strOk_eq a b c d hr
  have hno := strL_no (l := a :: b :: c :: d :: r)
  have hye := strL_yes (a := a) (b := b) (c := c) (d := d) (r := r)
  have HN := Lib.hid (fun W : World => nums_fresh s a (b :: c :: d :: r) hl W hs)
  rw [hl]
  obtain ⟨n, hn⟩ : ∃ n, (b :: c :: d :: r).length + 1 = n := ⟨_, rfl⟩
  have hn4 : n = 4 ∨ n = 12 := by simp only [List.length_cons] at hn; omega
  rw [hn] at HN
  obtain ⟨l, hll⟩ : ∃ l, a :: b :: c :: d :: r = l := ⟨_, rfl⟩
  rw [hll] at HN hok hno hye ⊢
  have g0 : l[0]? = some a := by rw [← hll]; rfl
  have g1 : l[1]? = some b := by rw [← hll]; rfl
  have g2 : l[2]? = some c := by rw [← hll]; rfl
  have g3 : l[3]? = some d := by rw [← hll]; rfl
  obtain ⟨so, hso⟩ : ∃ x, strOk l = x := ⟨_, rfl⟩
  obtain ⟨sv, hsv⟩ : ∃ x, strL l = x := ⟨_, rfl⟩
  rw [hso] at hok hno hye ⊢
  rw [hsv] at hno hye ⊢
  have hlen : 4 ≤ l.length := by rw [← hll]; simp
  have HON := Lib.hid (show ∀ j y, j < 4 → l[j]? = some y → okS y = false → so = false ∧ sv = strV 0 0 0 0 from by
    intro j y hj hy hf
    have h0 : so = false := by
      rw [hok]
      rcases (show j = 0 ∨ j = 1 ∨ j = 2 ∨ j = 3 by omega) with rfl | rfl | rfl | rfl
      · rw [g0] at hy; rw [Option.some.inj hy, hf]; simp
      · rw [g1] at hy; rw [Option.some.inj hy, hf]; simp
      · rw [g2] at hy; rw [Option.some.inj hy, hf]; simp
      · rw [g3] at hy; rw [Option.some.inj hy, hf]; simp
    exact ⟨h0, hno h0⟩)
  have HOY := Lib.hid (show (∀ j y, j < 4 → l[j]? = some y → okS y = true) → so = true ∧ sv = strV a b c d from by
    intro ha
    have h0 : so = true := by rw [hok, ha 0 a (by omega) g0, ha 1 b (by omega) g1, ha 2 c (by omega) g2, ha 3 d (by omega) g3]; rfl
    exact ⟨h0, hye h0⟩)
  have q0 : (0 : Int) < (n : Int) := by omega
  have q1 : (1 : Int) < (n : Int) := by omega
  have q2 : (2 : Int) < (n : Int) := by omega
  have q3 : (3 : Int) < (n : Int) := by omega
  have n0 : 0 < n := by omega
  have n1 : 1 < n := by omega
  have n2 : 2 < n := by omega
  have n3 : 3 < n := by omega
  have HC := Lib.hid (show (n : Int) = 4 ∨ (n : Int) = 12 by omega)
  have HG := Lib.hid (And.intro g0 (And.intro g1 (And.intro g2 g3)))
  have HLE := Lib.hid hlen
  clear hs hl hr hn hn4 hll g0 g1 g2 g3 hok hno hye hso hsv hlen
  have A0 := TB.zero w
  have W0 : Below w.heap.size w (w.alloc (.cells (stC 0 0 0 0) 34)) := (Below.refl _ _).alloc (Nat.le_refl _) _
  go_enter Tryd.func23, Tryd.ntmps23
  go_upto_region 2 with (go_at_call 28; ((with_reducible refine (HN.out _).mono ?_); rintro e w1 ⟨p, cp, rfl, hrow, hp, hb⟩); skip)
  have hS : Sq w p a b c d 0 0 0 0 w1 := ⟨A0.next hb, hrow 0 a HG.out.1, hrow 1 b HG.out.2.1, hrow 2 c HG.out.2.2.1, hrow 3 d HG.out.2.2.2, hb.on W0 W0.size⟩
  have hpn : p ≠ w.heap.size := by simp only [World.size_alloc] at hp; omega
  have HP := Lib.hid hpn
  have HROW := Lib.hid hrow
  have DS := Lib.hid hS
  clear hS hrow hp hb A0 W0 hpn HN HG
  go_cut [23] (fun v wx => v = .bool false ∧ wx = w1)
  case first =>
    rcases HC.out with h | h
    · have h1 : ((n : Int) != 4) = false := by rw [h]; rfl
      go_wp2_with fail
      go_meet
      exact ⟨rfl, rfl⟩
    · have h1 : ((n : Int) != 4) = true := by rw [h]; rfl
      have h2 : ((n : Int) != 12) = false := by rw [h]; rfl
      go_wp2_with fail
      go_meet
      exact ⟨rfl, rfl⟩
  case rest =>
    obtain ⟨rfl, rfl⟩ := hcut
    obtain ⟨w1, hw1⟩ : ∃ w1, w1 = wc := ⟨_, rfl⟩
    subst hw1
    obtain ⟨⟨k0, k1, k2, k3, k4⟩, kf0, kf1, kf2, kf3, kf4⟩ := DS.out.t.out
    go_wp2_with fail
    go_loopw [6] (fun y wr => ∃ k : Nat, k ≤ 4 ∧ y = .int .i64 k ∧ wr = w1 ∧ Asd (∀ j y, j < k → l[j]? = some y → okS y = true)) (fun y _ => 4 - (intOf y).toNat)
    case atStart => exact ⟨0, Nat.zero_le _, rfl, rfl, fun j y hj => absurd hj (Nat.not_lt_zero _)⟩
    case round =>
      obtain ⟨k, hk, rfl, rfl, hA⟩ := hrel
      have HS := Lib.hid (show ∀ j y, j < k → l[j]? = some y → okS y = true from hA)
      clear hA
      by_cases hlt : k < 4
      · obtain ⟨y, hy⟩ : ∃ y, l[k]? = some y := ⟨_, List.getElem?_eq_getElem (by have := HLE.out; omega)⟩
        have cy := HROW.out k y hy
        have HY := Lib.hid hy
        have hi0 : (0 : Int) ≤ (k : Int) := by omega
        have hi1 : (k : Int) < (n : Int) := by rcases HC.out with h | h <;> omega
        have hi2 : (k : Int) < 4 := by omega
        clear hy
        by_cases ho : okS y = true
        · have hy0 : ¬ y < 0 := by unfold okS at ho; simp at ho; omega
          have hy1 : ¬ (32767 : Int) < y := by unfold okS at ho; simp at ho; omega
          have HO := Lib.hid ho
          clear ho
          go_wp2_with fail
          go_roundw
          case rel => exact ⟨k + 1, by omega, by go_num, by trivial, fun j z hj hz => by
            rcases Nat.lt_or_ge j k with h | h
            · exact HS.out j z h hz
            · obtain rfl : j = k := by omega
              rw [HY.out] at hz
              rw [← Option.some.inj hz]; exact HO.out⟩
          case measure => simp [intOf]; omega
        · obtain ⟨e1, e2⟩ := HON.out k y hlt HY.out (by simpa using ho)
          clear HON HOY
          subst e1 e2
          have hyy : y < 0 ∨ (¬ y < 0 ∧ (32767 : Int) < y) := by unfold okS at ho; simp at ho; omega
          clear ho
          rcases hyy with h0 | ⟨h0, h1⟩
          all_goals
            go_upto_region 8 with fail
            go_cut [3] (fun r wx => r = .bool false ∧ TB wx w.heap.size 0 0 0 0 ∧ Below w.heap.size w wx)
            case first =>
              go_wp2_with fail
              go_meet
              exact ⟨rfl, DS.out.t.put 0 0 0 0, below_put5 DS.out.be (Nat.le_refl _) 0 0 0 0⟩
            case rest =>
              obtain ⟨rfl, X1, X2⟩ := hcut
              rename_i K2 aK2
              refine aK2 _ _ ?_
              refine wp_ret ?_
              simp +zetaDelta only [Exit.inBlock, Exit.then]
              exact bodyPost_ret (res_strut rfl _ rfl rfl X1) rfl ⟨rfl, X2⟩
      · obtain rfl : k = 4 := by omega
        obtain ⟨e1, e2⟩ := HOY.out HS.out
        clear HON HOY
        subst e1 e2
        have hki : ¬ (((4 : Nat) : Int) < 4) := by omega
        go_upto_region 9 with fail
        go_cut [3] (fun r wx => r = .bool true ∧ TB wx w.heap.size a b c d ∧ Below w.heap.size w wx)
        case first =>
          have DD := Lib.hid DS.out.drew
          refine wp_region_noPanic ?_
          refine wp_region_held_drew (S := fun wx => wx.cell? ⟨p, 0, none⟩ = some (.int .i64 a) ∧ wx.cell? ⟨p, 1, none⟩ = some (.int .i64 b) ∧ wx.cell? ⟨p, 2, none⟩ = some (.int .i64 c) ∧ wx.cell? ⟨p, 3, none⟩ = some (.int .i64 d)) (by kernel_rfl) (by exact ⟨DD.out.c0, DD.out.c1, DD.out.c2, DD.out.c3⟩) (fun hHeld => ?_)
          refine wpAnyH_take (i := 0) (v := ?vm0) rfl (by kernel_rfl) (by kernel_rfl) (by kernel_rfl) (fun _ _ _ h => h) (Or.inl ⟨by kernel_rfl, ?ym0⟩) (by assumption) ?rm0
          case ym0 => (intro wq hSw; (try dsimp only at hSw); go_simp; (try with_reducible rfl))
          (try simp only [Act.put, List.getElem_toArray, List.getElem_cons_zero, List.setIfInBounds_toArray, List.set_cons_zero, List.set_cons_succ])
          refine wpAnyH_take (i := 1) (v := ?vm1) rfl (by kernel_rfl) (by kernel_rfl) (by kernel_rfl) (fun _ _ _ h => h) (Or.inl ⟨by kernel_rfl, ?ym1⟩) (by assumption) ?rm1
          case ym1 => (intro wq hSw; (try dsimp only at hSw); go_simp; (try with_reducible rfl))
          (try simp only [Act.put, List.getElem_toArray, List.getElem_cons_succ, List.getElem_cons_zero, List.setIfInBounds_toArray, List.set_cons_zero, List.set_cons_succ])
          refine wpAnyH_take (i := 2) (v := ?vm2) rfl (by kernel_rfl) (by kernel_rfl) (by kernel_rfl) (fun _ _ _ h => h) (Or.inl ⟨by kernel_rfl, ?ym2⟩) (by assumption) ?rm2
          case ym2 => (intro wq hSw; (try dsimp only at hSw); go_simp; (try with_reducible rfl))
          (try simp only [Act.put, List.getElem_toArray, List.getElem_cons_succ, List.getElem_cons_zero, List.setIfInBounds_toArray, List.set_cons_zero, List.set_cons_succ])
          refine wpAnyH_take (i := 3) (v := ?vm3) rfl (by kernel_rfl) (by kernel_rfl) (by kernel_rfl) (fun _ _ _ h => h) (Or.inl ⟨by kernel_rfl, ?ym3⟩) (by assumption) ?rm3
          case ym3 => (intro wq hSw; (try dsimp only at hSw); go_simp; (try with_reducible rfl))
          (try simp only [Act.put, List.getElem_toArray, List.getElem_cons_succ, List.getElem_cons_zero, List.setIfInBounds_toArray, List.set_cons_zero, List.set_cons_succ])
          refine wpAnyH_take (i := 4) (v := ?vm4) rfl (by kernel_rfl) (by kernel_rfl) (by kernel_rfl) (fun _ _ _ h => h) (Or.inl ⟨by kernel_rfl, ?ym4⟩) (by assumption) ?rm4
          case ym4 => (intro wq hSw; (try dsimp only at hSw); go_simp; (try with_reducible rfl))
          (try simp only [Act.put, List.getElem_toArray, List.getElem_cons_succ, List.getElem_cons_zero, List.setIfInBounds_toArray, List.set_cons_zero, List.set_cons_succ])
          refine wpAnyH_take (i := 5) (v := ?vm5) rfl (by kernel_rfl) (by kernel_rfl) (by kernel_rfl) (fun _ _ _ h => h) (Or.inl ⟨by kernel_rfl, ?ym5⟩) (by assumption) ?rm5
          case ym5 => (intro wq hSw; (try dsimp only at hSw); go_simp; (try with_reducible rfl))
          (try simp only [Act.put, List.getElem_toArray, List.getElem_cons_succ, List.getElem_cons_zero, List.setIfInBounds_toArray, List.set_cons_zero, List.set_cons_succ])
          refine wpAnyH_take (i := 6) (v := ?vm6) rfl (by kernel_rfl) (by kernel_rfl) (by kernel_rfl) (fun _ _ _ h => h) (Or.inl ⟨by kernel_rfl, ?ym6⟩) (by assumption) ?rm6
          case ym6 => (intro wq hSw; (try dsimp only at hSw); go_simp; (try with_reducible rfl))
          (try simp only [Act.put, List.getElem_toArray, List.getElem_cons_succ, List.getElem_cons_zero, List.setIfInBounds_toArray, List.set_cons_zero, List.set_cons_succ])
          refine wpAnyH_take (i := 7) (v := ?vm7) rfl (by kernel_rfl) (by kernel_rfl) (by kernel_rfl) (fun _ _ _ h => h) (Or.inl ⟨by kernel_rfl, ?ym7⟩) (by assumption) ?rm7
          case ym7 => (intro wq hSw; (try dsimp only at hSw); go_simp; (try with_reducible rfl))
          (try simp only [Act.put, List.getElem_toArray, List.getElem_cons_succ, List.getElem_cons_zero, List.setIfInBounds_toArray, List.set_cons_zero, List.set_cons_succ])
          refine wpAnyH_take (i := 8) (v := ?vm8) rfl (by kernel_rfl) (by kernel_rfl) (by kernel_rfl) (fun _ _ _ h => h) (Or.inl ⟨by kernel_rfl, ?ym8⟩) (by assumption) ?rm8
          case ym8 => (intro wq hSw; (try dsimp only at hSw); go_simp; (try with_reducible rfl))
          (try simp only [Act.put, List.getElem_toArray, List.getElem_cons_succ, List.getElem_cons_zero, List.setIfInBounds_toArray, List.set_cons_zero, List.set_cons_succ])
          refine wpAnyH_take (i := 9) (v := ?vm9) rfl (by kernel_rfl) (by kernel_rfl) (by kernel_rfl) (fun _ _ _ h => h) (Or.inl ⟨by kernel_rfl, ?ym9⟩) (by assumption) ?rm9
          case ym9 => (intro wq hSw; (try dsimp only at hSw); go_simp; (try with_reducible rfl))
          (try simp only [Act.put, List.getElem_toArray, List.getElem_cons_succ, List.getElem_cons_zero, List.setIfInBounds_toArray, List.set_cons_zero, List.set_cons_succ])
          refine wpAnyH_take (i := 10) (v := ?vm10) rfl (by kernel_rfl) (by kernel_rfl) (by kernel_rfl) (fun _ _ _ h => h) (Or.inl ⟨by kernel_rfl, ?ym10⟩) (by assumption) ?rm10
          case ym10 => (intro wq hSw; (try dsimp only at hSw); go_simp; (try with_reducible rfl))
          (try simp only [Act.put, List.getElem_toArray, List.getElem_cons_succ, List.getElem_cons_zero, List.setIfInBounds_toArray, List.set_cons_zero, List.set_cons_succ])
          refine wpAnyH_take (i := 11) (v := ?vm11) rfl (by kernel_rfl) (by kernel_rfl) (by kernel_rfl) (fun _ _ _ h => h) (Or.inl ⟨by kernel_rfl, ?ym11⟩) (by assumption) ?rm11
          case ym11 => (intro wq hSw; (try dsimp only at hSw); go_simp; (try with_reducible rfl))
          (try simp only [Act.put, List.getElem_toArray, List.getElem_cons_succ, List.getElem_cons_zero, List.setIfInBounds_toArray, List.set_cons_zero, List.set_cons_succ])
          refine wpAnyH_take (i := 12) (v := ?vm12) rfl (by kernel_rfl) (by kernel_rfl) (by kernel_rfl) (fun _ _ _ h => h) (Or.inl ⟨by kernel_rfl, ?ym12⟩) (by assumption) ?rm12
          case ym12 => (intro wq hSw; (try dsimp only at hSw); go_simp; (try with_reducible rfl))
          (try simp only [Act.put, List.getElem_toArray, List.getElem_cons_succ, List.getElem_cons_zero, List.setIfInBounds_toArray, List.set_cons_zero, List.set_cons_succ])
          refine wpAnyH_ready (rs := [13]) (by kernel_rfl) (by simp) ?_
          refine AllReadyH.cons rfl (fun K hK => ?_) AllReadyH.nil
          go_simp; have DE := Lib.hid (DS.out.put HP.out a b c d).drew
          refine hK.out _ _ (by exact ⟨DE.out.c0, DE.out.c1, DE.out.c2, DE.out.c3⟩) (fun hHeld => ?_)
          clear hK K
          (try simp only [Act.put, List.getElem_toArray, List.getElem_cons_succ, List.getElem_cons_zero, List.setIfInBounds_toArray, List.set_cons_zero, List.set_cons_succ])
          refine wpAnyH_take (i := 14) (v := ?vm14) rfl (by kernel_rfl) (by kernel_rfl) (by kernel_rfl) (fun _ _ _ h => h) (Or.inl ⟨by kernel_rfl, ?ym14⟩) (by assumption) ?rm14
          case ym14 => (intro wq hSw; (try dsimp only at hSw); go_simp; (try with_reducible rfl))
          (try simp only [Act.put, List.getElem_toArray, List.getElem_cons_succ, List.getElem_cons_zero, List.setIfInBounds_toArray, List.set_cons_zero, List.set_cons_succ])
          refine wpAnyH_done (by kernel_rfl) ?_ _
          refine NoPanic.normal ?_
          go_wp2_with fail
          go_meet
          exact ⟨rfl, DE.out.t, DE.out.be⟩
        case rest =>
          obtain ⟨rfl, X1, X2⟩ := hcut
          rename_i K2 aK2
          refine aK2 _ _ ?_
          refine wp_ret ?_
          (try simp only [Exit.then])
          exact bodyPost_ret (res_strut rfl _ rfl rfl X1) rfl ⟨rfl, X2⟩
theorem rstrut_c (s : ByteArray) (w : World) (hs : s.size ≤ 1048576) : Calls Tryd.prog 23 #[.string s] w fun e w' => e = .returned (.tuple #[strL (NL s), .bool (strOk (NL s))]) ∧ Below w.heap.size w w' := by
  by_cases h : stOf (NL s)
  · obtain ⟨a, b, c, d, r, hl, hr⟩ := stOf_open h
    exact rstrut_yes s w hs a b c d r hl hr
  · rw [strL_no (strOk_not h), strOk_not h]
    exact rstrut_no s w hs h
end At
end Go.Proofs.YthppjmhocmppfaaDoor
