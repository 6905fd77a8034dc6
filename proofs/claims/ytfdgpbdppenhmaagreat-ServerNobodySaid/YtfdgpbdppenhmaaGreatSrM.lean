/- A display's change, manage, answer, Do, walked. -/
import Derived.Test.YtfdgpbdppenhmaaGreatSrL
namespace Go.Proofs.YtfdgpbdppenhmaaGreat
open Go.RowKit Go.Shelf Go.Maps
theorem tDestroy_ok {X : Xs} {k : Nat} (hV : V0 X k) {i : Int} (hin : inM X.M i) (h0 : i ≠ 0) : (tDestroy X.R i X.L).2.2 = 0 := by
  unfold tDestroy
  rw [if_neg]
  intro h
  exact h ((ask_iff X.L i).2 ⟨h0, (hV.same i).2 hin⟩)
/-- Its parts, as the program has them. -/
theorem own_two (X : Xs) (a : Int) (q : Rq) (h : q.kind = 2) : X.own a q = (0, X.destroy q.win) := by unfold Xs.own; rw [if_pos h]
theorem own_ten (X : Xs) (a : Int) (q : Rq) (h : q.kind = 10) : X.own a q = (Pp.eH X.H q.win q.p, X.setp a q.win q.p) := by
  unfold Xs.own
  rw [if_neg (by omega), if_pos h]
  rfl
theorem own_ask (X : Xs) (a : Int) (q : Rq) (h2 : q.kind ≠ 2) (h10 : q.kind ≠ 10) (h : X.asks a q.win = true) : X.own a q = X.ask q := by
  unfold Xs.own Xs.ask Xs.carry
  by_cases h4 : q.kind = 4
  · have h3 : ¬ q.kind = 3 := by omega
    simp only [if_neg h2, if_neg h10, if_pos h4, if_neg h3, if_pos h, (tell_RL X _).2.1]
  · by_cases h3 : q.kind = 3
    · simp only [if_neg h2, if_neg h10, if_neg h4, if_pos h3, if_pos h]
    · simp only [if_neg h2, if_neg h10, if_neg h4, if_neg h3, if_pos h]
theorem own_carry (X : Xs) (a : Int) (q : Rq) (h2 : q.kind ≠ 2) (h10 : q.kind ≠ 10) (h : X.asks a q.win = false) : X.own a q = X.carry q := by
  unfold Xs.own Xs.carry
  have h' : ¬ X.asks a q.win = true := by rw [h]; decide
  by_cases h4 : q.kind = 4
  · have h3 : ¬ q.kind = 3 := by omega
    simp only [if_neg h2, if_neg h10, if_pos h4, if_neg h3, if_neg h']
  · simp only [if_neg h2, if_neg h10, if_neg h4, if_neg h']
section
variable {w w' : World} {s : Nat} {Y : Yl} {X : Xs} {k m : Nat}
set_option maxRecDepth 100000 in
set_option maxHeartbeats 8000000 in
theorem change_c (h : Srv w s Y X k) (hV : V0 X k) (hk : k + 1 ≤ 1000) {a : Int} (ha : 0 ≤ a) (q : Rq) (hi : I64 q.win) (z1 : q.p.name.size ≤ maxLen) (z2 : q.p.typ.size ≤ maxLen) :
    Calls Tryz.prog 70 #[srvP s, .int .i64 a, rqV q] w fun ex w' => ex = .returned (.int .i64 (X.change a q).1) ∧ SrvTo w s Y (X.change a q).2 (k + 1) w' := by
  obtain ⟨wb, hwb⟩ : ∃ wb, wb = w.alloc (.cells #[.int .i64 q.kind, .int .i64 q.win, .int .i64 q.other, .int .i64 q.x, .int .i64 q.y, .int .i64 q.a, .int .i64 q.e, .string q.p.name, .string q.p.typ, .string q.p.data] 37) := ⟨_, rfl⟩
  have hbel : Below w.heap.size w wb := by rw [hwb]; exact (Below.refl _ _).alloc (Nat.le_refl _) _
  have hbx : Blk wb w.heap.size 37 (rqL q) := by rw [hwb]; exact Blk.new w _ _
  have hs := h.next hbel
  obtain ⟨x0, x1, x2, x3, x4, x5, x6, x7, x8, x9⟩ := hbx.c10
  have HW := Lib.hid hwb
  have HB := Lib.hid hbel
  have HX := Lib.hid hbx
  have HQ := Lib.hid (fun W (hW : Below w.heap.size w W) => (SrvTo.same h hW).more (Nat.le_succ k))
  have hhas := has_c hs hV.s hi
  have H6 := Lib.hid (fun (W : World) (hW : Below wb.heap.size wb W) => (show W.cell? ⟨s, 6, none⟩ = some (.bool X.G) from (hs.next hW).blk.at_ (i := 6) rfl))
  unfold Xs.change
  have hth := there_iff X.R X.L q.win
  cases ht : thereL X.R X.L q.win with
  | false =>
    rw [if_pos rfl]
    rw [ht] at hhas
    have HH := Lib.hid hhas
    clear h hV hs hbx hbel hhas hth ht ha
    go_enter Tryz.func70, Tryz.ntmps70
    go_upto_region 1 with fail
    rw [← HW.out]
    clear hwb
    go_wp2_with (go_at_call 92; ((with_reducible refine (HH.out).mono ?_); rintro e w1 ⟨rfl, hb⟩); have HB1 := Lib.hid hb; clear hb)
    go_ret
    exact ⟨rfl, HQ.out _ (HB1.out.on HB.out HB.out.size)⟩
  | true =>
    rw [if_neg (by decide)]
    rw [ht] at hhas
    have HH := Lib.hid hhas
    by_cases h0 : q.win = 0
    · rw [if_pos h0]
      have h0' : (q.win == 0) = true := by simpa using h0
      clear h hV hs hbx hbel hhas hth ht ha h0
      go_enter Tryz.func70, Tryz.ntmps70
      go_upto_region 1 with fail
      rw [← HW.out]
      clear hwb
      go_wp2_with (go_at_call 92; ((with_reducible refine (HH.out).mono ?_); rintro e w1 ⟨rfl, hb⟩); have HB1 := Lib.hid hb; clear x0 x1 x2 x3 x4 x5 x6 x7 x8 x9; obtain ⟨x0, x1, x2, x3, x4, x5, x6, x7, x8, x9⟩ := (HX.out.next hb).c10; clear hb)
      go_ret
      exact ⟨rfl, HQ.out _ (HB1.out.on HB.out HB.out.size)⟩
    · rw [if_neg h0]
      have h0' : (q.win == 0) = false := by simpa using h0
      have hin : inM X.M q.win := (hV.same _).1 (by rcases hth.1 ht with e | e; exact absurd e h0; exact e)
      have HIS := Lib.hid (fun (W : World) (hW : Below wb.heap.size wb W) => (show Calls Tryz.prog 79 #[srvP s, .int .i64 q.win, .int .i64 a] W fun e w' => e = .returned (.bool (decide (ownM q.win X.M = a))) ∧ W = w' from by
        have h1 := isof_c (hs.next hW) hi a
        rw [isof_of hin] at h1
        exact h1))
      by_cases hr : a ≠ 0 ∧ ownM q.win X.M ≠ a
      · rw [if_pos hr]
        have h1 : (0 : Int) < a := by have := hr.1; omega
        rw [decide_eq_false hr.2] at HIS
        clear h hV hs hbx hbel hhas hth ht ha h0 hr hin
        go_enter Tryz.func70, Tryz.ntmps70
        go_upto_region 1 with fail
        rw [← HW.out]
        clear hwb
        go_wp2_with (first
          | (go_at_call 92; ((with_reducible refine (HH.out).mono ?_); rintro e w1 ⟨rfl, hb⟩); have HB1 := Lib.hid hb; clear x0 x1 x2 x3 x4 x5 x6 x7 x8 x9; obtain ⟨x0, x1, x2, x3, x4, x5, x6, x7, x8, x9⟩ := (HX.out.next hb).c10; clear hb)
          | (go_at_call 67; ((with_reducible refine (client_c _ _).mono ?_); rintro e w2 ⟨rfl, rfl⟩))
          | (go_at_call 79; ((with_reducible refine (HIS.out _ HB1.out).mono ?_); rintro e w2 ⟨rfl, rfl⟩)))
        go_ret
        exact ⟨rfl, HQ.out _ (HB1.out.on HB.out HB.out.size)⟩
      · rw [if_neg hr]
        have hcl : (a = 0) ∨ ((0 : Int) < a ∧ ownM q.win X.M = a) := by
          by_cases h1 : a = 0
          · exact .inl h1
          · refine .inr ⟨by omega, ?_⟩
            by_cases h2 : ownM q.win X.M = a
            · exact h2
            · exact absurd ⟨h1, h2⟩ hr
        have hcl2 : (¬ (0 : Int) < a) ∨ ((0 : Int) < a ∧ decide (ownM q.win X.M = a) = true) := by
          rcases hcl with h1 | ⟨h1, h2⟩
          · exact .inl (by omega)
          · exact .inr ⟨h1, decide_eq_true h2⟩
        obtain ⟨bo, hbo⟩ : ∃ bo, bo = decide (ownM q.win X.M = a) := ⟨_, rfl⟩
        rw [← hbo] at HIS hcl2
        have HK := Lib.hid (show q.kind = q.kind from rfl)
        by_cases k2 : q.kind = 2
        · rw [own_two X a q k2]
          have HD := Lib.hid (fun (W : World) (hW : Below wb.heap.size wb W) => (show Calls Tryz.prog 80 #[srvP s, .int .i64 q.win] W fun ex w' => ex = .returned (.int .i64 0) ∧ SrvTo w s Y (X.destroy q.win) (k + 1) w' from by
            have h1 := sdestroy_c (hs.next hW) hV hi
            rw [tDestroy_ok hV hin h0] at h1
            exact h1.mono fun ex w' hh => ⟨hh.1, (SrvTo.after (hW.on hbel hbel.size) hh.2).more (Nat.le_succ k)⟩))
          rw [k2] at x0
          have HX2 := Lib.hid (show Blk wb w.heap.size 37 #[.int .i64 2, .int .i64 q.win, .int .i64 q.other, .int .i64 q.x, .int .i64 q.y, .int .i64 q.a, .int .i64 q.e, .string q.p.name, .string q.p.typ, .string q.p.data] from by rw [← k2]; exact hbx)
          clear h hV hs hbx hbel hhas hth ht ha h0 hr hin hcl hbo k2
          rcases hcl2 with hc | ⟨hc, rfl⟩
          all_goals
            go_enter Tryz.func70, Tryz.ntmps70
            go_upto_region 1 with fail
            rw [← HW.out]
            clear hwb
            go_wp2_with (first
              | (go_at_call 92; ((with_reducible refine (HH.out).mono ?_); rintro e w1 ⟨rfl, hb⟩); have HB1 := Lib.hid hb; clear x0 x1 x2 x3 x4 x5 x6 x7 x8 x9; obtain ⟨x0, x1, x2, x3, x4, x5, x6, x7, x8, x9⟩ := (HX2.out.next hb).c10; clear hb)
              | (go_at_call 67; ((with_reducible refine (client_c _ _).mono ?_); rintro e w2 ⟨rfl, rfl⟩))
              | (go_at_call 79; ((with_reducible refine (HIS.out _ HB1.out).mono ?_); rintro e w2 ⟨rfl, rfl⟩))
              | (go_at_call 80; ((with_reducible refine (HD.out _ HB1.out).mono ?_); rintro e w3 ⟨rfl, T3⟩); have HZ := Lib.hid T3; clear T3))
            go_ret
            exact ⟨rfl, HZ.out⟩
        · have k2' : (q.kind == 2) = false := by simpa using k2
          by_cases k10 : q.kind = 10
          · rw [own_ten X a q k10]
            have HD := Lib.hid (fun (W : World) (hW : Below wb.heap.size wb W) => (show Calls Tryz.prog 95 #[srvP s, .int .i64 a, .int .i64 q.win, Pp.prV q.p] W fun ex w' => ex = .returned (.int .i64 (Pp.eH X.H q.win q.p)) ∧ SrvTo w s Y (X.setp a q.win q.p) (k + 1) w' from
              (setprop_c (hs.next hW) hV hk ha hi q.p z1 z2).mono fun ex w' hh => ⟨hh.1, SrvTo.after (hW.on hbel hbel.size) hh.2⟩))
            rw [k10] at x0
            have HX2 := Lib.hid (show Blk wb w.heap.size 37 #[.int .i64 10, .int .i64 q.win, .int .i64 q.other, .int .i64 q.x, .int .i64 q.y, .int .i64 q.a, .int .i64 q.e, .string q.p.name, .string q.p.typ, .string q.p.data] from by rw [← k10]; exact hbx)
            clear h hV hs hbx hbel hhas hth ht ha h0 hr hin hcl hbo k2 k2' k10
            rcases hcl2 with hc | ⟨hc, rfl⟩
            all_goals
              go_enter Tryz.func70, Tryz.ntmps70
              go_upto_region 1 with fail
              rw [← HW.out]
              clear hwb
              go_wp2_with (first
                | (go_at_call 92; ((with_reducible refine (HH.out).mono ?_); rintro e w1 ⟨rfl, hb⟩); have HB1 := Lib.hid hb; clear x0 x1 x2 x3 x4 x5 x6 x7 x8 x9; obtain ⟨x0, x1, x2, x3, x4, x5, x6, x7, x8, x9⟩ := (HX2.out.next hb).c10; clear hb)
                | (go_at_call 67; ((with_reducible refine (client_c _ _).mono ?_); rintro e w2 ⟨rfl, rfl⟩))
                | (go_at_call 79; ((with_reducible refine (HIS.out _ HB1.out).mono ?_); rintro e w2 ⟨rfl, rfl⟩))
                | (go_at_call 95; ((with_reducible refine (HD.out _ HB1.out).mono ?_); rintro e w3 ⟨rfl, T3⟩); have HZ := Lib.hid T3; clear T3))
              go_ret
              exact ⟨rfl, HZ.out⟩
          · have k10' : (q.kind == 10) = false := by simpa using k10
            have HFO := Lib.hid (fun (W : World) (hW : Below wb.heap.size wb W) => foreign_c (hs.next hW) hV hin)
            have HCA := Lib.hid (fun (W : World) (hW : Below wb.heap.size wb W) => (show Calls Tryz.prog 98 #[srvP s, rqV q] W fun ex w' => ex = .returned (.int .i64 (X.carry q).1) ∧ SrvTo w s Y (X.carry q).2 (k + 1) w' from
              (carry_c (hs.next hW) hV.s q hi).mono fun ex w' hh => ⟨hh.1, (SrvTo.after (hW.on hbel hbel.size) hh.2).more (Nat.le_succ k)⟩))
            have HAS := Lib.hid (fun (W : World) (hW : Below wb.heap.size wb W) => (show Calls Tryz.prog 97 #[srvP s, rqV q] W fun ex w' => ex = .returned (.int .i64 (X.ask q).1) ∧ SrvTo w s Y (X.ask q).2 (k + 1) w' from
              (ask_c (hs.next hW) hV.s hV.ev q hi).mono fun ex w' hh => ⟨hh.1, (SrvTo.after (hW.on hbel hbel.size) hh.2).more (Nat.le_succ k)⟩))
            obtain ⟨fo, hfo⟩ : ∃ fo, fo = (decide ((winL X.R X.L q.win).par = 0) || decide (ownM (winL X.R X.L q.win).par X.M ≠ ownM q.win X.M)) := ⟨_, rfl⟩
            rw [← hfo] at HFO
            have hasks : X.asks a q.win = (decide (a ≠ 0) && (X.G && fo)) := by unfold Xs.asks; rw [hfo]
            obtain ⟨G, hG⟩ : ∃ G, G = X.G := ⟨_, rfl⟩
            rw [← hG] at H6 hasks
            cases hA : X.asks a q.win with
            | true =>
              rw [own_ask X a q k2 k10 hA]
              rw [hA] at hasks
              have h3 : a ≠ 0 ∧ G = true ∧ fo = true := by
                have := hasks.symm
                simp only [Bool.and_eq_true, decide_eq_true_eq] at this
                exact this
              obtain ⟨h4, h5, h6⟩ := h3
              have hc : (0 : Int) < a := by omega
              have hbt : bo = true := by rcases hcl2 with h | h; exact absurd hc h; exact h.2
              rw [hbt] at HIS
              rw [h6] at HFO
              rw [h5] at H6
              clear h hV hs hbx hbel hhas hth ht ha h0 hr hin hcl hbo k2 k10 hfo hasks hG hA h4 h5 h6 hbt hcl2
              go_enter Tryz.func70, Tryz.ntmps70
              go_upto_region 1 with fail
              rw [← HW.out]
              clear hwb
              go_wp2_with (first
                | (go_at_call 92; ((with_reducible refine (HH.out).mono ?_); rintro e w1 ⟨rfl, hb⟩); have HB1 := Lib.hid hb; clear x0 x1 x2 x3 x4 x5 x6 x7 x8 x9; obtain ⟨x0, x1, x2, x3, x4, x5, x6, x7, x8, x9⟩ := (HX.out.next hb).c10; have b6 := H6.out _ hb; clear hb)
                | (go_at_call 67; ((with_reducible refine (client_c _ _).mono ?_); rintro e w2 ⟨rfl, rfl⟩))
                | (go_at_call 79; ((with_reducible refine (HIS.out _ HB1.out).mono ?_); rintro e w2 ⟨rfl, rfl⟩))
                | (go_at_call 96; ((with_reducible refine (HFO.out _ HB1.out).mono ?_); rintro e w2 ⟨rfl, hb2⟩); have HB2 := Lib.hid (hb2.on HB1.out HB1.out.size); clear x0 x1 x2 x3 x4 x5 x6 x7 x8 x9; obtain ⟨x0, x1, x2, x3, x4, x5, x6, x7, x8, x9⟩ := (HX.out.next HB2.out).c10; clear hb2)
                | (go_at_call 97; ((with_reducible refine (HAS.out _ HB2.out).mono ?_); rintro e w3 ⟨rfl, T3⟩); have HZ := Lib.hid T3; clear T3))
              go_ret
              exact ⟨rfl, HZ.out⟩
            | false =>
              rw [own_carry X a q k2 k10 hA]
              rw [hA] at hasks
              have h3 : (¬ (0 : Int) < a) ∨ ((0 : Int) < a ∧ bo = true ∧ G = false) ∨ ((0 : Int) < a ∧ bo = true ∧ G = true ∧ fo = false) := by
                rcases hcl2 with h | ⟨h, h'⟩
                · exact .inl h
                · cases hg : G with
                  | false => exact .inr (.inl ⟨h, h', rfl⟩)
                  | true =>
                    cases hf : fo with
                    | false => exact .inr (.inr ⟨h, h', rfl, rfl⟩)
                    | true =>
                      rw [hg, hf] at hasks
                      have : a ≠ 0 := by omega
                      simp [this] at hasks
              clear h hV hs hbx hbel hhas hth ht ha h0 hr hin hcl hbo k2 k10 hfo hasks hG hA hcl2
              rcases h3 with hc | ⟨hc, rfl, rfl⟩ | ⟨hc, rfl, rfl, rfl⟩
              all_goals
                go_enter Tryz.func70, Tryz.ntmps70
                go_upto_region 1 with fail
                rw [← HW.out]
                clear hwb
                go_wp2_with (first
                  | (go_at_call 92; ((with_reducible refine (HH.out).mono ?_); rintro e w1 ⟨rfl, hb⟩); have HB1 := Lib.hid hb; clear x0 x1 x2 x3 x4 x5 x6 x7 x8 x9; obtain ⟨x0, x1, x2, x3, x4, x5, x6, x7, x8, x9⟩ := (HX.out.next hb).c10; have b6 := H6.out _ hb; clear hb)
                  | (go_at_call 67; ((with_reducible refine (client_c _ _).mono ?_); rintro e w2 ⟨rfl, rfl⟩))
                  | (go_at_call 79; ((with_reducible refine (HIS.out _ HB1.out).mono ?_); rintro e w2 ⟨rfl, rfl⟩))
                  | (go_at_call 96; ((with_reducible refine (HFO.out _ HB1.out).mono ?_); rintro e w2 ⟨rfl, hb2⟩); have HB2 := Lib.hid (hb2.on HB1.out HB1.out.size); clear x0 x1 x2 x3 x4 x5 x6 x7 x8 x9; obtain ⟨x0, x1, x2, x3, x4, x5, x6, x7, x8, x9⟩ := (HX.out.next HB2.out).c10; clear hb2)
                  | (go_at_call 98; ((with_reducible refine (HCA.out _ HB1.out).mono ?_); rintro e w3 ⟨rfl, T3⟩); have HZ := Lib.hid T3; clear T3)
                  | (go_at_call 98; ((with_reducible refine (HCA.out _ HB2.out).mono ?_); rintro e w3 ⟨rfl, T3⟩); have HZ := Lib.hid T3; clear T3))
                go_ret
                exact ⟨rfl, HZ.out⟩
end
end Go.Proofs.YtfdgpbdppenhmaaGreat
