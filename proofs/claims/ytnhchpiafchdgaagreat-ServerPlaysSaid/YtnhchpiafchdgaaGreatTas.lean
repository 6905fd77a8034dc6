/- Texts SrM SrW SrN SrO SrP SuL. -/
import Derived.Test.YtnhchpiafchdgaaGreatTar
import Derived.Test.YtnhchpiafchdgaaGreatTaa
namespace Go.Proofs.YtnhchpiafchdgaaGreat
open Go.RowKit Go.Shelf Go.Maps
theorem tDestroy_ok {X : Xs} {k : Nat} (hV : V0 X k) {i : Int} (hin : inM X.M i) (h0 : i ≠ 0) : (tDestroy X.R i X.L).2.2 = 0 := by
 unfold tDestroy
 rw [if_neg]
 intro h
 exact h ((ask_iff X.L i).2 ⟨h0, (hV.same i).2 hin⟩)
theorem own_two (X : Xs) (a : Int) (q : Rq) (h : q.kind = 2) : X.own a q = (0, X.destroy q.win) := by unfold Xs.own; rw [if_pos h]
theorem own_ten (X : Xs) (a : Int) (q : Rq) (h : q.kind = 10) : X.own a q = (Pp.eH X.H q.win q.p, X.setp a q.win q.p) := by
 unfold Xs.own
 rw [if_neg (by omega), if_pos h]
 rfl
theorem own_ask (X : Xs) (a : Int) (q : Rq) (h2 : q.kind ≠ 2) (h10 : q.kind ≠ 10) (h : X.asks a q.win = true) : X.own a q = X.ask q := by
 unfold Xs.own Xs.ask Xs.carry
 by_cases h4 : q.kind = 4
 · have h3 : ¬ q.kind = 3 := by omega
   simp only [if_neg h2, if_neg h10, if_pos h4, if_neg h3, if_pos h, (tell_RL X _).2.1]
 · by_cases h3 : q.kind = 3
   · simp only [if_neg h2, if_neg h10, if_neg h4, if_pos h3, if_pos h]
   · simp only [if_neg h2, if_neg h10, if_neg h4, if_neg h3, if_pos h]
theorem own_carry (X : Xs) (a : Int) (q : Rq) (h2 : q.kind ≠ 2) (h10 : q.kind ≠ 10) (h : X.asks a q.win = false) : X.own a q = X.carry q := by
 unfold Xs.own Xs.carry
 have h' : ¬ X.asks a q.win = true := by rw [h]; decide
 by_cases h4 : q.kind = 4
 · have h3 : ¬ q.kind = 3 := by omega
   simp only [if_neg h2, if_neg h10, if_pos h4, if_neg h3, if_neg h']
 · simp only [if_neg h2, if_neg h10, if_neg h4, if_neg h']
section
variable {w w' : World} {s : Nat} {Y : Yl} {X : Xs} {k m : Nat}
set_option maxRecDepth 100000 in
set_option maxHeartbeats 8000000 in
theorem change_c (h : Srv w s Y X k) (hV : V0 X k) (hk : k + 1 ≤ 1000) {a : Int} (ha : 0 ≤ a) (q : Rq) (hi : I64 q.win) (z1 : q.p.name.size ≤ maxLen) (z2 : q.p.typ.size ≤ maxLen) :
  Calls Tryz.prog 70 #[srvP s, .int .i64 a, rqV q] w fun ex w' => ex = .returned (.int .i64 (X.change a q).1) ∧ SrvTo w s Y (X.change a q).2 (k + 1) w' := by
 obtain ⟨wb, hwb⟩ : ∃ wb, wb = w.alloc (.cells #[.int .i64 q.kind, .int .i64 q.win, .int .i64 q.other, .int .i64 q.x, .int .i64 q.y, .int .i64 q.a, .int .i64 q.e, .string q.p.name, .string q.p.typ, .string q.p.data] 37) := ⟨_, rfl⟩
 have hbel : Below w.heap.size w wb := by rw [hwb]; exact (Below.refl _ _).alloc (Nat.le_refl _) _
 have hbx : Blk wb w.heap.size 37 (rqL q) := by rw [hwb]; exact Blk.new w _ _
 have hs := h.next hbel
 obtain ⟨x0, x1, x2, x3, x4, x5, x6, x7, x8, x9⟩ := hbx.c10
 have HW := Lib.hid hwb
 have HB := Lib.hid hbel
 have HX := Lib.hid hbx
 have HQ := Lib.hid (fun W (hW : Below w.heap.size w W) => (SrvTo.same h hW).more (Nat.le_succ k))
 have hhas := has_c hs hV.s hi
 have H6 := Lib.hid (fun (W : World) (hW : Below wb.heap.size wb W) => (show W.cell? ⟨s, 6, none⟩ = some (.bool X.G) from (hs.next hW).blk.at_ (i := 6) rfl))
 unfold Xs.change
 have hth := there_iff X.R X.L q.win
 cases ht : thereL X.R X.L q.win with
 | false =>
  rw [if_pos rfl]
  rw [ht] at hhas
  have HH := Lib.hid hhas
  clear h hV hs hbx hbel hhas hth ht ha
  go_enter Tryz.func70, Tryz.ntmps70
  go_upto_region 1 with fail
  rw [← HW.out]
  clear hwb
  go_wp2_with (go_at_call 92; ((with_reducible refine (HH.out).mono ?_); rintro e w1 ⟨rfl, hb⟩); have HB1 := Lib.hid hb; clear hb)
  go_ret
  exact ⟨rfl, HQ.out _ (HB1.out.on HB.out HB.out.size)⟩
 | true =>
  rw [if_neg (by decide)]
  rw [ht] at hhas
  have HH := Lib.hid hhas
  by_cases h0 : q.win = 0
  · rw [if_pos h0]
    have h0' : (q.win == 0) = true := by simpa using h0
    clear h hV hs hbx hbel hhas hth ht ha h0
    go_enter Tryz.func70, Tryz.ntmps70
    go_upto_region 1 with fail
    rw [← HW.out]
    clear hwb
    go_wp2_with (go_at_call 92; ((with_reducible refine (HH.out).mono ?_); rintro e w1 ⟨rfl, hb⟩); have HB1 := Lib.hid hb; clear x0 x1 x2 x3 x4 x5 x6 x7 x8 x9; obtain ⟨x0, x1, x2, x3, x4, x5, x6, x7, x8, x9⟩ := (HX.out.next hb).c10; clear hb)
    go_ret
    exact ⟨rfl, HQ.out _ (HB1.out.on HB.out HB.out.size)⟩
  · rw [if_neg h0]
    have h0' : (q.win == 0) = false := by simpa using h0
    have hin : inM X.M q.win := (hV.same _).1 (by rcases hth.1 ht with e | e; exact absurd e h0; exact e)
    have HIS := Lib.hid (fun (W : World) (hW : Below wb.heap.size wb W) => (show Calls Tryz.prog 79 #[srvP s, .int .i64 q.win, .int .i64 a] W fun e w' => e = .returned (.bool (decide (ownM q.win X.M = a))) ∧ W = w' from by
      have h1 := isof_c (hs.next hW) hi a
      rw [isof_of hin] at h1
      exact h1))
    by_cases hr : a ≠ 0 ∧ ownM q.win X.M ≠ a
    · rw [if_pos hr]
      have h1 : (0 : Int) < a := by have := hr.1; omega
      rw [decide_eq_false hr.2] at HIS
      clear h hV hs hbx hbel hhas hth ht ha h0 hr hin
      go_enter Tryz.func70, Tryz.ntmps70
      go_upto_region 1 with fail
      rw [← HW.out]
      clear hwb
      go_wp2_with (first
        | (go_at_call 92; ((with_reducible refine (HH.out).mono ?_); rintro e w1 ⟨rfl, hb⟩); have HB1 := Lib.hid hb; clear x0 x1 x2 x3 x4 x5 x6 x7 x8 x9; obtain ⟨x0, x1, x2, x3, x4, x5, x6, x7, x8, x9⟩ := (HX.out.next hb).c10; clear hb)
        | (go_at_call 67; ((with_reducible refine (client_c _ _).mono ?_); rintro e w2 ⟨rfl, rfl⟩))
        | (go_at_call 79; ((with_reducible refine (HIS.out _ HB1.out).mono ?_); rintro e w2 ⟨rfl, rfl⟩)))
      go_ret
      exact ⟨rfl, HQ.out _ (HB1.out.on HB.out HB.out.size)⟩
    · rw [if_neg hr]
      have hcl : (a = 0) ∨ ((0 : Int) < a ∧ ownM q.win X.M = a) := by
        by_cases h1 : a = 0
        · exact .inl h1
        · refine .inr ⟨by omega, ?_⟩
          by_cases h2 : ownM q.win X.M = a
          · exact h2
          · exact absurd ⟨h1, h2⟩ hr
      have hcl2 : (¬ (0 : Int) < a) ∨ ((0 : Int) < a ∧ decide (ownM q.win X.M = a) = true) := by
        rcases hcl with h1 | ⟨h1, h2⟩
        · exact .inl (by omega)
        · exact .inr ⟨h1, decide_eq_true h2⟩
      obtain ⟨bo, hbo⟩ : ∃ bo, bo = decide (ownM q.win X.M = a) := ⟨_, rfl⟩
      rw [← hbo] at HIS hcl2
      have HK := Lib.hid (show q.kind = q.kind from rfl)
      by_cases k2 : q.kind = 2
      · rw [own_two X a q k2]
        have HD := Lib.hid (fun (W : World) (hW : Below wb.heap.size wb W) => (show Calls Tryz.prog 80 #[srvP s, .int .i64 q.win] W fun ex w' => ex = .returned (.int .i64 0) ∧ SrvTo w s Y (X.destroy q.win) (k + 1) w' from by
          have h1 := sdestroy_c (hs.next hW) hV hi
          rw [tDestroy_ok hV hin h0] at h1
          exact h1.mono fun ex w' hh => ⟨hh.1, (SrvTo.after (hW.on hbel hbel.size) hh.2).more (Nat.le_succ k)⟩))
        rw [k2] at x0
        have HX2 := Lib.hid (show Blk wb w.heap.size 37 #[.int .i64 2, .int .i64 q.win, .int .i64 q.other, .int .i64 q.x, .int .i64 q.y, .int .i64 q.a, .int .i64 q.e, .string q.p.name, .string q.p.typ, .string q.p.data] from by rw [← k2]; exact hbx)
        clear h hV hs hbx hbel hhas hth ht ha h0 hr hin hcl hbo k2
        rcases hcl2 with hc | ⟨hc, rfl⟩
        all_goals
          go_enter Tryz.func70, Tryz.ntmps70
          go_upto_region 1 with fail
          rw [← HW.out]
          clear hwb
          go_wp2_with (first
            | (go_at_call 92; ((with_reducible refine (HH.out).mono ?_); rintro e w1 ⟨rfl, hb⟩); have HB1 := Lib.hid hb; clear x0 x1 x2 x3 x4 x5 x6 x7 x8 x9; obtain ⟨x0, x1, x2, x3, x4, x5, x6, x7, x8, x9⟩ := (HX2.out.next hb).c10; clear hb)
            | (go_at_call 67; ((with_reducible refine (client_c _ _).mono ?_); rintro e w2 ⟨rfl, rfl⟩))
            | (go_at_call 79; ((with_reducible refine (HIS.out _ HB1.out).mono ?_); rintro e w2 ⟨rfl, rfl⟩))
            | (go_at_call 80; ((with_reducible refine (HD.out _ HB1.out).mono ?_); rintro e w3 ⟨rfl, T3⟩); have HZ := Lib.hid T3; clear T3))
          go_ret
          exact ⟨rfl, HZ.out⟩
      · have k2' : (q.kind == 2) = false := by simpa using k2
        by_cases k10 : q.kind = 10
        · rw [own_ten X a q k10]
          have HD := Lib.hid (fun (W : World) (hW : Below wb.heap.size wb W) => (show Calls Tryz.prog 95 #[srvP s, .int .i64 a, .int .i64 q.win, Pp.prV q.p] W fun ex w' => ex = .returned (.int .i64 (Pp.eH X.H q.win q.p)) ∧ SrvTo w s Y (X.setp a q.win q.p) (k + 1) w' from
            (setprop_c (hs.next hW) hV hk ha hi q.p z1 z2).mono fun ex w' hh => ⟨hh.1, SrvTo.after (hW.on hbel hbel.size) hh.2⟩))
          rw [k10] at x0
          have HX2 := Lib.hid (show Blk wb w.heap.size 37 #[.int .i64 10, .int .i64 q.win, .int .i64 q.other, .int .i64 q.x, .int .i64 q.y, .int .i64 q.a, .int .i64 q.e, .string q.p.name, .string q.p.typ, .string q.p.data] from by rw [← k10]; exact hbx)
          clear h hV hs hbx hbel hhas hth ht ha h0 hr hin hcl hbo k2 k2' k10
          rcases hcl2 with hc | ⟨hc, rfl⟩
          all_goals
            go_enter Tryz.func70, Tryz.ntmps70
            go_upto_region 1 with fail
            rw [← HW.out]
            clear hwb
            go_wp2_with (first
             | (go_at_call 92; ((with_reducible refine (HH.out).mono ?_); rintro e w1 ⟨rfl, hb⟩); have HB1 := Lib.hid hb; clear x0 x1 x2 x3 x4 x5 x6 x7 x8 x9; obtain ⟨x0, x1, x2, x3, x4, x5, x6, x7, x8, x9⟩ := (HX2.out.next hb).c10; clear hb)
             | (go_at_call 67; ((with_reducible refine (client_c _ _).mono ?_); rintro e w2 ⟨rfl, rfl⟩))
             | (go_at_call 79; ((with_reducible refine (HIS.out _ HB1.out).mono ?_); rintro e w2 ⟨rfl, rfl⟩))
             | (go_at_call 95; ((with_reducible refine (HD.out _ HB1.out).mono ?_); rintro e w3 ⟨rfl, T3⟩); have HZ := Lib.hid T3; clear T3))
            go_ret
            exact ⟨rfl, HZ.out⟩
        · have k10' : (q.kind == 10) = false := by simpa using k10
          have HFO := Lib.hid (fun (W : World) (hW : Below wb.heap.size wb W) => foreign_c (hs.next hW) hV hin)
          have HCA := Lib.hid (fun (W : World) (hW : Below wb.heap.size wb W) => (show Calls Tryz.prog 98 #[srvP s, rqV q] W fun ex w' => ex = .returned (.int .i64 (X.carry q).1) ∧ SrvTo w s Y (X.carry q).2 (k + 1) w' from
            (carry_c (hs.next hW) hV.s q hi).mono fun ex w' hh => ⟨hh.1, (SrvTo.after (hW.on hbel hbel.size) hh.2).more (Nat.le_succ k)⟩))
          have HAS := Lib.hid (fun (W : World) (hW : Below wb.heap.size wb W) => (show Calls Tryz.prog 97 #[srvP s, rqV q] W fun ex w' => ex = .returned (.int .i64 (X.ask q).1) ∧ SrvTo w s Y (X.ask q).2 (k + 1) w' from
            (ask_c (hs.next hW) hV.s hV.ev q hi).mono fun ex w' hh => ⟨hh.1, (SrvTo.after (hW.on hbel hbel.size) hh.2).more (Nat.le_succ k)⟩))
          obtain ⟨fo, hfo⟩ : ∃ fo, fo = (decide ((winL X.R X.L q.win).par = 0) || decide (ownM (winL X.R X.L q.win).par X.M ≠ ownM q.win X.M)) := ⟨_, rfl⟩
          rw [← hfo] at HFO
          have hasks : X.asks a q.win = (decide (a ≠ 0) && (X.G && fo)) := by unfold Xs.asks; rw [hfo]
          obtain ⟨G, hG⟩ : ∃ G, G = X.G := ⟨_, rfl⟩
          rw [← hG] at H6 hasks
          cases hA : X.asks a q.win with
          | true =>
            rw [own_ask X a q k2 k10 hA]
            rw [hA] at hasks
            have h3 : a ≠ 0 ∧ G = true ∧ fo = true := by
             have := hasks.symm
             simp only [Bool.and_eq_true, decide_eq_true_eq] at this
             exact this
            obtain ⟨h4, h5, h6⟩ := h3
            have hc : (0 : Int) < a := by omega
            have hbt : bo = true := by rcases hcl2 with h | h; exact absurd hc h; exact h.2
            rw [hbt] at HIS
            rw [h6] at HFO
            rw [h5] at H6
            clear h hV hs hbx hbel hhas hth ht ha h0 hr hin hcl hbo k2 k10 hfo hasks hG hA h4 h5 h6 hbt hcl2
            go_enter Tryz.func70, Tryz.ntmps70
            go_upto_region 1 with fail
            rw [← HW.out]
            clear hwb
            go_wp2_with (first
             | (go_at_call 92; ((with_reducible refine (HH.out).mono ?_); rintro e w1 ⟨rfl, hb⟩); have HB1 := Lib.hid hb; clear x0 x1 x2 x3 x4 x5 x6 x7 x8 x9; obtain ⟨x0, x1, x2, x3, x4, x5, x6, x7, x8, x9⟩ := (HX.out.next hb).c10; have b6 := H6.out _ hb; clear hb)
             | (go_at_call 67; ((with_reducible refine (client_c _ _).mono ?_); rintro e w2 ⟨rfl, rfl⟩))
             | (go_at_call 79; ((with_reducible refine (HIS.out _ HB1.out).mono ?_); rintro e w2 ⟨rfl, rfl⟩))
             | (go_at_call 96; ((with_reducible refine (HFO.out _ HB1.out).mono ?_); rintro e w2 ⟨rfl, hb2⟩); have HB2 := Lib.hid (hb2.on HB1.out HB1.out.size); clear x0 x1 x2 x3 x4 x5 x6 x7 x8 x9; obtain ⟨x0, x1, x2, x3, x4, x5, x6, x7, x8, x9⟩ := (HX.out.next HB2.out).c10; clear hb2)
             | (go_at_call 97; ((with_reducible refine (HAS.out _ HB2.out).mono ?_); rintro e w3 ⟨rfl, T3⟩); have HZ := Lib.hid T3; clear T3))
            go_ret
            exact ⟨rfl, HZ.out⟩
          | false =>
            rw [own_carry X a q k2 k10 hA]
            rw [hA] at hasks
            have h3 : (¬ (0 : Int) < a) ∨ ((0 : Int) < a ∧ bo = true ∧ G = false) ∨ ((0 : Int) < a ∧ bo = true ∧ G = true ∧ fo = false) := by
             rcases hcl2 with h | ⟨h, h'⟩
             · exact .inl h
             · cases hg : G with
               | false => exact .inr (.inl ⟨h, h', rfl⟩)
               | true =>
                cases hf : fo with
                | false => exact .inr (.inr ⟨h, h', rfl, rfl⟩)
                | true =>
                 rw [hg, hf] at hasks
                 have : a ≠ 0 := by omega
                 simp [this] at hasks
            clear h hV hs hbx hbel hhas hth ht ha h0 hr hin hcl hbo k2 k10 hfo hasks hG hA hcl2
            rcases h3 with hc | ⟨hc, rfl, rfl⟩ | ⟨hc, rfl, rfl, rfl⟩
            all_goals
             go_enter Tryz.func70, Tryz.ntmps70
             go_upto_region 1 with fail
             rw [← HW.out]
             clear hwb
             go_wp2_with (first
               | (go_at_call 92; ((with_reducible refine (HH.out).mono ?_); rintro e w1 ⟨rfl, hb⟩); have HB1 := Lib.hid hb; clear x0 x1 x2 x3 x4 x5 x6 x7 x8 x9; obtain ⟨x0, x1, x2, x3, x4, x5, x6, x7, x8, x9⟩ := (HX.out.next hb).c10; have b6 := H6.out _ hb; clear hb)
               | (go_at_call 67; ((with_reducible refine (client_c _ _).mono ?_); rintro e w2 ⟨rfl, rfl⟩))
               | (go_at_call 79; ((with_reducible refine (HIS.out _ HB1.out).mono ?_); rintro e w2 ⟨rfl, rfl⟩))
               | (go_at_call 96; ((with_reducible refine (HFO.out _ HB1.out).mono ?_); rintro e w2 ⟨rfl, hb2⟩); have HB2 := Lib.hid (hb2.on HB1.out HB1.out.size); clear x0 x1 x2 x3 x4 x5 x6 x7 x8 x9; obtain ⟨x0, x1, x2, x3, x4, x5, x6, x7, x8, x9⟩ := (HX.out.next HB2.out).c10; clear hb2)
               | (go_at_call 98; ((with_reducible refine (HCA.out _ HB1.out).mono ?_); rintro e w3 ⟨rfl, T3⟩); have HZ := Lib.hid T3; clear T3)
               | (go_at_call 98; ((with_reducible refine (HCA.out _ HB2.out).mono ?_); rintro e w3 ⟨rfl, T3⟩); have HZ := Lib.hid T3; clear T3))
             go_ret
             exact ⟨rfl, HZ.out⟩
end
end Go.Proofs.YtnhchpiafchdgaaGreat
namespace Go.Proofs.YtnhchpiafchdgaaGreat
open Go.RowKit Go.Shelf Go.Maps
theorem way_kept {nd nd' : Int → Option Nd} (h : ∀ j d, nd j = some d → ∃ d', nd' j = some d' ∧ d'.win = d.win) : ∀ (m : Nat) (i : Int), Way nd m i → Way nd' m i ∧ viewB nd' m i = viewB nd m i
 | 0, i, hw => by
  obtain ⟨h0, d, hd⟩ := hw
  obtain ⟨d', h1, h2⟩ := h i d hd
  refine ⟨⟨h0, d', h1⟩, ?_⟩
  unfold viewB onOf
  rw [hd, h1]
  show d'.win.on = d.win.on
  rw [h2]
 | m + 1, i, hw => by
  obtain ⟨h0, d, hd, hw⟩ := hw
  obtain ⟨d', h1, h2⟩ := h i d hd
  obtain ⟨h3, h4⟩ := way_kept h m d.win.par hw
  refine ⟨⟨h0, d', h1, by rw [h2]; exact h3⟩, ?_⟩
  unfold viewB
  rw [par_of hd, par_of h1, h2, h4]
  unfold onOf
  rw [hd, h1]
  show (d'.win.on && _) = (d.win.on && _)
  rw [h2]
section
variable {X : Xs} {k : Nat}
theorem view_way {R : RT} {L : List Win} (S : Sane R L k) {i : Int} (h : viewL R L i = true) : ∃ m, Way (ndL R L) m i ∧ viewB (ndL R L) m i = true := by
 unfold viewL at h
 rw [Bool.and_eq_true] at h
 obtain ⟨h1, h2⟩ := h
 obtain ⟨d, hd⟩ := Option.isSome_iff_exists.1 (show (ndL R L i).isSome = true from h1)
 obtain ⟨m, hm⟩ := S.any hd
 rw [ups_eq hm] at h2
 exact ⟨m, hm, h2⟩
theorem view_of {R : RT} {L : List Win} {i : Int} {m : Nat} (h : Way (ndL R L) m i) (hv : viewB (ndL R L) m i = true) : viewL R L i = true := by
 obtain ⟨d, hd⟩ := h.there
 unfold viewL thereL
 rw [hd, ups_eq h, hv]; rfl
theorem create_yes {R : RT} {L : List Win} {q x y a e : Int} (h : (tCreate R q x y a e L).2.2.2 = 0) : isL L q = true ∧ rightB x y a e = true ∧ tCreate R q x y a e L = ({ R with last := R.last + 1 }, L ++ [⟨R.last + 1, q, x, y, a, e, false⟩], R.last + 1, 0) := by
 unfold tCreate at h ⊢
 split at h
 · exact absurd h (by simp)
 · split at h
   · exact absurd h (by simp)
   · rename_i h1 h2
     rw [if_neg h1, if_neg h2]
     exact ⟨by simpa using h1, by simpa using h2, rfl⟩
theorem V.created (h : V X k) (hk : k + 1 ≤ 1000) {a : Int} (ha : 0 ≤ a) (ha2 : I64 a) (q : Rq) (hq : I64 q.other) : V (X.create a q).2.2 (k + 1) := by
 unfold Xs.create
 split
 · exact h.le (Nat.le_succ k) hk
 · dsimp only
   split
   · next he =>
     obtain ⟨h1, h2, h3⟩ := create_yes he
     have hs := (t_create h.s hk hq q.x q.y q.a q.e).1
     rw [h3] at hs ⊢
     refine ⟨V0.created h.toV0 hs (.inr ⟨_, _, _, _, _, rfl⟩) (by show X.R.last < X.R.last + 1; omega) ⟨ha, ha2.2⟩, ?_⟩
     rcases h.foc with hf | hf
     · exact .inl hf
     · refine .inr ?_
       obtain ⟨m, hm, hv⟩ := view_way h.s hf
       rw [isL_nd X.R X.L q.other] at h1
       obtain ⟨dq, hdq⟩ := Option.isSome_iff_exists.1 h1
       obtain ⟨-, g2⟩ := create_list h.s.toGood h.s.low (x := q.x) (y := q.y) (a := q.a) (e := q.e) hdq
       have hfr : ndL X.R X.L (X.R.last + 1) = none := by
        cases hd : ndL X.R X.L (X.R.last + 1) with
        | none => rfl
        | some d =>
          obtain ⟨e1, e2⟩ := getR_some (ndL_some hd).1
          have hlow := h.s.low
          rcases e2 with ⟨e2, _⟩ | ⟨_, e2⟩
          · omega
          · have := (h.s.pos _ e2).2; omega
       have hsame : ∀ j d, ndL X.R X.L j = some d → ∃ d', ndL { X.R with last := X.R.last + 1 } (X.L ++ [⟨X.R.last + 1, q.other, q.x, q.y, q.a, q.e, false⟩]) j = some d' ∧ d'.win = d.win := fun j d hd => by
        rw [g2]
        have hj : j ≠ X.R.last + 1 := fun e => by rw [e, hfr] at hd; cases hd
        rw [upd_other _ _ hj]
        by_cases hjq : j = q.other
        · rw [hjq, upd_same]
          rw [hjq, hdq] at hd
          injection hd with hd
          exact ⟨_, rfl, by rw [hd]⟩
        · rw [upd_other _ _ hjq]; exact ⟨d, hd, rfl⟩
       obtain ⟨k1, k2⟩ := way_kept hsame m X.F hm
       exact view_of k1 (k2.trans hv)
   · exact h.le (Nat.le_succ k) hk
theorem V0.destroyed (h : V0 X k) {i : Int} (hi : I64 i) : V0 (X.destroy i) k := by
 unfold Xs.destroy
 split
 · exact h
 · next hn =>
   have hs := (t_destroy h.s hi).1
   have e1 : (tDestroy X.R i X.L).1 = dropAll (goneI X.R X.L i) X.L := by unfold tDestroy; rw [if_neg hn]
   rw [e1] at hs
   have hF : Fg { X with L := dropAll (goneI X.R X.L i) X.L } := ⟨h.ev, h.h, fun m hm => (h.own m hm).1⟩
   obtain ⟨p1, p2, p3, p4, p5, p6, p7⟩ := fold_parts { X with L := dropAll (goneI X.R X.L i) X.L } (goneI X.R X.L i)
   have hF2 := hF.fold (goneI X.R X.L i)
   refine ⟨by rw [p1, p2]; exact hs, h.up.sublist p6, fun j => ?_, fun m hm => h.own m ((p5 m).1 hm).1, hF2.ev, hF2.h, Nat.le_trans p7 h.hl, by rw [p3]; exact h.f64⟩
   rw [p2, inL_dropAll, h.same]
   unfold inM
   constructor
   · rintro ⟨⟨m, hm, rfl⟩, hn⟩
     exact ⟨m, (p5 m).2 ⟨hm, hn⟩, rfl⟩
   · rintro ⟨m, hm, rfl⟩
     exact ⟨⟨m, ((p5 m).1 hm).1, rfl⟩, ((p5 m).1 hm).2⟩
theorem V0.carried (h : V0 X k) (q : Rq) (hi : I64 q.win) : V0 (X.carry q).2 k := by
 unfold Xs.carry
 split
 · exact h.tree (t_map h.s hi true).1 (inL_map true q.win X.L)
 · split
   · exact h.tree (t_map h.s hi false).1 (inL_map false q.win X.L)
   · split
     · exact h.tree (t_conf h.s hi q.x q.y q.a q.e).1 (inL_conf q.win q.x q.y q.a q.e X.L)
     · split
       · exact h.tree (t_raise h.s hi).1 (inL_raise q.win X.L)
       · exact h.tree (t_lower h.s hi).1 (inL_lower q.win X.L)
theorem V0.asked (h : V0 X k) (q : Rq) (hi : I64 q.win) : V0 (X.ask q).2 k := by
 unfold Xs.ask
 split
 · exact h.tell _
 · split
   · exact (h.tell _).carried q hi
   · split
     · split
       · exact h
       · exact h.tell _
     · exact h
theorem V0.setp (h : V0 X k) (hk : k + 1 ≤ 1000) (a i : Int) (p : Pp.Pr) : V0 (X.setp a i p) (k + 1) := by
 unfold Xs.setp
 dsimp only
 split
 · split
   · exact (h.props i p hk).tell _
   · exact (h.le (Nat.le_succ k) hk).tell _
 · split
   · exact h.props i p hk
   · exact h.le (Nat.le_succ k) hk
end
end Go.Proofs.YtnhchpiafchdgaaGreat
namespace Go.Proofs.YtnhchpiafchdgaaGreat
open Go.RowKit Go.Shelf Go.Maps
section
variable {w w' : World} {s : Nat} {Y : Yl} {X : Xs} {k m : Nat}
theorem V0.changed (h : V0 X k) (hk : k + 1 ≤ 1000) (a : Int) (q : Rq) (hi : I64 q.win) : V0 (X.change a q).2 (k + 1) := by
 have h1 := h.le (Nat.le_succ k) hk
 unfold Xs.change
 split
 · exact h1
 · split
   · exact h1
   · split
     · exact h1
     · by_cases k2 : q.kind = 2
       · rw [own_two X a q k2]; exact h1.destroyed hi
       · by_cases k10 : q.kind = 10
         · rw [own_ten X a q k10]; exact h.setp hk a q.win q.p
         · cases hA : X.asks a q.win with
           | true => rw [own_ask X a q k2 k10 hA]; exact h1.asked q hi
           | false => rw [own_carry X a q k2 k10 hA]; exact h1.carried q hi
theorem V0.saves (h : V0 X k) (i : Int) (on : Bool) : V0 (X.save i on).2 k := by
 unfold Xs.save
 split
 · exact h
 · next hn => exact h.setsav fun _ e => hn (by omega)
theorem V0.manages (h : V0 X k) (a : Int) (q : Rq) (hi : I64 q.win) (ho : I64 q.other) : V0 (X.manage a q).2 k := by
 unfold Xs.manage
 split
 · exact h
 · split
   · exact h
   · split
     · exact h.tree (t_repar h.s hi ho q.x q.y).1 (inL_repar X.R q.win q.other q.x q.y X.L)
     · split
       · exact h.saves _ _
       · split
         · exact h
         · exact h.focus hi
theorem V0.others (h : V0 X k) (hk : k + 1 ≤ 1000) (a : Int) (q : Rq) (hi : I64 q.win) (ho : I64 q.other) : V0 (X.other a q).2 (k + 1) := by
 unfold Xs.other
 split
 · exact (h.manages a q hi ho).le (Nat.le_succ k) hk
 · exact h.changed hk a q hi
theorem V.done (h : V X k) (hk : k + 1 ≤ 1000) {a : Int} (ha : I64 a) (q : Rq) (hi : I64 q.win) (ho : I64 q.other) : V (X.do a q).2.2 (k + 1) := by
 unfold Xs.do
 split
 · exact h.le (Nat.le_succ k) hk
 · next hw =>
   split
   · refine h.created hk ?_ ha q ho
     unfold Xs.wrong at hw
     simp at hw
     exact hw.1.1.1
   · exact (h.toV0.others hk a q hi ho).look
theorem Srv.via2 {w0 W : World} (h : Srv w0 s Y X k) (h0 : Below w.heap.size w w0) (hW : Below w0.heap.size w0 W) {f : Nat} {args : Array Value} {err : Int} {L' : List Win}
  (hc : Calls Tryz.prog f args W fun ex w' => ex = .returned (.int .i64 err) ∧ CT X.R L' Y.t Y.l W w') :
  Calls Tryz.prog f args W fun ex w' => ex = .returned (.int .i64 err) ∧ SrvTo w s Y { X with L := L' } k w' ∧ w'.cell? ⟨s, 0, none⟩ = some (treeP Y.t) ∧ ∀ g T cs, Blk W g T cs → ¬ Y.foot s g → Blk w' g T cs :=
 hc.mono fun ex w' hh => by
  obtain ⟨col, h1⟩ := h.next hW
  obtain ⟨l', h2, h3⟩ := h1.treed hh.2
  exact ⟨hh.1, SrvTo.after (hW.on h0 h0.size) ⟨_, ⟨_, h2⟩, h3⟩, h2.srv.at_ (i := 0) (v := treeP Y.t) rfl, fun g T cs hg hn => h3.blk hg hn⟩
set_option maxRecDepth 100000 in
set_option maxHeartbeats 8000000 in
theorem manage_c (h : Srv w s Y X k) (hV : V0 X k) (hk : k + 1 ≤ 1000) {a : Int} (ha : 0 ≤ a) (q : Rq) (hi : I64 q.win) (ho : I64 q.other) :
   Calls Tryz.prog 69 #[srvP s, .int .i64 a, rqV q] w fun ex w' => ex = .returned (.int .i64 (X.manage a q).1) ∧ SrvTo w s Y (X.manage a q).2 (k + 1) w' := by
 obtain ⟨wb, hwb⟩ : ∃ wb, wb = w.alloc (.cells #[.int .i64 q.kind, .int .i64 q.win, .int .i64 q.other, .int .i64 q.x, .int .i64 q.y, .int .i64 q.a, .int .i64 q.e, .string q.p.name, .string q.p.typ, .string q.p.data] 37) := ⟨_, rfl⟩
 have hbel : Below w.heap.size w wb := by rw [hwb]; exact (Below.refl _ _).alloc (Nat.le_refl _) _
 have hbx : Blk wb w.heap.size 37 (rqL q) := by rw [hwb]; exact Blk.new w _ _
 have hs := h.next hbel
 obtain ⟨x0, x1, x2, x3, x4, x5, x6, x7, x8, x9⟩ := hbx.c10
 have HW := Lib.hid hwb
 have HB := Lib.hid hbel
 have HX := Lib.hid hbx
 have HQ := Lib.hid (fun W (hW : Below w.heap.size w W) => (SrvTo.same h hW).more (Nat.le_succ k))
 have hhas := has_c hs hV.s hi
 have H0 := Lib.hid (fun (W : World) (hW : Below wb.heap.size wb W) => (show W.cell? ⟨s, 0, none⟩ = some (treeP Y.t) from (hs.next hW).blk.at_ (i := 0) rfl))
 unfold Xs.manage
 by_cases h0 : a = 0
 · rw [if_neg (by simpa using h0)]
   subst h0
   cases ht : thereL X.R X.L q.win with
   | false =>
    rw [if_pos rfl]
    rw [ht] at hhas
    have HH := Lib.hid hhas
    clear h hV hs hbx hbel hhas ht ha
    go_enter Tryz.func69, Tryz.ntmps69
    go_upto_region 1 with fail
    rw [← HW.out]
    clear hwb
    go_wp2_with (first
      | (go_at_call 67; ((with_reducible refine (client_c _ _).mono ?_); rintro e w2 ⟨rfl, rfl⟩))
      | (go_at_call 92; ((with_reducible refine (HH.out).mono ?_); rintro e w1 ⟨rfl, hb⟩); have HB1 := Lib.hid hb; clear hb))
    go_ret
    exact ⟨rfl, HQ.out _ (HB1.out.on HB.out HB.out.size)⟩
   | true =>
    rw [if_neg (by decide)]
    rw [ht] at hhas
    have HH := Lib.hid hhas
    by_cases h8 : q.kind = 8
    · rw [if_pos h8]
      have HC := Lib.hid (fun (W : World) (hW : Below wb.heap.size wb W) => hs.via2 hbel hW ((t_repar hV.s hi ho q.x q.y).2.2 W Y.t Y.l (hs.next hW).tree))
      rw [h8] at x0
      have HFT := Lib.hid (show ¬ Y.foot s w.heap.size from fun hf => Nat.lt_irrefl _ (h.foot_lt hf))
      have HX2 := Lib.hid (show Blk wb w.heap.size 37 #[.int .i64 8, .int .i64 q.win, .int .i64 q.other, .int .i64 q.x, .int .i64 q.y, .int .i64 q.a, .int .i64 q.e, .string q.p.name, .string q.p.typ, .string q.p.data] from by rw [← h8]; exact hbx)
      clear h hV hs hbx hbel hhas ht ha h8
      go_enter Tryz.func69, Tryz.ntmps69
      go_upto_region 1 with fail
      rw [← HW.out]
      clear hwb
      go_upto_region 7 with (first
        | (go_at_call 67; ((with_reducible refine (client_c _ _).mono ?_); rintro e w2 ⟨rfl, rfl⟩))
        | (go_at_call 92; ((with_reducible refine (HH.out).mono ?_); rintro e w1 ⟨rfl, hb⟩); have HB1 := Lib.hid hb; clear x0 x1 x2 x3 x4 x5 x6 x7 x8 x9; obtain ⟨x0, x1, x2, x3, x4, x5, x6, x7, x8, x9⟩ := (HX2.out.next hb).c10; have b0 := H0.out _ hb; clear hb))
      have S0 : (fun wx : World => wx.cell? ⟨s, 0, none⟩ = some (treeP Y.t) ∧ wx.cell? ⟨w.heap.size, 1, none⟩ = some (.int .i64 q.win) ∧ wx.cell? ⟨w.heap.size, 2, none⟩ = some (.int .i64 q.other) ∧ wx.cell? ⟨w.heap.size, 3, none⟩ = some (.int .i64 q.x) ∧ wx.cell? ⟨w.heap.size, 4, none⟩ = some (.int .i64 q.y)) w1.drew := ⟨b0, x1, x2, x3, x4⟩
      refine wp_region_noPanic ?_
      refine wp_region_held_drew (S := fun wx => wx.cell? ⟨s, 0, none⟩ = some (treeP Y.t) ∧ wx.cell? ⟨w.heap.size, 1, none⟩ = some (.int .i64 q.win) ∧ wx.cell? ⟨w.heap.size, 2, none⟩ = some (.int .i64 q.other) ∧ wx.cell? ⟨w.heap.size, 3, none⟩ = some (.int .i64 q.x) ∧ wx.cell? ⟨w.heap.size, 4, none⟩ = some (.int .i64 q.y)) (by kernel_rfl) (by exact S0) (fun hHeld => ?_)
      refine tk 0 ?v0 rfl ?y0 ?r0
      case y0 => (intro q h; (try dsimp only at h); go_simp; (try with_reducible rfl))
      (try simp only [Act.put, p1, p3, p4, p5, p6])
      refine tk 1 ?v1 rfl ?y1 ?r1
      case y1 => (intro q h; (try dsimp only at h); go_simp; (try with_reducible rfl))
      (try simp only [Act.put, p1, p2, p3, p4, p5, p6])
      refine tk 2 ?v2 rfl ?y2 ?r2
      case y2 => (intro q h; (try dsimp only at h); go_simp; (try with_reducible rfl))
      (try simp only [Act.put, p1, p2, p3, p4, p5, p6])
      refine tk 3 ?v3 rfl ?y3 ?r3
      case y3 => (intro q h; (try dsimp only at h); go_simp; (try with_reducible rfl))
      (try simp only [Act.put, p1, p2, p3, p4, p5, p6])
      refine tk 4 ?v4 rfl ?y4 ?r4
      case y4 => (intro q h; (try dsimp only at h); go_simp; (try with_reducible rfl))
      (try simp only [Act.put, p1, p2, p3, p4, p5, p6])
      refine tk 5 ?v5 rfl ?y5 ?r5
      case y5 => (intro q h; (try dsimp only at h); go_simp; (try with_reducible rfl))
      (try simp only [Act.put, p1, p2, p3, p4, p5, p6])
      refine tk 6 ?v6 rfl ?y6 ?r6
      case y6 => (intro q h; (try dsimp only at h); go_simp; (try with_reducible rfl))
      (try simp only [Act.put, p1, p2, p3, p4, p5, p6])
      refine tk 7 ?v7 rfl ?y7 ?r7
      case y7 => (intro q h; (try dsimp only at h); go_simp; (try with_reducible rfl))
      (try simp only [Act.put, p1, p2, p3, p4, p5, p6])
      refine tk 8 ?v8 rfl ?y8 ?r8
      case y8 => (intro q h; (try dsimp only at h); go_simp; (try with_reducible rfl))
      (try simp only [Act.put, p1, p2, p3, p4, p5, p6])
      refine tk 9 ?v9 rfl ?y9 ?r9
      case y9 => (intro q h; (try dsimp only at h); go_simp; (try with_reducible rfl))
      (try simp only [Act.put, p1, p2, p3, p4, p5, p6])
      refine tk 10 ?v10 rfl ?y10 ?r10
      case y10 => (intro q h; (try dsimp only at h); go_simp; (try with_reducible rfl))
      (try simp only [Act.put, p1, p2, p3, p4, p5, p6])
      refine tk 11 ?v11 rfl ?y11 ?r11
      case y11 => (intro q h; (try dsimp only at h); go_simp; (try with_reducible rfl))
      (try simp only [Act.put, p1, p2, p3, p4, p5, p6])
      refine tk 12 ?v12 rfl ?y12 ?r12
      case y12 => (intro q h; (try dsimp only at h); go_simp; (try with_reducible rfl))
      (try simp only [Act.put, p1, p2, p3, p4, p5, p6])
      refine tk 13 ?v13 rfl ?y13 ?r13
      case y13 => (intro q h; (try dsimp only at h); go_simp; (try with_reducible rfl))
      (try simp only [Act.put, p1, p2, p3, p4, p5, p6])
      refine tk 14 ?v14 rfl ?y14 ?r14
      case y14 => (intro q h; (try dsimp only at h); go_simp; (try with_reducible rfl))
      (try simp only [Act.put, p1, p2, p3, p4, p5, p6])
      refine wpAnyH_ready (rs := [15]) (by kernel_rfl) (by simp) ?_
      refine AllReadyH.cons rfl (fun K hK => ?_) AllReadyH.nil
      go_simp
      refine (HC.out _ HB1.out.drew).mono ?_
      rintro ex w4 ⟨rfl, T2, c0, hk⟩; have HS := Lib.hid T2; clear T2; obtain ⟨-, y1, y2, y3, y4, -⟩ := (hk _ _ _ ((HX2.out.next HB1.out).drew) HFT.out).c10; have S1 := And.intro c0 (And.intro y1 (And.intro y2 (And.intro y3 y4))); clear hk
      (try dsimp only)
      refine hK.out _ _ (by exact S1) (fun hHeld => ?_)
      clear hK K
      (try simp only [Act.put, p1, p2, p3, p4, p5, p6])
      refine tk 16 ?v16 rfl ?y16 ?r16
      case y16 => (intro q h; (try dsimp only at h); go_simp; (try with_reducible rfl))
      (try simp only [Act.put, p1, p2, p3, p4, p5, p6])
      refine wpAnyH_done (by kernel_rfl) ?_ _
      refine NoPanic.normal ?_
      go_wp2_with fail
      go_ret
      exact ⟨rfl, HS.out.more (Nat.le_succ k)⟩
    · rw [if_neg h8]
      have h8' : (q.kind == 8) = false := by simpa using h8
      have hin : q.win = 0 ∨ inM X.M q.win := by
        rcases (there_iff X.R X.L q.win).1 ht with e | e
        · exact .inl e
        · exact .inr ((hV.same _).1 e)
      by_cases h11 : q.kind = 11
      · rw [if_pos h11]
        have HC := Lib.hid (fun (W : World) (hW : Below wb.heap.size wb W) (on : Bool) => (show Calls Tryz.prog 93 #[srvP s, .int .i64 q.win, .bool on] W fun ex w' => ex = .returned (.int .i64 (X.save q.win on).1) ∧ SrvTo w s Y (X.save q.win on).2 (k + 1) w' from
          (ssave_c (hs.next hW) hV hi hin (by omega) on).mono fun ex w' hh => ⟨hh.1, SrvTo.after (hW.on hbel hbel.size) hh.2⟩))
        rw [h11] at x0
        have HX2 := Lib.hid (show Blk wb w.heap.size 37 #[.int .i64 11, .int .i64 q.win, .int .i64 q.other, .int .i64 q.x, .int .i64 q.y, .int .i64 q.a, .int .i64 q.e, .string q.p.name, .string q.p.typ, .string q.p.data] from by rw [← h11]; exact hbx)
        obtain ⟨on, hon⟩ : ∃ on, on = decide (q.other ≠ 0) := ⟨_, rfl⟩
        have hon2 : (q.other != 0) = on := by rw [hon]; by_cases e : q.other = 0 <;> simp [e]
        rw [← hon]
        clear h hV hs hbx hbel hhas ht ha h8 h11 hin hon
        go_enter Tryz.func69, Tryz.ntmps69
        go_upto_region 1 with fail
        rw [← HW.out]
        clear hwb
        go_wp2_with (first
          | (go_at_call 67; ((with_reducible refine (client_c _ _).mono ?_); rintro e w2 ⟨rfl, rfl⟩))
          | (go_at_call 92; ((with_reducible refine (HH.out).mono ?_); rintro e w1 ⟨rfl, hb⟩); have HB1 := Lib.hid hb; clear x0 x1 x2 x3 x4 x5 x6 x7 x8 x9; obtain ⟨x0, x1, x2, x3, x4, x5, x6, x7, x8, x9⟩ := (HX2.out.next hb).c10; clear hb)
          | (go_at_call 93; ((with_reducible refine (HC.out _ HB1.out on).mono ?_); rintro e w3 ⟨rfl, T3⟩); have HZ := Lib.hid T3; clear T3))
        go_ret
        exact ⟨rfl, HZ.out⟩
      · rw [if_neg h11]
        have h11' : (q.kind == 11) = false := by simpa using h11
        have HC := Lib.hid (fun (W : World) (hW : Below wb.heap.size wb W) => (show Calls Tryz.prog 94 #[srvP s, .int .i64 q.win] W fun ex w' => ex = .returned (.int .i64 (if q.win ≠ 0 ∧ viewL X.R X.L q.win = false then 8 else 0)) ∧ SrvTo w s Y (if q.win ≠ 0 ∧ viewL X.R X.L q.win = false then X else { X with F := q.win }) (k + 1) w' from
          (setfocus_c (hs.next hW) hV.s hi).mono fun ex w' hh => ⟨hh.1, (SrvTo.after (hW.on hbel hbel.size) hh.2).more (Nat.le_succ k)⟩))
        have hpr : (if q.win ≠ 0 ∧ viewL X.R X.L q.win = false then ((8 : Int), X) else (0, { X with F := q.win })) = ((if q.win ≠ 0 ∧ viewL X.R X.L q.win = false then 8 else 0), (if q.win ≠ 0 ∧ viewL X.R X.L q.win = false then X else { X with F := q.win })) := by split <;> rfl
        rw [hpr]
        obtain ⟨er, her⟩ : ∃ er : Int, er = (if q.win ≠ 0 ∧ viewL X.R X.L q.win = false then 8 else 0) := ⟨_, rfl⟩
        obtain ⟨X2, hX2⟩ : ∃ X2 : Xs, X2 = (if q.win ≠ 0 ∧ viewL X.R X.L q.win = false then X else { X with F := q.win }) := ⟨_, rfl⟩
        rw [← her, ← hX2] at HC ⊢
        clear h hV hs hbx hbel hhas ht ha h8 h11 hin hpr her hX2
        go_enter Tryz.func69, Tryz.ntmps69
        go_upto_region 1 with fail
        rw [← HW.out]
        clear hwb
        go_wp2_with (first
          | (go_at_call 67; ((with_reducible refine (client_c _ _).mono ?_); rintro e w2 ⟨rfl, rfl⟩))
          | (go_at_call 92; ((with_reducible refine (HH.out).mono ?_); rintro e w1 ⟨rfl, hb⟩); have HB1 := Lib.hid hb; clear x0 x1 x2 x3 x4 x5 x6 x7 x8 x9; obtain ⟨x0, x1, x2, x3, x4, x5, x6, x7, x8, x9⟩ := (HX.out.next hb).c10; clear hb)
          | (go_at_call 94; ((with_reducible refine (HC.out _ HB1.out).mono ?_); rintro e w3 ⟨rfl, T3⟩); have HZ := Lib.hid T3; clear T3))
        go_ret
        exact ⟨rfl, HZ.out⟩
 · rw [if_pos h0]
   have h1 : (0 : Int) < a := by omega
   clear h hV hs hbx hhas ha h0
   go_enter Tryz.func69, Tryz.ntmps69
   go_upto_region 1 with fail
   rw [← HW.out]
   clear hwb
   go_wp2_with (go_at_call 67; ((with_reducible refine (client_c _ _).mono ?_); rintro e w2 ⟨rfl, rfl⟩))
   go_ret
   exact ⟨rfl, HQ.out _ hbel⟩
end
end Go.Proofs.YtnhchpiafchdgaaGreat
namespace Go.Proofs.YtnhchpiafchdgaaGreat
open Go.RowKit Go.Shelf Go.Maps
section
variable {w w' : World} {s : Nat} {Y : Yl} {X : Xs} {k m : Nat}
def Xs.answer (X : Xs) (a : Int) (q : Rq) : Int × Int × Xs := if q.kind = 1 then X.create a q else (0, X.other a q)
set_option maxRecDepth 100000 in
set_option maxHeartbeats 8000000 in
theorem answer_c (h : Srv w s Y X k) (hV : V0 X k) (hk : k + 1 ≤ 1000) {a : Int} (ha : 0 ≤ a) (q : Rq) (hi : I64 q.win) (ho : I64 q.other) (z1 : q.p.name.size ≤ maxLen) (z2 : q.p.typ.size ≤ maxLen) :
   Calls Tryz.prog 46 #[srvP s, .int .i64 a, rqV q] w fun ex w' => ex = .returned (.tuple #[.int .i64 (X.answer a q).1, .int .i64 (X.answer a q).2.1]) ∧ SrvTo w s Y (X.answer a q).2.2 (k + 1) w' := by
 obtain ⟨wb, hwb⟩ : ∃ wb, wb = w.alloc (.cells #[.int .i64 q.kind, .int .i64 q.win, .int .i64 q.other, .int .i64 q.x, .int .i64 q.y, .int .i64 q.a, .int .i64 q.e, .string q.p.name, .string q.p.typ, .string q.p.data] 37) := ⟨_, rfl⟩
 have hbel : Below w.heap.size w wb := by rw [hwb]; exact (Below.refl _ _).alloc (Nat.le_refl _) _
 have hbx : Blk wb w.heap.size 37 (rqL q) := by rw [hwb]; exact Blk.new w _ _
 have hs := h.next hbel
 obtain ⟨x0, x1, x2, x3, x4, x5, x6, x7, x8, x9⟩ := hbx.c10
 have HW := Lib.hid hwb
 unfold Xs.answer
 by_cases h1 : q.kind = 1
 · rw [if_pos h1]
   have hC := (screate_c hs hV hk ha q ho).mono (fun ex w' hh => (⟨hh.1, SrvTo.after hbel hh.2⟩ : ex = .returned (.tuple #[.int .i64 (X.create a q).1, .int .i64 (X.create a q).2.1]) ∧ SrvTo w s Y (X.create a q).2.2 (k + 1) w'))
   have HC := Lib.hid hC
   rw [h1] at x0
   clear h hV hs hbx hbel ha h1 hC
   go_enter Tryz.func46, Tryz.ntmps46
   go_upto_region 1 with fail
   rw [← HW.out]
   clear hwb
   go_wp2_with (go_at_call 68; ((with_reducible refine (HC.out).mono ?_); rintro e w3 ⟨rfl, T3⟩); have HZ := Lib.hid T3; clear T3)
   go_ret2
   exact ⟨rfl, HZ.out⟩
 · rw [if_neg h1]
   have h1' : (q.kind == 1) = false := by simpa using h1
   unfold Xs.other
   cases hm : isManage q.kind with
   | true =>
    rw [if_pos rfl]
    have hC := (manage_c hs hV hk ha q hi ho).mono (fun ex w' hh => (⟨hh.1, SrvTo.after hbel hh.2⟩ : ex = .returned (.int .i64 (X.manage a q).1) ∧ SrvTo w s Y (X.manage a q).2 (k + 1) w'))
    have HC := Lib.hid hC
    have hk3 : q.kind = 9 ∨ q.kind = 11 ∨ q.kind = 8 := by
     unfold isManage at hm
     simpa using hm
    have hk4 : ((q.kind == 9) = true) ∨ ((q.kind == 9) = false ∧ (q.kind == 11) = true) ∨ ((q.kind == 9) = false ∧ (q.kind == 11) = false ∧ (q.kind == 8) = true) := by
     rcases hk3 with e | e | e
     · exact .inl (by simp [e])
     · exact .inr (.inl (by simp [e]))
     · exact .inr (.inr (by simp [e]))
    clear h hV hs hbx hbel ha h1 hC hm hk3
    rcases hk4 with k1 | ⟨k1, k2⟩ | ⟨k1, k2, k3⟩
    all_goals
     go_enter Tryz.func46, Tryz.ntmps46
     go_upto_region 1 with fail
     rw [← HW.out]
     clear hwb
     go_wp2_with (go_at_call 69; ((with_reducible refine (HC.out).mono ?_); rintro e w3 ⟨rfl, T3⟩); have HZ := Lib.hid T3; clear T3)
     go_ret2
     exact ⟨rfl, HZ.out⟩
   | false =>
    rw [if_neg (by decide)]
    have hC := (change_c hs hV hk ha q hi z1 z2).mono (fun ex w' hh => (⟨hh.1, SrvTo.after hbel hh.2⟩ : ex = .returned (.int .i64 (X.change a q).1) ∧ SrvTo w s Y (X.change a q).2 (k + 1) w'))
    have HC := Lib.hid hC
    have hk3 : (q.kind == 9) = false ∧ (q.kind == 11) = false ∧ (q.kind == 8) = false := by
     unfold isManage at hm
     simpa using hm
    obtain ⟨k1, k2, k3⟩ := hk3
    clear h hV hs hbx hbel ha h1 hC hm
    go_enter Tryz.func46, Tryz.ntmps46
    go_upto_region 1 with fail
    rw [← HW.out]
    clear hwb
    go_wp2_with (go_at_call 70; ((with_reducible refine (HC.out).mono ?_); rintro e w3 ⟨rfl, T3⟩); have HZ := Lib.hid T3; clear T3)
    go_ret2
    exact ⟨rfl, HZ.out⟩
set_option maxRecDepth 100000 in
set_option maxHeartbeats 8000000 in
theorem do_c (h : Srv w s Y X k) (hV : V X k) (hk : k + 1 ≤ 1000) {a : Int} (ha : I64 a) (q : Rq) (hi : I64 q.win) (ho : I64 q.other) (z1 : q.p.name.size ≤ maxLen) (z2 : q.p.typ.size ≤ maxLen) :
  Calls Tryz.prog 20 #[srvP s, .int .i64 a, rqV q] w fun ex w' => ex = .returned (.tuple #[.int .i64 (X.do a q).1, .int .i64 (X.do a q).2.1]) ∧ SrvTo w s Y (X.do a q).2.2 (k + 1) w' := by
 obtain ⟨wb, hwb⟩ : ∃ wb, wb = w.alloc (.cells #[.int .i64 q.kind, .int .i64 q.win, .int .i64 q.other, .int .i64 q.x, .int .i64 q.y, .int .i64 q.a, .int .i64 q.e, .string q.p.name, .string q.p.typ, .string q.p.data] 37) := ⟨_, rfl⟩
 have hbel : Below w.heap.size w wb := by rw [hwb]; exact (Below.refl _ _).alloc (Nat.le_refl _) _
 have hbx : Blk wb w.heap.size 37 (rqL q) := by rw [hwb]; exact Blk.new w _ _
 have hs := h.next hbel
 obtain ⟨x0, x1, x2, x3, x4, x5, x6, x7, x8, x9⟩ := hbx.c10
 have HW := Lib.hid hwb
 have HB := Lib.hid hbel
 have HN := Lib.hid (windows_c hs)
 have hA := acts_c hs a
 have HQ := Lib.hid ((SrvTo.same h hbel).more (Nat.le_succ k))
 obtain ⟨ac, hac⟩ : ∃ ac, ac = (if a = 0 then X.G else decide (0 < a)) := ⟨_, rfl⟩
 rw [← hac] at hA
 have HA := Lib.hid hA
 have hwr : X.wrong a q.kind = (!ac || decide (q.kind < 1) || decide (11 < q.kind)) := by
  unfold Xs.wrong
  rw [hac]
  by_cases h0 : a = 0
  · subst h0; simp
  · by_cases h1 : a < 0
    · have : ¬ (0 < a) := by omega
      simp [h0, h1, this]
    · have : 0 < a := by omega
      simp [h0, h1, this]
 cases hw : X.wrong a q.kind with
 | true =>
  rw [show X.do a q = (0, 1, X) by unfold Xs.do; rw [if_pos hw]]
  rw [hw] at hwr
  have hcs : ac = false ∨ (ac = true ∧ q.kind < 1) ∨ (ac = true ∧ ¬ q.kind < 1 ∧ 11 < q.kind) := by
    cases ac with
    | false => exact .inl rfl
    | true =>
      by_cases h1 : q.kind < 1
      · exact .inr (.inl ⟨rfl, h1⟩)
      · refine .inr (.inr ⟨rfl, h1, ?_⟩)
        simpa [h1] using hwr
  clear h hV hs hbx hbel ha hA hac hwr hw
  rcases hcs with rfl | ⟨rfl, h1⟩ | ⟨rfl, h1, h2⟩
  all_goals
    go_enter Tryz.func20, Tryz.ntmps20
    go_upto_region 1 with fail
    rw [← HW.out]
    clear hwb
    go_wp2_with (first
      | (go_at_call 43; ((with_reducible refine (HN.out).mono ?_); rintro e w3 ⟨rfl, rfl⟩))
      | (go_at_call 45; ((with_reducible refine (HA.out).mono ?_); rintro e w3 ⟨rfl, rfl⟩)))
    go_ret2
    exact ⟨rfl, HQ.out⟩
 | false =>
  rw [hw] at hwr
  have hz : ac = true ∧ ¬ q.kind < 1 ∧ ¬ 11 < q.kind := by
    cases ac with
    | false => simp at hwr
    | true =>
      refine ⟨rfl, ?_, ?_⟩
      · intro h1; simp [h1] at hwr
      · intro h1; simp [h1] at hwr
  obtain ⟨z3, z4, z5⟩ := hz
  have ha0 : 0 ≤ a := by
    by_cases h1 : a = 0
    · omega
    · rw [z3, if_neg h1] at hac
      have := of_decide_eq_true hac.symm
      omega
  have hX : (X.do a q) = ((X.answer a q).1, (X.answer a q).2.1, (X.answer a q).2.2.look) := by
    unfold Xs.do Xs.answer
    rw [if_neg (by rw [hw]; decide)]
    split
    · next h1 =>
      have hv := hV.created hk ha0 ha q ho
      rw [look_eq _ hv.foc]
    · rfl
  have hV1 : V0 (X.answer a q).2.2 (k + 1) := by
    unfold Xs.answer
    split
    · exact (hV.created hk ha0 ha q ho).toV0
    · exact hV.toV0.others hk a q hi ho
  have HC := Lib.hid (answer_c hs hV.toV0 hk ha0 q hi ho z1 z2)
  rw [hX]
  obtain ⟨n, hn⟩ : ∃ n, n = (X.answer a q).1 := ⟨_, rfl⟩
  obtain ⟨er, her⟩ : ∃ er, er = (X.answer a q).2.1 := ⟨_, rfl⟩
  obtain ⟨X1, hX1⟩ : ∃ X1, X1 = (X.answer a q).2.2 := ⟨_, rfl⟩
  rw [← hn, ← her, ← hX1] at HC ⊢
  rw [← hX1] at hV1
  have HV1 := Lib.hid hV1
  rw [z3] at HA
  clear h hV hs hbx hbel ha hA hac hwr hw ha0 hX hV1 hn her hX1 z3
  go_enter Tryz.func20, Tryz.ntmps20
  go_upto_region 1 with fail
  rw [← HW.out]
  clear hwb
  go_wp2_with (first
    | (go_at_call 43; ((with_reducible refine (HN.out).mono ?_); rintro e w3 ⟨rfl, rfl⟩))
    | (go_at_call 45; ((with_reducible refine (HA.out).mono ?_); rintro e w3 ⟨rfl, rfl⟩))
    | (go_at_call 46; ((with_reducible refine (HC.out).mono ?_); rintro e w4 ⟨rfl, Y1, S1, U1⟩); have HS := Lib.hid (And.intro S1 U1); clear S1 U1)
    | (go_at_call 47; ((with_reducible refine (keep_c HS.out.1 HV1.out.s HV1.out.f64).mono ?_); rintro e w5 ⟨rfl, T5⟩); have HZ := Lib.hid (SrvTo.after HB.out (SrvTo.trans HS.out.2 T5)); clear T5))
  go_ret2
  exact ⟨rfl, HZ.out⟩
end
end Go.Proofs.YtnhchpiafchdgaaGreat
namespace Go.Proofs.YtnhchpiafchdgaaGreat
open Go.RowKit Go.Shelf Go.Maps
theorem nd_begin (R : RT) : ndL R [] = nd0 R.x R.y R.w R.h := by
 funext i
 unfold ndL getR nd0 upd findL
 by_cases hi : i = 0
 · rw [if_pos hi, if_pos hi]; rfl
 · rw [if_neg hi, if_neg hi]; rfl
theorem sane_begin (R : RT) (hl : R.last = 0) : Sane R [] 0 := ⟨⟨List.nodup_nil, (fun v hv => by cases hv), (fun v hv => by cases hv)⟩, by omega, by omega, Nat.le_refl _, by omega⟩
theorem V.start (x y a e : Int) : V (Xs.start x y a e) 0 :=
 ⟨⟨sane_begin _ rfl, List.Pairwise.nil, fun i => ⟨(fun ⟨v, hv, _⟩ => by cases hv), (fun ⟨m, hm, _⟩ => by cases hm)⟩, (fun m hm => by cases hm), (by show (0 : Nat) ≤ 4096; omega), Pp.HOk.begin, Nat.le_refl _, i64_zero⟩, .inl rfl⟩
def SrvNew (w : World) (s : Nat) (X : Xs) (k : Nat) (w' : World) : Prop := ∃ Y, Srv w' s Y X k ∧ Below w.heap.size w w' ∧ ∀ b, Y.foot s b → w.heap.size ≤ b
section
variable {w w' : World} {s : Nat} {Y : Yl} {X : Xs} {k m : Nat}
theorem snew_wrong {x y a b : Int} (w : World) (hr : emptyB x y a b = true) : Calls Tryz.prog 8 #[.agg #[.int .i64 x, .int .i64 y, .int .i64 a, .int .i64 b]] w fun e w' => e = .returned (.tuple #[.pointer none, .int .i64 10]) ∧ Below w.heap.size w w' := by
 have HR := Lib.hid (fun W => new_wrong W hr)
 clear hr
 go_enter Tryz.func8, Tryz.ntmps8
 go_wp2_with (go_at_call 33; ((with_reducible refine (HR.out _).mono ?_); rintro e w' ⟨rfl, hb⟩))
 go_ret2
 exact ⟨rfl, hb.on ((Below.refl _ _).alloc (Nat.le_refl _) _) (by simp)⟩
theorem srv_made {w0 w1 w2 : World} {x y a e : Int} {t : Nat} {l : Lay} {tl : Pp.Tl} (hB : Below w0.heap.size w0 w1) (hT : TreeH w1 t l (nd0 x y a e) 0 1) (hf : ∀ b, l.foot t b → w0.heap.size ≤ b)
   (h2 : Pp.TT w2 tl [] 0) (hb2 : Below w1.heap.size w1 w2) (hf2 : ∀ b, tl.foot b → w1.heap.size ≤ b) :
   SrvNew w0 (w2.heap.size + 2) (Xs.start x y a e) 0 (((w2.alloc (.map #[] 0)).alloc (.map #[] 0)).alloc (.cells #[treeP t, Pp.tabP tl.t, .map (some w2.heap.size), .map (some (w2.heap.size + 1)), .slice none 0 0, .int .i64 0, .bool true] 80)) := by
 have hs1 := hB.size
 have hs2 := hb2.size
 have b3 : Below w2.heap.size w2 (((w2.alloc (.map #[] 0)).alloc (.map #[] 0)).alloc (.cells #[treeP t, Pp.tabP tl.t, .map (some w2.heap.size), .map (some (w2.heap.size + 1)), .slice none 0 0, .int .i64 0, .bool true] 80)) :=
   (((Below.refl _ w2).alloc (Nat.le_refl _) _).alloc (by simp) _).alloc (by simp; omega) _
 have hsz : (((w2.alloc (.map #[] 0)).alloc (.map #[] 0)).alloc (.cells #[treeP t, Pp.tabP tl.t, .map (some w2.heap.size), .map (some (w2.heap.size + 1)), .slice none 0 0, .int .i64 0, .bool true] 80)).heap.size = w2.heap.size + 3 := by simp
 have hbs : Blk (((w2.alloc (.map #[] 0)).alloc (.map #[] 0)).alloc (.cells #[treeP t, Pp.tabP tl.t, .map (some w2.heap.size), .map (some (w2.heap.size + 1)), .slice none 0 0, .int .i64 0, .bool true] 80)) (w2.heap.size + 2) 80 #[treeP t, Pp.tabP tl.t, .map (some w2.heap.size), .map (some (w2.heap.size + 1)), .slice none 0 0, .int .i64 0, .bool true] := by
   have h := Blk.new ((w2.alloc (.map #[] 0)).alloc (.map #[] 0)) 80 #[treeP t, Pp.tabP tl.t, .map (some w2.heap.size), .map (some (w2.heap.size + 1)), .slice none 0 0, .int .i64 0, .bool true]
   rwa [show ((w2.alloc (.map #[] 0)).alloc (.map #[] 0)).heap.size = w2.heap.size + 2 by simp] at h
 have hm1 : MapG eltN 0 (((w2.alloc (.map #[] 0)).alloc (.map #[] 0)).alloc (.cells #[treeP t, Pp.tabP tl.t, .map (some w2.heap.size), .map (some (w2.heap.size + 1)), .slice none 0 0, .int .i64 0, .bool true] 80)) w2.heap.size (fun _ => none) 0 :=
   ((MapG.made w2).next ((Below.refl _ _).alloc (Nat.le_refl _) _)).next ((Below.refl _ _).alloc (Nat.le_refl _) _)
 have hm2 : MapG eltU () (((w2.alloc (.map #[] 0)).alloc (.map #[] 0)).alloc (.cells #[treeP t, Pp.tabP tl.t, .map (some w2.heap.size), .map (some (w2.heap.size + 1)), .slice none 0 0, .int .i64 0, .bool true] 80)) (w2.heap.size + 1) (fun _ => none) 0 := by
   have h := (MapG.made (E := eltU) (z := ()) (w2.alloc (.map #[] 0))).next ((Below.refl _ _).alloc (Nat.le_refl _) (.cells #[treeP t, Pp.tabP tl.t, .map (some w2.heap.size), .map (some (w2.heap.size + 1)), .slice none 0 0, .int .i64 0, .bool true] 80))
   rwa [show (w2.alloc (.map #[] 0)).heap.size = w2.heap.size + 1 by simp] at h
 generalize ((w2.alloc (.map #[] 0)).alloc (.map #[] 0)).alloc (.cells #[treeP t, Pp.tabP tl.t, .map (some w2.heap.size), .map (some (w2.heap.size + 1)), .slice none 0 0, .int .i64 0, .bool true] 80) = w3 at b3 hsz hbs hm1 hm2 ⊢
 have hTl : ∀ b, l.foot t b → b < w1.heap.size := fun b hb => hT.foot_lt hb
 have h2l : ∀ b, tl.foot b → b < w2.heap.size := fun b hb => h2.lt hb
 refine ⟨⟨t, l, tl, w2.heap.size, w2.heap.size + 1, .slice none 0 0⟩, ⟨fun b => if b < w1.heap.size then 1 else if b < w2.heap.size then 2 else if b = w2.heap.size then 3 else if b = w2.heap.size + 1 then 4 else 0, hbs, ?_, h2.next b3, ⟨0, Nat.le_refl _, hm1⟩, ⟨0, Nat.le_refl _, hm2⟩, OwK.nil _ _, ?_, ?_, ?_, ?_, ?_, fun b hb => by cases hb⟩, ?_, ?_⟩
 · have h4 : TreeH w3 t l (nd0 x y a e) 0 1 := (hT.next hb2).next b3
   rw [← nd_begin ⟨x, y, a, e, 0⟩] at h4
   exact h4
 · rintro b rfl
   refine ⟨by omega, ?_⟩
   dsimp only
   rw [if_neg (by omega), if_neg (by omega), if_neg (by omega), if_neg (by omega)]
 · intro b hb
   have := hTl b hb
   exact ⟨by omega, by dsimp only; rw [if_pos this]⟩
 · intro b hb
   have := h2l b hb
   have := hf2 b hb
   refine ⟨by omega, ?_⟩
   dsimp only
   rw [if_neg (by omega), if_pos (by omega)]
 · rintro b rfl
   refine ⟨by show w2.heap.size < _; omega, ?_⟩
   dsimp only
   rw [if_neg (by omega), if_neg (by omega), if_pos rfl]
 · rintro b rfl
   refine ⟨by show w2.heap.size + 1 < _; omega, ?_⟩
   dsimp only
   rw [if_neg (by omega), if_neg (by omega), if_neg (by omega), if_pos rfl]
 · exact (hB.trans (hb2.mono hs1)).trans (b3.mono (by omega))
 · intro b hb
   rcases hb with hb | hb | hb | hb | hb | hb
   · omega
   · exact hf b hb
   · have := hf2 b hb; omega
   · have hb' : b = w2.heap.size := hb
     omega
   · have hb' : b = w2.heap.size + 1 := hb
     omega
   · cases hb
set_option maxRecDepth 100000 in
theorem snew_c {x y a b : Int} (w : World) (hr : emptyB x y a b = false) : Calls Tryz.prog 8 #[.agg #[.int .i64 x, .int .i64 y, .int .i64 a, .int .i64 b]] w fun e w' => ∃ s, e = .returned (.tuple #[srvP s, .int .i64 0]) ∧ SrvNew w s (Xs.start x y a b) 0 w' := by
 have hmm := @run_makeMap Tryz.prog
 obtain ⟨wb, hwb⟩ : ∃ wb, wb = w.alloc (.cells #[.int .i64 x, .int .i64 y, .int .i64 a, .int .i64 b] 23) := ⟨_, rfl⟩
 have hbel : Below w.heap.size w wb := by rw [hwb]; exact (Below.refl _ _).alloc (Nat.le_refl _) _
 have hbx : Blk wb w.heap.size 23 #[.int .i64 x, .int .i64 y, .int .i64 a, .int .i64 b] := by rw [hwb]; exact Blk.new w _ _
 obtain ⟨⟨x0, x1, x2, x3⟩, -⟩ := hbx.c4
 have HN := Lib.hid (new_c wb hr)
 have HP := Lib.hid (fun W => Pp.tt_new W)
 have HW := Lib.hid hwb
 have HB := Lib.hid hbel
 clear hr hbel hbx
 go_enter Tryz.func8, Tryz.ntmps8
 go_upto_region 1 with fail
 rw [← HW.out]
 clear hwb
 go_wp2_with (first
  | (go_at_call 33; ((with_reducible refine (HN.out).mono ?_); rintro e w1 ⟨t, rfl, hT⟩); have HT := Lib.hid hT; clear hT)
  | (go_at_call 34; ((with_reducible refine (HP.out _).mono ?_); rintro e w2 ⟨tl, rfl, hP⟩); have HPP := Lib.hid hP; clear hP))
 go_ret2
 obtain ⟨l, -, h1, h2, h3⟩ := HT.out
 obtain ⟨h4, h5, h6⟩ := HPP.out
 obtain ⟨Y, k1, k2, k3⟩ := srv_made h2 h1 h3 h4 h5 h6
 exact ⟨_, rfl, Y, k1, k2.on HB.out HB.out.size, fun b hb => Nat.le_trans HB.out.size (k3 b hb)⟩
theorem rect8_c (x y a b : Int) (w : World) : Calls Tryz.prog 16 #[.int .i64 x, .int .i64 y, .int .i64 a, .int .i64 b] w fun e w' => e = .returned (.agg #[.int .i64 x, .int .i64 y, .int .i64 a, .int .i64 b]) ∧ Below w.heap.size w w' := by
 go_enter Tryz.func16, Tryz.ntmps16
 go_wp2_with fail
 refine bodyPost_ret (v := .agg #[.int .i64 x, .int .i64 y, .int .i64 a, .int .i64 b]) (by simp [results, Tryz.results16, go_sem]) rfl ?_
 exact ⟨rfl, (Below.refl _ w).alloc (Nat.le_refl _) _⟩
theorem begun_c (w : World) : Calls Tryz.prog 15 #[] w fun e w' => ∃ s, e = .returned (srvP s) ∧ SrvNew w s (Xs.start 0 0 100 100) 0 w' := by
 have HR := Lib.hid (fun W => rect8_c 0 0 100 100 W)
 have HN := Lib.hid (fun W => snew_c (x := 0) (y := 0) (a := 100) (b := 100) W (by decide))
 go_enter Tryz.func15, Tryz.ntmps15
 go_wp2_with (first
  | (go_at_call 16; ((with_reducible refine (HR.out _).mono ?_); rintro e w1 ⟨rfl, hb⟩); have HB1 := Lib.hid hb; clear hb)
  | (go_at_call 8; ((with_reducible refine (HN.out _).mono ?_); rintro e w2 ⟨s, rfl, hS⟩); have HS := Lib.hid hS; clear hS))
 go_ret
 obtain ⟨Y, k1, k2, k3⟩ := HS.out
 exact ⟨_, rfl, Y, k1, k2.on HB1.out HB1.out.size, fun b hb => Nat.le_trans HB1.out.size (k3 b hb)⟩
end
abbrev RdE (w : World) (v : Value) (l : List Ev) : Prop := RdK encE 7 w v l
set_option maxRecDepth 100000 in
set_option maxHeartbeats 4000000 in
theorem evs_same (va vb : Value) (a : List Ev) (w : World) (ha : RdE w va a) (hb : RdE w vb a) (hla : a.length ≤ 1048576) :
  Calls Tryz.prog 27 #[va, vb] w fun e w' => e = .returned (.bool true) ∧ Below w.heap.size w w' := by
 obtain ⟨p, c, rfl, ha⟩ := ha
 obtain ⟨p', c', rfl, hb⟩ := hb
 have HA := Lib.hid ha
 have HB := Lib.hid hb
 obtain ⟨n, hn⟩ : ∃ n, n = a.length := ⟨_, rfl⟩
 rw [← hn] at hla ⊢
 have HN := Lib.hid hn
 clear ha hb hn
 go_enter Tryz.func27, Tryz.ntmps27
 go_wp2_with fail
 go_loopw [5] (fun v wr => ∃ k q : Nat, k ≤ n ∧ v = .int .i64 k ∧ wr = w.drewN q) (fun v _ => n - (intOf v).toNat)
 case atStart => exact ⟨0, 0, Nat.zero_le _, rfl, rfl⟩
 case round =>
  obtain ⟨k, q, hk, rfl, rfl⟩ := hrel
  by_cases hlt : k < n
  · obtain ⟨u, hu⟩ : ∃ u, a[k]? = some u := ⟨_, List.getElem?_eq_getElem (by rw [← HN.out]; exact hlt)⟩
    obtain ⟨g, o, rfl, -, h1⟩ := HA.out k u hu
    obtain ⟨g', o', rfl, -, h2⟩ := HB.out k u hu
    clear hu
    have r0 := h1 0 _ rfl
    have r1 := h1 1 _ rfl
    have r2 := h1 2 _ rfl
    have r3 := h1 3 _ rfl
    have r4 := h1 4 _ rfl
    have r5 := h1 5 _ rfl
    have r6 := h1 6 _ rfl
    have s0 := h2 0 _ rfl
    have s1 := h2 1 _ rfl
    have s2 := h2 2 _ rfl
    have s3 := h2 3 _ rfl
    have s4 := h2 4 _ rfl
    have s5 := h2 5 _ rfl
    have s6 := h2 6 _ rfl
    simp only [Nat.add_zero] at r0 s0
    clear h1 h2
    have hi0 : (0 : Int) ≤ (k : Int) := by omega
    have hi1 : (k : Int) < (n : Int) := by omega
    go_wp2_with fail
    go_quiet (fail)
    go_wp2_with fail
    go_roundw
    case rel => exact ⟨k + 1, _, by omega, by go_num, rfl⟩
    case measure => simp [intOf]; omega
  · go_wp2_with fail
    go_ret
    exact ⟨rfl, below_drewN (Below.refl _ _) _⟩
theorem evs_len (p p' : Option Addr) (n n' c c' : Nat) (w : World) (hn : n ≠ n') :
  Calls Tryz.prog 27 #[.slice p n c, .slice p' n' c'] w fun e w' => e = .returned (.bool false) ∧ Below w.heap.size w w' := by
 have h1 : ¬ (n : Int) = (n' : Int) := by omega
 go_enter Tryz.func27, Tryz.ntmps27
 go_wp2_with fail
 go_ret
 exact ⟨rfl, Below.refl _ _⟩
end Go.Proofs.YtnhchpiafchdgaaGreat
namespace Go.Proofs.YtnhchpiafchdgaaGreat
open Go.RowKit Go.Shelf Go.Maps
section
variable {w : World} {s : Nat} {Y : Yl} {X : Xs} {k m : Nat}
set_option maxHeartbeats 4000000 in
theorem landing_c (h : Srv w s Y X k) (hS : Sane X.R X.L m) {i : Int} (hi : I64 i) : Calls Tryz.prog 77 #[srvP s, .int .i64 i] w fun e w' => e = .returned (.agg #[.int .i64 (landR X.R X.L i).x, .int .i64 (landR X.R X.L i).y]) ∧ Below w.heap.size w w' := by
 have hp0 := Blk.new w 87 #[.int .i64 0, .int .i64 0]
 have hb0 : Below w.heap.size w (w.alloc (.cells #[.int .i64 0, .int .i64 0] 87)) := (Below.refl _ _).alloc (Nat.le_refl _) _
 have HSh := Lib.hid (shows_all hS hi)
 have hs0 := h.next hb0
 have HS0 := Lib.hid hs0
 obtain ⟨L, hL⟩ : ∃ L, landR X.R X.L i = L := ⟨_, rfl⟩
 have hL' : shiftR (-32768) (-32768) (winL X.R X.L i).w (winL X.R X.L i).h (IntKind.i64.wrap (absXL X.R X.L i + 32768)) (IntKind.i64.wrap (absYL X.R X.L i + 32768)) = L := hL
 rw [hL]
 obtain ⟨v, hv⟩ : ∃ v, winL X.R X.L i = v := ⟨_, rfl⟩
 obtain ⟨ax, hax⟩ : ∃ a, absXL X.R X.L i = a := ⟨_, rfl⟩
 obtain ⟨ay, hay⟩ : ∃ a, absYL X.R X.L i = a := ⟨_, rfl⟩
 rw [hv, hax, hay] at hL'
 have HG := Lib.hid (fun (W : World) (hW : Srv W s Y X k) => (HSh.out).cget W _ _ hW.tree)
 have HA := Lib.hid (fun (W : World) (hW : Srv W s Y X k) => (HSh.out).cabs W _ _ hW.tree)
 rw [hv] at HG
 rw [hax, hay] at HA
 rw [IntWalk.i64_left, IntWalk.i64_left] at hL'
 have HSf := Lib.hid (fun W : World => shift_c (-32768) (-32768) v.w v.h (wrap64 (ax + 32768)) (wrap64 (ay + 32768)) W)
 rw [hL'] at HSf
 clear hL hL' hv hax hay hS hs0
 go_enter Tryz.func77, Tryz.ntmps77
 go_upto_region 1 with fail
 generalize w.alloc (.cells #[.int .i64 0, .int .i64 0] 87) = w0 at *
 obtain ⟨⟨b0, -, -, -, -, -, -⟩, -⟩ := HS0.out.blk.c7
 go_upto_region 2 with (go_at_call 48; ((with_reducible refine (HG.out _ HS0.out).mono ?_); rintro e w1 ⟨rfl, hb1⟩); skip)
 have P1 := hp0.next hb1
 have W1 := hb0.trans (hb1.mono hb0.size)
 have S1 := HS0.out.next hb1
 have V2 := Blk.new w1 61 #[.int .i64 v.id, .int .i64 v.par, .int .i64 v.x, .int .i64 v.y, .int .i64 v.w, .int .i64 v.h, .bool v.on]
 have a2 : Below w1.heap.size w1 (w1.alloc (.cells #[.int .i64 v.id, .int .i64 v.par, .int .i64 v.x, .int .i64 v.y, .int .i64 v.w, .int .i64 v.h, .bool v.on] 61)) := (Below.refl _ _).alloc (Nat.le_refl _) _
 have P2 := P1.next a2
 have S2 := Lib.hid (S1.next a2)
 have W2 := W1.trans (a2.mono W1.size)
 clear P1 S1 W1 a2 hb1 hp0 hb0 HS0 b0
 generalize w1.alloc (.cells #[.int .i64 v.id, .int .i64 v.par, .int .i64 v.x, .int .i64 v.y, .int .i64 v.w, .int .i64 v.h, .bool v.on] 61) = w2 at *
 generalize w1.heap.size = g5 at *
 obtain ⟨⟨b0, -, -, -, -, -, -⟩, -⟩ := S2.out.blk.c7
 go_upto_region 3 with (go_at_call 51; ((with_reducible refine (HA.out _ S2.out).mono ?_); rintro e w3 ⟨rfl, hb3⟩); skip)
 have P3 := P2.next hb3
 have V3 := V2.next hb3
 have W3 := W2.trans (hb3.mono W2.size)
 have A4 := Blk.new w3 87 #[.int .i64 ax, .int .i64 ay]
 have a4 : Below w3.heap.size w3 (w3.alloc (.cells #[.int .i64 ax, .int .i64 ay] 87)) := (Below.refl _ _).alloc (Nat.le_refl _) _
 have P4 := P3.next a4
 have V4 := V3.next a4
 have W4 := W3.trans (a4.mono W3.size)
 clear P2 P3 V2 V3 W2 W3 a4 hb3 b0
 generalize w3.alloc (.cells #[.int .i64 ax, .int .i64 ay] 87) = w4 at *
 generalize w3.heap.size = g7 at *
 obtain ⟨⟨y0, y1, y2, y3, y4, y5, y6⟩, -⟩ := V4.c7
 obtain ⟨⟨u0, u1⟩, -⟩ := A4.c2
 go_upto_region 4 with fail
 have R5 := Blk.new w4 23 #[.int .i64 (-32768), .int .i64 (-32768), .int .i64 v.w, .int .i64 v.h]
 have a5 : Below w4.heap.size w4 (w4.alloc (.cells #[.int .i64 (-32768), .int .i64 (-32768), .int .i64 v.w, .int .i64 v.h] 23)) := (Below.refl _ _).alloc (Nat.le_refl _) _
 have P5 := P4.next a5
 have A5 := A4.next a5
 have W5 := W4.trans (a5.mono W4.size)
 clear P4 A4 V4 W4 a5 y0 y1 y2 y3 y4 y5 y6 u0 u1
 generalize w4.alloc (.cells #[.int .i64 (-32768), .int .i64 (-32768), .int .i64 v.w, .int .i64 v.h] 23) = w5 at *
 generalize w4.heap.size = g9 at *
 obtain ⟨⟨r0, r1, r2, r3⟩, -⟩ := R5.c4
 obtain ⟨⟨u0, u1⟩, -⟩ := A5.c2
 go_upto_region 5 with (go_at_call 107; ((with_reducible refine (HSf.out _).mono ?_); rintro e w6 ⟨rfl, hb6⟩); skip)
 have P6 := P5.next hb6
 have W6 := W5.trans (hb6.mono W5.size)
 have F7 := Blk.new w6 23 #[.int .i64 L.x, .int .i64 L.y, .int .i64 L.w, .int .i64 L.h]
 have a7 : Below w6.heap.size w6 (w6.alloc (.cells #[.int .i64 L.x, .int .i64 L.y, .int .i64 L.w, .int .i64 L.h] 23)) := (Below.refl _ _).alloc (Nat.le_refl _) _
 have P7 := P6.next a7
 have W7 := W6.trans (a7.mono W6.size)
 clear P5 P6 A5 R5 W5 W6 a7 hb6 r0 r1 r2 r3 u0 u1
 generalize w6.alloc (.cells #[.int .i64 L.x, .int .i64 L.y, .int .i64 L.w, .int .i64 L.h] 23) = w7 at *
 generalize w6.heap.size = g10 at *
 obtain ⟨⟨r0, r1, r2, r3⟩, -⟩ := F7.c4
 obtain ⟨⟨c0, c1⟩, ⟨cf0, cf1⟩⟩ := P7.c2
 go_wp2_with fail
 exact bodyPost_ret (v := .agg #[.int .i64 L.x, .int .i64 L.y]) (by simp [results, Tryz.results77, go_sem, c0, c1]) rfl ⟨rfl, (W7.setCell (Nat.le_refl _) _).setCell (Nat.le_refl _) _⟩
end
end Go.Proofs.YtnhchpiafchdgaaGreat
