/- A display's manage, answer, Do, walked. -/
import Derived.Test.YtfdgpbdppenhmaaGreatSrM
import Derived.Test.YtfdgpbdppenhmaaGreatSrW
namespace Go.Proofs.YtfdgpbdppenhmaaGreat
open Go.RowKit Go.Shelf Go.Maps
section
variable {w w' : World} {s : Nat} {Y : Yl} {X : Xs} {k m : Nat}
theorem V0.changed (h : V0 X k) (hk : k + 1 ≤ 1000) (a : Int) (q : Rq) (hi : I64 q.win) : V0 (X.change a q).2 (k + 1) := by
  have h1 := h.le (Nat.le_succ k) hk
  unfold Xs.change
  split
  · exact h1
  · split
    · exact h1
    · split
      · exact h1
      · by_cases k2 : q.kind = 2
        · rw [own_two X a q k2]; exact h1.destroyed hi
        · by_cases k10 : q.kind = 10
          · rw [own_ten X a q k10]; exact h.setp hk a q.win q.p
          · cases hA : X.asks a q.win with
            | true => rw [own_ask X a q k2 k10 hA]; exact h1.asked q hi
            | false => rw [own_carry X a q k2 k10 hA]; exact h1.carried q hi
theorem V0.saves (h : V0 X k) (i : Int) (on : Bool) : V0 (X.save i on).2 k := by
  unfold Xs.save
  split
  · exact h
  · next hn => exact h.setsav fun _ e => hn (by omega)
theorem V0.manages (h : V0 X k) (a : Int) (q : Rq) (hi : I64 q.win) (ho : I64 q.other) : V0 (X.manage a q).2 k := by
  unfold Xs.manage
  split
  · exact h
  · split
    · exact h
    · split
      · exact h.tree (t_repar h.s hi ho q.x q.y).1 (inL_repar X.R q.win q.other q.x q.y X.L)
      · split
        · exact h.saves _ _
        · split
          · exact h
          · exact h.focus hi
theorem V0.others (h : V0 X k) (hk : k + 1 ≤ 1000) (a : Int) (q : Rq) (hi : I64 q.win) (ho : I64 q.other) : V0 (X.other a q).2 (k + 1) := by
  unfold Xs.other
  split
  · exact (h.manages a q hi ho).le (Nat.le_succ k) hk
  · exact h.changed hk a q hi
theorem V.done (h : V X k) (hk : k + 1 ≤ 1000) {a : Int} (ha : I64 a) (q : Rq) (hi : I64 q.win) (ho : I64 q.other) : V (X.do a q).2.2 (k + 1) := by
  unfold Xs.do
  split
  · exact h.le (Nat.le_succ k) hk
  · next hw =>
    split
    · refine h.created hk ?_ ha q ho
      unfold Xs.wrong at hw
      simp at hw
      exact hw.1.1.1
    · exact (h.toV0.others hk a q hi ho).look
/-- What a call on the tree leaves of the display, and of what lies beside it. -/
theorem Srv.via2 {w0 W : World} (h : Srv w0 s Y X k) (h0 : Below w.heap.size w w0) (hW : Below w0.heap.size w0 W) {f : Nat} {args : Array Value} {err : Int} {L' : List Win}
    (hc : Calls Tryz.prog f args W fun ex w' => ex = .returned (.int .i64 err) ∧ CT X.R L' Y.t Y.l W w') :
    Calls Tryz.prog f args W fun ex w' => ex = .returned (.int .i64 err) ∧ SrvTo w s Y { X with L := L' } k w' ∧ w'.cell? ⟨s, 0, none⟩ = some (treeP Y.t) ∧ ∀ g T cs, Blk W g T cs → ¬ Y.foot s g → Blk w' g T cs :=
  hc.mono fun ex w' hh => by
    obtain ⟨col, h1⟩ := h.next hW
    obtain ⟨l', h2, h3⟩ := h1.treed hh.2
    exact ⟨hh.1, SrvTo.after (hW.on h0 h0.size) ⟨_, ⟨_, h2⟩, h3⟩, h2.srv.at_ (i := 0) (v := treeP Y.t) rfl, fun g T cs hg hn => h3.blk hg hn⟩
set_option maxRecDepth 100000 in
set_option maxHeartbeats 8000000 in
theorem manage_c (h : Srv w s Y X k) (hV : V0 X k) (hk : k + 1 ≤ 1000) {a : Int} (ha : 0 ≤ a) (q : Rq) (hi : I64 q.win) (ho : I64 q.other) :
    Calls Tryz.prog 69 #[srvP s, .int .i64 a, rqV q] w fun ex w' => ex = .returned (.int .i64 (X.manage a q).1) ∧ SrvTo w s Y (X.manage a q).2 (k + 1) w' := by
  obtain ⟨wb, hwb⟩ : ∃ wb, wb = w.alloc (.cells #[.int .i64 q.kind, .int .i64 q.win, .int .i64 q.other, .int .i64 q.x, .int .i64 q.y, .int .i64 q.a, .int .i64 q.e, .string q.p.name, .string q.p.typ, .string q.p.data] 37) := ⟨_, rfl⟩
  have hbel : Below w.heap.size w wb := by rw [hwb]; exact (Below.refl _ _).alloc (Nat.le_refl _) _
  have hbx : Blk wb w.heap.size 37 (rqL q) := by rw [hwb]; exact Blk.new w _ _
  have hs := h.next hbel
  obtain ⟨x0, x1, x2, x3, x4, x5, x6, x7, x8, x9⟩ := hbx.c10
  have HW := Lib.hid hwb
  have HB := Lib.hid hbel
  have HX := Lib.hid hbx
  have HQ := Lib.hid (fun W (hW : Below w.heap.size w W) => (SrvTo.same h hW).more (Nat.le_succ k))
  have hhas := has_c hs hV.s hi
  have H0 := Lib.hid (fun (W : World) (hW : Below wb.heap.size wb W) => (show W.cell? ⟨s, 0, none⟩ = some (treeP Y.t) from (hs.next hW).blk.at_ (i := 0) rfl))
  unfold Xs.manage
  by_cases h0 : a = 0
  · rw [if_neg (by simpa using h0)]
    subst h0
    cases ht : thereL X.R X.L q.win with
    | false =>
      rw [if_pos rfl]
      rw [ht] at hhas
      have HH := Lib.hid hhas
      clear h hV hs hbx hbel hhas ht ha
      go_enter Tryz.func69, Tryz.ntmps69
      go_upto_region 1 with fail
      rw [← HW.out]
      clear hwb
      go_wp2_with (first
        | (go_at_call 67; ((with_reducible refine (client_c _ _).mono ?_); rintro e w2 ⟨rfl, rfl⟩))
        | (go_at_call 92; ((with_reducible refine (HH.out).mono ?_); rintro e w1 ⟨rfl, hb⟩); have HB1 := Lib.hid hb; clear hb))
      go_ret
      exact ⟨rfl, HQ.out _ (HB1.out.on HB.out HB.out.size)⟩
    | true =>
      rw [if_neg (by decide)]
      rw [ht] at hhas
      have HH := Lib.hid hhas
      by_cases h8 : q.kind = 8
      · rw [if_pos h8]
        have HC := Lib.hid (fun (W : World) (hW : Below wb.heap.size wb W) => hs.via2 hbel hW ((t_repar hV.s hi ho q.x q.y).2.2 W Y.t Y.l (hs.next hW).tree))
        rw [h8] at x0
        have HFT := Lib.hid (show ¬ Y.foot s w.heap.size from fun hf => Nat.lt_irrefl _ (h.foot_lt hf))
        have HX2 := Lib.hid (show Blk wb w.heap.size 37 #[.int .i64 8, .int .i64 q.win, .int .i64 q.other, .int .i64 q.x, .int .i64 q.y, .int .i64 q.a, .int .i64 q.e, .string q.p.name, .string q.p.typ, .string q.p.data] from by rw [← h8]; exact hbx)
        clear h hV hs hbx hbel hhas ht ha h8
        go_enter Tryz.func69, Tryz.ntmps69
        go_upto_region 1 with fail
        rw [← HW.out]
        clear hwb
        go_upto_region 7 with (first
          | (go_at_call 67; ((with_reducible refine (client_c _ _).mono ?_); rintro e w2 ⟨rfl, rfl⟩))
          | (go_at_call 92; ((with_reducible refine (HH.out).mono ?_); rintro e w1 ⟨rfl, hb⟩); have HB1 := Lib.hid hb; clear x0 x1 x2 x3 x4 x5 x6 x7 x8 x9; obtain ⟨x0, x1, x2, x3, x4, x5, x6, x7, x8, x9⟩ := (HX2.out.next hb).c10; have b0 := H0.out _ hb; clear hb))
        have S0 : (fun wx : World => wx.cell? ⟨s, 0, none⟩ = some (treeP Y.t) ∧ wx.cell? ⟨w.heap.size, 1, none⟩ = some (.int .i64 q.win) ∧ wx.cell? ⟨w.heap.size, 2, none⟩ = some (.int .i64 q.other) ∧ wx.cell? ⟨w.heap.size, 3, none⟩ = some (.int .i64 q.x) ∧ wx.cell? ⟨w.heap.size, 4, none⟩ = some (.int .i64 q.y)) w1.drew := ⟨b0, x1, x2, x3, x4⟩
        refine wp_region_noPanic ?_
        refine wp_region_held_drew (S := fun wx => wx.cell? ⟨s, 0, none⟩ = some (treeP Y.t) ∧ wx.cell? ⟨w.heap.size, 1, none⟩ = some (.int .i64 q.win) ∧ wx.cell? ⟨w.heap.size, 2, none⟩ = some (.int .i64 q.other) ∧ wx.cell? ⟨w.heap.size, 3, none⟩ = some (.int .i64 q.x) ∧ wx.cell? ⟨w.heap.size, 4, none⟩ = some (.int .i64 q.y)) (by kernel_rfl) (by exact S0) (fun hHeld => ?_)
        refine wpAnyH_take (i := 0) (v := ?v0) rfl (by kernel_rfl) (by kernel_rfl) (by kernel_rfl) (fun _ _ _ h => h) (Or.inl ⟨by kernel_rfl, ?y0⟩) (by assumption) ?r0
        case y0 => (intro wq hSw; (try dsimp only at hSw); go_simp; (try with_reducible rfl))
        (try simp only [Act.put, List.getElem_toArray, List.getElem_cons_zero, List.setIfInBounds_toArray, List.set_cons_zero, List.set_cons_succ])
        refine wpAnyH_take (i := 1) (v := ?v1) rfl (by kernel_rfl) (by kernel_rfl) (by kernel_rfl) (fun _ _ _ h => h) (Or.inl ⟨by kernel_rfl, ?y1⟩) (by assumption) ?r1
        case y1 => (intro wq hSw; (try dsimp only at hSw); go_simp; (try with_reducible rfl))
        (try simp only [Act.put, List.getElem_toArray, List.getElem_cons_succ, List.getElem_cons_zero, List.setIfInBounds_toArray, List.set_cons_zero, List.set_cons_succ])
        refine wpAnyH_take (i := 2) (v := ?v2) rfl (by kernel_rfl) (by kernel_rfl) (by kernel_rfl) (fun _ _ _ h => h) (Or.inl ⟨by kernel_rfl, ?y2⟩) (by assumption) ?r2
        case y2 => (intro wq hSw; (try dsimp only at hSw); go_simp; (try with_reducible rfl))
        (try simp only [Act.put, List.getElem_toArray, List.getElem_cons_succ, List.getElem_cons_zero, List.setIfInBounds_toArray, List.set_cons_zero, List.set_cons_succ])
        refine wpAnyH_take (i := 3) (v := ?v3) rfl (by kernel_rfl) (by kernel_rfl) (by kernel_rfl) (fun _ _ _ h => h) (Or.inl ⟨by kernel_rfl, ?y3⟩) (by assumption) ?r3
        case y3 => (intro wq hSw; (try dsimp only at hSw); go_simp; (try with_reducible rfl))
        (try simp only [Act.put, List.getElem_toArray, List.getElem_cons_succ, List.getElem_cons_zero, List.setIfInBounds_toArray, List.set_cons_zero, List.set_cons_succ])
        refine wpAnyH_take (i := 4) (v := ?v4) rfl (by kernel_rfl) (by kernel_rfl) (by kernel_rfl) (fun _ _ _ h => h) (Or.inl ⟨by kernel_rfl, ?y4⟩) (by assumption) ?r4
        case y4 => (intro wq hSw; (try dsimp only at hSw); go_simp; (try with_reducible rfl))
        (try simp only [Act.put, List.getElem_toArray, List.getElem_cons_succ, List.getElem_cons_zero, List.setIfInBounds_toArray, List.set_cons_zero, List.set_cons_succ])
        refine wpAnyH_take (i := 5) (v := ?v5) rfl (by kernel_rfl) (by kernel_rfl) (by kernel_rfl) (fun _ _ _ h => h) (Or.inl ⟨by kernel_rfl, ?y5⟩) (by assumption) ?r5
        case y5 => (intro wq hSw; (try dsimp only at hSw); go_simp; (try with_reducible rfl))
        (try simp only [Act.put, List.getElem_toArray, List.getElem_cons_succ, List.getElem_cons_zero, List.setIfInBounds_toArray, List.set_cons_zero, List.set_cons_succ])
        refine wpAnyH_take (i := 6) (v := ?v6) rfl (by kernel_rfl) (by kernel_rfl) (by kernel_rfl) (fun _ _ _ h => h) (Or.inl ⟨by kernel_rfl, ?y6⟩) (by assumption) ?r6
        case y6 => (intro wq hSw; (try dsimp only at hSw); go_simp; (try with_reducible rfl))
        (try simp only [Act.put, List.getElem_toArray, List.getElem_cons_succ, List.getElem_cons_zero, List.setIfInBounds_toArray, List.set_cons_zero, List.set_cons_succ])
        refine wpAnyH_take (i := 7) (v := ?v7) rfl (by kernel_rfl) (by kernel_rfl) (by kernel_rfl) (fun _ _ _ h => h) (Or.inl ⟨by kernel_rfl, ?y7⟩) (by assumption) ?r7
        case y7 => (intro wq hSw; (try dsimp only at hSw); go_simp; (try with_reducible rfl))
        (try simp only [Act.put, List.getElem_toArray, List.getElem_cons_succ, List.getElem_cons_zero, List.setIfInBounds_toArray, List.set_cons_zero, List.set_cons_succ])
        refine wpAnyH_take (i := 8) (v := ?v8) rfl (by kernel_rfl) (by kernel_rfl) (by kernel_rfl) (fun _ _ _ h => h) (Or.inl ⟨by kernel_rfl, ?y8⟩) (by assumption) ?r8
        case y8 => (intro wq hSw; (try dsimp only at hSw); go_simp; (try with_reducible rfl))
        (try simp only [Act.put, List.getElem_toArray, List.getElem_cons_succ, List.getElem_cons_zero, List.setIfInBounds_toArray, List.set_cons_zero, List.set_cons_succ])
        refine wpAnyH_take (i := 9) (v := ?v9) rfl (by kernel_rfl) (by kernel_rfl) (by kernel_rfl) (fun _ _ _ h => h) (Or.inl ⟨by kernel_rfl, ?y9⟩) (by assumption) ?r9
        case y9 => (intro wq hSw; (try dsimp only at hSw); go_simp; (try with_reducible rfl))
        (try simp only [Act.put, List.getElem_toArray, List.getElem_cons_succ, List.getElem_cons_zero, List.setIfInBounds_toArray, List.set_cons_zero, List.set_cons_succ])
        refine wpAnyH_take (i := 10) (v := ?v10) rfl (by kernel_rfl) (by kernel_rfl) (by kernel_rfl) (fun _ _ _ h => h) (Or.inl ⟨by kernel_rfl, ?y10⟩) (by assumption) ?r10
        case y10 => (intro wq hSw; (try dsimp only at hSw); go_simp; (try with_reducible rfl))
        (try simp only [Act.put, List.getElem_toArray, List.getElem_cons_succ, List.getElem_cons_zero, List.setIfInBounds_toArray, List.set_cons_zero, List.set_cons_succ])
        refine wpAnyH_take (i := 11) (v := ?v11) rfl (by kernel_rfl) (by kernel_rfl) (by kernel_rfl) (fun _ _ _ h => h) (Or.inl ⟨by kernel_rfl, ?y11⟩) (by assumption) ?r11
        case y11 => (intro wq hSw; (try dsimp only at hSw); go_simp; (try with_reducible rfl))
        (try simp only [Act.put, List.getElem_toArray, List.getElem_cons_succ, List.getElem_cons_zero, List.setIfInBounds_toArray, List.set_cons_zero, List.set_cons_succ])
        refine wpAnyH_take (i := 12) (v := ?v12) rfl (by kernel_rfl) (by kernel_rfl) (by kernel_rfl) (fun _ _ _ h => h) (Or.inl ⟨by kernel_rfl, ?y12⟩) (by assumption) ?r12
        case y12 => (intro wq hSw; (try dsimp only at hSw); go_simp; (try with_reducible rfl))
        (try simp only [Act.put, List.getElem_toArray, List.getElem_cons_succ, List.getElem_cons_zero, List.setIfInBounds_toArray, List.set_cons_zero, List.set_cons_succ])
        refine wpAnyH_take (i := 13) (v := ?v13) rfl (by kernel_rfl) (by kernel_rfl) (by kernel_rfl) (fun _ _ _ h => h) (Or.inl ⟨by kernel_rfl, ?y13⟩) (by assumption) ?r13
        case y13 => (intro wq hSw; (try dsimp only at hSw); go_simp; (try with_reducible rfl))
        (try simp only [Act.put, List.getElem_toArray, List.getElem_cons_succ, List.getElem_cons_zero, List.setIfInBounds_toArray, List.set_cons_zero, List.set_cons_succ])
        refine wpAnyH_take (i := 14) (v := ?v14) rfl (by kernel_rfl) (by kernel_rfl) (by kernel_rfl) (fun _ _ _ h => h) (Or.inl ⟨by kernel_rfl, ?y14⟩) (by assumption) ?r14
        case y14 => (intro wq hSw; (try dsimp only at hSw); go_simp; (try with_reducible rfl))
        (try simp only [Act.put, List.getElem_toArray, List.getElem_cons_succ, List.getElem_cons_zero, List.setIfInBounds_toArray, List.set_cons_zero, List.set_cons_succ])
        refine wpAnyH_ready (rs := [15]) (by kernel_rfl) (by simp) ?_
        refine AllReadyH.cons rfl (fun K hK => ?_) AllReadyH.nil
        go_simp
        refine (HC.out _ HB1.out.drew).mono ?_
        rintro ex w4 ⟨rfl, T2, c0, hk⟩; have HS := Lib.hid T2; clear T2; obtain ⟨-, y1, y2, y3, y4, -⟩ := (hk _ _ _ ((HX2.out.next HB1.out).drew) HFT.out).c10; have S1 := And.intro c0 (And.intro y1 (And.intro y2 (And.intro y3 y4))); clear hk
        (try dsimp only)
        refine hK.out _ _ (by exact S1) (fun hHeld => ?_)
        clear hK K
        (try simp only [Act.put, List.getElem_toArray, List.getElem_cons_succ, List.getElem_cons_zero, List.setIfInBounds_toArray, List.set_cons_zero, List.set_cons_succ])
        refine wpAnyH_take (i := 16) (v := ?v16) rfl (by kernel_rfl) (by kernel_rfl) (by kernel_rfl) (fun _ _ _ h => h) (Or.inl ⟨by kernel_rfl, ?y16⟩) (by assumption) ?r16
        case y16 => (intro wq hSw; (try dsimp only at hSw); go_simp; (try with_reducible rfl))
        (try simp only [Act.put, List.getElem_toArray, List.getElem_cons_succ, List.getElem_cons_zero, List.setIfInBounds_toArray, List.set_cons_zero, List.set_cons_succ])
        refine wpAnyH_done (by kernel_rfl) ?_ _
        refine NoPanic.normal ?_
        go_wp2_with fail
        go_ret
        exact ⟨rfl, HS.out.more (Nat.le_succ k)⟩
      · rw [if_neg h8]
        have h8' : (q.kind == 8) = false := by simpa using h8
        have hin : q.win = 0 ∨ inM X.M q.win := by
          rcases (there_iff X.R X.L q.win).1 ht with e | e
          · exact .inl e
          · exact .inr ((hV.same _).1 e)
        by_cases h11 : q.kind = 11
        · rw [if_pos h11]
          have HC := Lib.hid (fun (W : World) (hW : Below wb.heap.size wb W) (on : Bool) => (show Calls Tryz.prog 93 #[srvP s, .int .i64 q.win, .bool on] W fun ex w' => ex = .returned (.int .i64 (X.save q.win on).1) ∧ SrvTo w s Y (X.save q.win on).2 (k + 1) w' from
            (ssave_c (hs.next hW) hV hi hin (by omega) on).mono fun ex w' hh => ⟨hh.1, SrvTo.after (hW.on hbel hbel.size) hh.2⟩))
          rw [h11] at x0
          have HX2 := Lib.hid (show Blk wb w.heap.size 37 #[.int .i64 11, .int .i64 q.win, .int .i64 q.other, .int .i64 q.x, .int .i64 q.y, .int .i64 q.a, .int .i64 q.e, .string q.p.name, .string q.p.typ, .string q.p.data] from by rw [← h11]; exact hbx)
          obtain ⟨on, hon⟩ : ∃ on, on = decide (q.other ≠ 0) := ⟨_, rfl⟩
          have hon2 : (q.other != 0) = on := by rw [hon]; by_cases e : q.other = 0 <;> simp [e]
          rw [← hon]
          clear h hV hs hbx hbel hhas ht ha h8 h11 hin hon
          go_enter Tryz.func69, Tryz.ntmps69
          go_upto_region 1 with fail
          rw [← HW.out]
          clear hwb
          go_wp2_with (first
            | (go_at_call 67; ((with_reducible refine (client_c _ _).mono ?_); rintro e w2 ⟨rfl, rfl⟩))
            | (go_at_call 92; ((with_reducible refine (HH.out).mono ?_); rintro e w1 ⟨rfl, hb⟩); have HB1 := Lib.hid hb; clear x0 x1 x2 x3 x4 x5 x6 x7 x8 x9; obtain ⟨x0, x1, x2, x3, x4, x5, x6, x7, x8, x9⟩ := (HX2.out.next hb).c10; clear hb)
            | (go_at_call 93; ((with_reducible refine (HC.out _ HB1.out on).mono ?_); rintro e w3 ⟨rfl, T3⟩); have HZ := Lib.hid T3; clear T3))
          go_ret
          exact ⟨rfl, HZ.out⟩
        · rw [if_neg h11]
          have h11' : (q.kind == 11) = false := by simpa using h11
          have HC := Lib.hid (fun (W : World) (hW : Below wb.heap.size wb W) => (show Calls Tryz.prog 94 #[srvP s, .int .i64 q.win] W fun ex w' => ex = .returned (.int .i64 (if q.win ≠ 0 ∧ viewL X.R X.L q.win = false then 8 else 0)) ∧ SrvTo w s Y (if q.win ≠ 0 ∧ viewL X.R X.L q.win = false then X else { X with F := q.win }) (k + 1) w' from
            (setfocus_c (hs.next hW) hV.s hi).mono fun ex w' hh => ⟨hh.1, (SrvTo.after (hW.on hbel hbel.size) hh.2).more (Nat.le_succ k)⟩))
          have hpr : (if q.win ≠ 0 ∧ viewL X.R X.L q.win = false then ((8 : Int), X) else (0, { X with F := q.win })) = ((if q.win ≠ 0 ∧ viewL X.R X.L q.win = false then 8 else 0), (if q.win ≠ 0 ∧ viewL X.R X.L q.win = false then X else { X with F := q.win })) := by split <;> rfl
          rw [hpr]
          obtain ⟨er, her⟩ : ∃ er : Int, er = (if q.win ≠ 0 ∧ viewL X.R X.L q.win = false then 8 else 0) := ⟨_, rfl⟩
          obtain ⟨X2, hX2⟩ : ∃ X2 : Xs, X2 = (if q.win ≠ 0 ∧ viewL X.R X.L q.win = false then X else { X with F := q.win }) := ⟨_, rfl⟩
          rw [← her, ← hX2] at HC ⊢
          clear h hV hs hbx hbel hhas ht ha h8 h11 hin hpr her hX2
          go_enter Tryz.func69, Tryz.ntmps69
          go_upto_region 1 with fail
          rw [← HW.out]
          clear hwb
          go_wp2_with (first
            | (go_at_call 67; ((with_reducible refine (client_c _ _).mono ?_); rintro e w2 ⟨rfl, rfl⟩))
            | (go_at_call 92; ((with_reducible refine (HH.out).mono ?_); rintro e w1 ⟨rfl, hb⟩); have HB1 := Lib.hid hb; clear x0 x1 x2 x3 x4 x5 x6 x7 x8 x9; obtain ⟨x0, x1, x2, x3, x4, x5, x6, x7, x8, x9⟩ := (HX.out.next hb).c10; clear hb)
            | (go_at_call 94; ((with_reducible refine (HC.out _ HB1.out).mono ?_); rintro e w3 ⟨rfl, T3⟩); have HZ := Lib.hid T3; clear T3))
          go_ret
          exact ⟨rfl, HZ.out⟩
  · rw [if_pos h0]
    have h1 : (0 : Int) < a := by omega
    clear h hV hs hbx hhas ha h0
    go_enter Tryz.func69, Tryz.ntmps69
    go_upto_region 1 with fail
    rw [← HW.out]
    clear hwb
    go_wp2_with (go_at_call 67; ((with_reducible refine (client_c _ _).mono ?_); rintro e w2 ⟨rfl, rfl⟩))
    go_ret
    exact ⟨rfl, HQ.out _ hbel⟩
end
end Go.Proofs.YtfdgpbdppenhmaaGreat
