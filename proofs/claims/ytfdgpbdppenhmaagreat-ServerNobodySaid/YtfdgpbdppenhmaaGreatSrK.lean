/- A display's calls that write, walked: foreign, askManager. -/
import Derived.Test.YtfdgpbdppenhmaaGreatSrJ
namespace Go.Proofs.YtfdgpbdppenhmaaGreat
open Go.RowKit Go.Shelf Go.Maps
def Xs.ask (X : Xs) (q : Rq) : Int × Xs :=
  if q.kind = 3 then (0, X.tell ⟨1, q.win, 0, 0, 0, 0, noText⟩)
  else if q.kind = 4 then (X.tell ⟨3, q.win, 0, 0, 0, 0, noText⟩).carry q
  else if q.kind = 5 then (if rightB q.x q.y q.a q.e = false then (10, X) else (0, X.tell ⟨2, q.win, q.x, q.y, q.a, q.e, noText⟩))
  else (80, X)
section
variable {w w' : World} {s : Nat} {Y : Yl} {X : Xs} {k m : Nat}
theorem tell_RL (X : Xs) (e : Ev) : (X.tell e).R = X.R ∧ (X.tell e).L = X.L ∧ (X.tell e).H = X.H ∧ (X.tell e).M = X.M ∧ (X.tell e).F = X.F ∧ (X.tell e).G = X.G := by
  unfold Xs.tell; split <;> exact ⟨rfl, rfl, rfl, rfl, rfl, rfl⟩
set_option maxRecDepth 100000 in
set_option maxHeartbeats 4000000 in
theorem ask_c (h : Srv w s Y X k) (hS : Sane X.R X.L m) (hE : X.E.length ≤ 4096) (q : Rq) (hi : I64 q.win) : Calls Tryz.prog 97 #[srvP s, rqV q] w fun ex w' => ex = .returned (.int .i64 (X.ask q).1) ∧ SrvTo w s Y (X.ask q).2 k w' := by
  obtain ⟨wb, hwb⟩ : ∃ wb, wb = w.alloc (.cells #[.int .i64 q.kind, .int .i64 q.win, .int .i64 q.other, .int .i64 q.x, .int .i64 q.y, .int .i64 q.a, .int .i64 q.e, .string q.p.name, .string q.p.typ, .string q.p.data] 37) := ⟨_, rfl⟩
  have hbel : Below w.heap.size w wb := by rw [hwb]; exact (Below.refl _ _).alloc (Nat.le_refl _) _
  have hbx : Blk wb w.heap.size 37 (rqL q) := by rw [hwb]; exact Blk.new w _ _
  have hs := h.next hbel
  obtain ⟨x0, x1, x2, x3, x4, x5, x6, x7, x8, x9⟩ := hbx.c10
  have HW := Lib.hid hwb
  have HB := Lib.hid hbel
  have HX := Lib.hid hbx
  have HT := Lib.hid (fun (e : Ev) => tell_c hs hE e)
  have HQ := Lib.hid (SrvTo.same h hbel)
  have HF := Lib.hid (fun b (hb : Y.foot s b) => h.foot_lt hb)
  obtain ⟨kind, hkd⟩ : ∃ n, n = q.kind := ⟨_, rfl⟩
  unfold Xs.ask
  rw [← hkd] at x0 ⊢
  by_cases h3 : kind = 3
  · subst h3
    rw [if_pos rfl]
    clear h hS hs hbx hbel hkd
    go_enter Tryz.func97, Tryz.ntmps97
    go_upto_region 1 with fail
    rw [← HW.out]
    clear hwb
    go_wp2_with (go_at_call 110; ((with_reducible refine (HT.out ⟨1, q.win, 0, 0, 0, 0, ⟨#[]⟩⟩).mono ?_); rintro e w3 ⟨rfl, T3⟩); have HS := Lib.hid (SrvTo.after HB.out T3); clear T3)
    go_ret
    exact ⟨rfl, HS.out⟩
  · rw [if_neg h3]
    have h3' : (kind == 3) = false := by simpa using h3
    by_cases h4 : kind = 4
    · subst h4
      rw [if_pos rfl]
      have HC := Lib.hid (fun (W : World) (Y1 : Yl) (S1 : Srv W s Y1 (X.tell ⟨3, q.win, 0, 0, 0, 0, ⟨#[]⟩⟩) k) => carry_c S1 (m := m) (by rw [(tell_RL X _).1, (tell_RL X _).2.1]; exact hS) q hi)
      have HK := Lib.hid hkd
      clear h hS hs hbx hbel h3 h3' hkd
      go_enter Tryz.func97, Tryz.ntmps97
      go_upto_region 1 with fail
      rw [← HW.out]
      clear hwb
      go_wp2_with (first
        | (go_at_call 110; ((with_reducible refine (HT.out ⟨3, q.win, 0, 0, 0, 0, ⟨#[]⟩⟩).mono ?_); rintro e w3 ⟨rfl, Y1, S1, U1⟩); have HS := Lib.hid (And.intro S1 U1); have HX3 := U1.blk HX.out (fun hf => Nat.lt_irrefl _ (HF.out _ hf)); clear x0 x1 x2 x3 x4 x5 x6 x7 x8 x9; obtain ⟨x0, x1, x2, x3, x4, x5, x6, x7, x8, x9⟩ := HX3.c10; clear S1 U1 HX3)
        | (go_at_call 98; ((with_reducible refine (HC.out _ _ HS.out.1).mono ?_); rintro e w4 ⟨rfl, T4⟩); have HR := Lib.hid (SrvTo.after HB.out (SrvTo.trans HS.out.2 T4)); clear T4))
      go_ret
      exact ⟨rfl, HR.out⟩
    · rw [if_neg h4]
      have h4' : (kind == 4) = false := by simpa using h4
      by_cases h5 : kind = 5
      · subst h5
        rw [if_pos rfl]
        have HR := Lib.hid (fun W => right_c q.x q.y q.a q.e W)
        cases hr : rightB q.x q.y q.a q.e with
        | false =>
          rw [if_pos rfl]
          rw [hr] at HR
          clear h hS hs hbx hbel hkd h3 h3' h4 h4' hr HT
          go_enter Tryz.func97, Tryz.ntmps97
          go_upto_region 1 with fail
          rw [← HW.out]
          clear hwb
          go_wp2_with (go_at_call 81; ((with_reducible refine (HR.out _).mono ?_); rintro e w3 ⟨rfl, hb⟩); have HS := Lib.hid hb; clear hb)
          go_ret
          exact ⟨rfl, HQ.out.then HS.out⟩
        | true =>
          rw [if_neg (by decide)]
          rw [hr] at HR
          have HT2 := Lib.hid (fun (W : World) (hW : Below wb.heap.size wb W) (e : Ev) => tell_c (hs.next hW) hE e)
          clear h hS hs hbx hbel hkd h3 h3' h4 h4' hr HT
          go_enter Tryz.func97, Tryz.ntmps97
          go_upto_region 1 with fail
          rw [← HW.out]
          clear hwb
          go_wp2_with (first
            | (go_at_call 81; ((with_reducible refine (HR.out _).mono ?_); rintro e w3 ⟨rfl, hb⟩); have HS := Lib.hid hb; clear x0 x1 x2 x3 x4 x5 x6 x7 x8 x9; obtain ⟨x0, x1, x2, x3, x4, x5, x6, x7, x8, x9⟩ := (HX.out.next hb).c10; clear hb)
            | (go_at_call 110; ((with_reducible refine (HT2.out _ HS.out ⟨2, q.win, q.x, q.y, q.a, q.e, ⟨#[]⟩⟩).mono ?_); rintro e w4 ⟨rfl, T4⟩); have HZ := Lib.hid (SrvTo.after (HS.out.on HB.out HB.out.size) T4); clear T4))
          go_ret
          exact ⟨rfl, HZ.out⟩
      · rw [if_neg h5]
        have h5' : (kind == 5) = false := by simpa using h5
        clear h hS hs hbx hbel hkd h3 h4 h5 HT
        go_enter Tryz.func97, Tryz.ntmps97
        go_upto_region 1 with fail
        rw [← HW.out]
        clear hwb
        go_wp2_with fail
        go_ret
        exact ⟨rfl, HQ.out⟩
set_option maxRecDepth 100000 in
set_option maxHeartbeats 4000000 in
theorem foreign_c (h : Srv w s Y X k) (hV : V0 X k) {i : Int} (hin : inM X.M i) : Calls Tryz.prog 96 #[srvP s, .int .i64 i] w fun ex w' => ex = .returned (.bool (decide ((winL X.R X.L i).par = 0) || decide (ownM (winL X.R X.L i).par X.M ≠ ownM i X.M))) ∧ Below w.heap.size w w' := by
  have hi := in_i64 hV hin
  obtain ⟨v, hv⟩ : ∃ v, v = winL X.R X.L i := ⟨_, rfl⟩
  have HG := (shows_all hV.s hi).cget w _ _ h.tree
  rw [← hv] at HG ⊢
  obtain ⟨b0, -⟩ := h.blk.c7.1
  have HH := Lib.hid HG
  have hpar : v.par = 0 ∨ (v.par ≠ 0 ∧ inM X.M v.par) := by
    obtain ⟨u, hu, e⟩ := (hV.same i).2 hin
    have hd := nd_of hV.s.uniq hu
    have e1 : v = u := by
      rw [hv]
      unfold winL
      rw [← e, hd]; rfl
    by_cases h0 : v.par = 0
    · exact .inl h0
    · refine .inr ⟨h0, (hV.same _).1 ?_⟩
      obtain ⟨dp, hdp⟩ := par_there hV.s.toGood hu
      obtain ⟨h1, h2⟩ := getR_some (ndL_some hdp).1
      rw [e1] at h0 ⊢
      rcases h2 with ⟨h2, -⟩ | ⟨-, h2⟩
      · exact absurd h2 h0
      · exact ⟨_, h2, h1⟩
  have HM := Lib.hid (fun (W : World) (hW : Below w.heap.size w W) => (show W.cell? ⟨s, 2, none⟩ = some (.map (some Y.mp)) ∧ (Instr.lookup 77 (.map (some Y.mp)) (.int .i64 i) false).run Tryz.prog W = .ok (.int .i64 (ownM i X.M)) W from
    ⟨(h.next hW).blk.at_ (i := 2) rfl, by have := look_mak1 (h.next hW) hi; rw [makF_of hin] at this; exact this⟩))
  rcases hpar with hp | ⟨hp, hpin⟩
  · have hd : decide (v.par = 0) = true := by simpa using hp
    have hd2 : (v.par == 0) = true := by simpa using hp
    rw [hd, Bool.true_or]
    clear h hV hin hv HG
    go_enter Tryz.func96, Tryz.ntmps96
    go_upto_region 2 with (go_at_call 48; ((with_reducible refine (HH.out).mono ?_); rintro e w1 ⟨rfl, hb⟩); have HB := Lib.hid hb; clear hb)
    obtain ⟨wc, hwc⟩ : ∃ wc, wc = w1.alloc (.cells #[.int .i64 v.id, .int .i64 0, .int .i64 v.x, .int .i64 v.y, .int .i64 v.w, .int .i64 v.h, .bool v.on] 61) := ⟨_, rfl⟩
    have hx : Blk wc w1.heap.size 61 #[.int .i64 v.id, .int .i64 0, .int .i64 v.x, .int .i64 v.y, .int .i64 v.w, .int .i64 v.h, .bool v.on] := by rw [hwc]; exact Blk.new w1 _ _
    have hb2 : Below w.heap.size w wc := by rw [hwc]; exact HB.out.alloc HB.out.size _
    have y1 := hx.at_ (i := 1) rfl
    rw [← hwc]
    obtain ⟨z2, zl⟩ := HM.out wc hb2
    have HB2 := Lib.hid hb2
    clear hx hb2 hwc
    go_quiet (fail)
    go_wp2_with fail
    go_ret
    exact ⟨rfl, below_drewN HB2.out _⟩
  · have hd : decide (v.par = 0) = false := by simpa using hp
    have hd2 : (v.par == 0) = false := by simpa using hp
    rw [hd, Bool.false_or]
    have HI := Lib.hid (fun (W : World) (hW : Below w.heap.size w W) => (show Calls Tryz.prog 79 #[srvP s, .int .i64 v.par, .int .i64 (ownM i X.M)] W fun e w' => e = .returned (.bool (decide (ownM v.par X.M = ownM i X.M))) ∧ w' = W from by
      have h1 := isof_c (h.next hW) (in_i64 hV hpin) (ownM i X.M)
      rw [isof_of hpin] at h1
      exact h1.mono fun e w' hh => ⟨hh.1, hh.2.symm⟩))
    have HE := Lib.hid (show (!decide (ownM v.par X.M = ownM i X.M)) = decide (ownM v.par X.M ≠ ownM i X.M) by simp)
    clear h hV hin hv HG
    go_enter Tryz.func96, Tryz.ntmps96
    go_upto_region 2 with (go_at_call 48; ((with_reducible refine (HH.out).mono ?_); rintro e w1 ⟨rfl, hb⟩); have HB := Lib.hid hb; clear hb)
    obtain ⟨wc, hwc⟩ : ∃ wc, wc = w1.alloc (.cells #[.int .i64 v.id, .int .i64 v.par, .int .i64 v.x, .int .i64 v.y, .int .i64 v.w, .int .i64 v.h, .bool v.on] 61) := ⟨_, rfl⟩
    have hx : Blk wc w1.heap.size 61 #[.int .i64 v.id, .int .i64 v.par, .int .i64 v.x, .int .i64 v.y, .int .i64 v.w, .int .i64 v.h, .bool v.on] := by rw [hwc]; exact Blk.new w1 _ _
    have hb2 : Below w.heap.size w wc := by rw [hwc]; exact HB.out.alloc HB.out.size _
    have y1 := hx.at_ (i := 1) rfl
    rw [← hwc]
    obtain ⟨z2, -⟩ := HM.out wc hb2
    have zl := fun n => (HM.out (wc.drewN n) (below_drewN hb2 n)).2
    have HB2 := Lib.hid hb2
    clear hx hb2 hwc
    go_quiet ((go_at_call 79; exact Calls.quiet_of_same (HI.out _ (below_drewN HB2.out _))))
    go_wp2_with fail
    go_ret
    exact ⟨ret_bool HE.out, below_drewN HB2.out _⟩
end
end Go.Proofs.YtfdgpbdppenhmaaGreat
