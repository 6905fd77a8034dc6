/- Reparent, walked. -/
import Derived.Test.YtlbbjinkblgfiaaWiM
namespace Go.Proofs.Ytlbbjinkblgfiaa
open Go.RowKit Go.Shelf Go.Maps
/-- What a tree holds where a window was put into another one. -/
def reparNd (nd : Int → Option Nd) (i q : Int) (d dp : Nd) (x y : Int) : Int → Option Nd :=
  match upd nd d.win.par (some ⟨dp.win, strike d.win.id dp.kids⟩) q with
  | none => nd
  | some dq => upd (upd (upd nd d.win.par (some ⟨dp.win, strike d.win.id dp.kids⟩)) q (some ⟨dq.win, dq.kids ++ [d.win.id]⟩)) i (some ⟨⟨d.win.id, q, x, y, d.win.w, d.win.h, d.win.on⟩, d.kids⟩)
/-- What Reparent answers. -/
def ReparR (w : World) (t : Nat) (l : Lay) (nd : Int → Option Nd) (made : Int) (cnt : Nat) (i q x y : Int) (d dp : Nd) (n : Nat) (e : Ending) (w' : World) : Prop :=
  if l.nb q = none then e = .returned (.int .i64 6) ∧ Below w.heap.size w w'
  else if thruB nd n q i = true then e = .returned (.int .i64 61) ∧ Below w.heap.size w w'
  else if rightB x y d.win.w d.win.h = false then e = .returned (.int .i64 10) ∧ Below w.heap.size w w'
  else e = .returned (.int .i64 0) ∧ TreeTo w t l l.nb (reparNd nd i q d dp x y) made cnt w'
section
variable {w : World} {t : Nat} {l : Lay} {nd : Int → Option Nd} {made : Int} {cnt : Nat}
theorem thru_self (nd : Int → Option Nd) (n : Nat) (i : Int) : thruB nd n i i = true := by cases n <;> simp [thruB]
set_option maxRecDepth 100000 in
set_option maxHeartbeats 8000000 in
theorem repar_c (h : TreeH w t l nd made cnt) (hw : Wide nd) {r : Nat} (h0 : l.nb 0 = some r) {i q x y : Int} (hi : I64 i) (hq : I64 q) {b bp : Nat} {d dp : Nd} (hb : l.nb i = some b) (hd : nd i = some d) (hz : i ≠ 0)
    (hbp : l.nb d.win.par = some bp) (hdp : nd d.win.par = some dp) (hne : d.win.par ≠ i) (hip : I64 d.win.par) (hks : ∀ j dj, nd j = some dj → dj.kids.length ≤ 4096) (n : Nat) (hcase : l.nb q = none ∨ Way nd n q) :
    Calls Try.prog 21 #[treeP t, .int .i64 i, .int .i64 q, .agg #[.int .i64 x, .int .i64 y]] w fun e w' => ReparR w t l nd made cnt i q x y d dp n e w' := by
  obtain ⟨wb, hwb⟩ : ∃ wb, wb = w.alloc (.cells #[.int .i64 x, .int .i64 y] 26) := ⟨_, rfl⟩
  have hbel : Below w.heap.size w wb := by rw [hwb]; exact (Below.refl _ _).alloc (Nat.le_refl _) _
  obtain ⟨wr, hwr⟩ : ∃ wr, wr = (wb.alloc (.cells #[.int .i64 x, .int .i64 y, .int .i64 d.win.w, .int .i64 d.win.h] 23)).drew := ⟨_, rfl⟩
  have hbelr : Below w.heap.size w wr := by rw [hwr]; exact (hbel.alloc hbel.size _).drew
  have H1 := Lib.hid (changeable_some (h.next hbel) h0 hi hb hz)
  have hbx : Blk wb w.heap.size 26 #[.int .i64 x, .int .i64 y] := by rw [hwb]; exact Blk.new w _ _
  obtain ⟨⟨x0, x1⟩, -⟩ := hbx.c2
  have hk := (h.next hbel).cells hb hd
  have k4 := hk.1.2.2.2.2.1
  have k5 := hk.1.2.2.2.2.2.1
  have hbz : Blk ((wb.alloc (.cells #[.int .i64 0, .int .i64 0, .int .i64 0, .int .i64 0] 23)).drew) w.heap.size 26 #[.int .i64 x, .int .i64 y] := (hbx.alloc _).drew
  obtain ⟨⟨a0, a1⟩, -⟩ := hbz.c2
  have hkz := (((h.next hbel).alloc (.cells #[.int .i64 0, .int .i64 0, .int .i64 0, .int .i64 0] 23)).drew.cells hb hd).1
  have a4 := hkz.2.2.2.2.1
  have a5 := hkz.2.2.2.2.2.1
  have hbr : Blk wr wb.heap.size 23 #[.int .i64 x, .int .i64 y, .int .i64 d.win.w, .int .i64 d.win.h] := by rw [hwr]; exact (Blk.new wb _ _).drew
  obtain ⟨⟨r0, r1, r2, r3⟩, -⟩ := hbr.c4
  have hby : Blk wr w.heap.size 26 #[.int .i64 x, .int .i64 y] := by rw [hwr]; exact (hbx.alloc _).drew
  obtain ⟨⟨b0, b1⟩, -⟩ := hby.c2
  have hky := ((h.next hbelr).cells hb hd).1
  have b4 := hky.2.2.2.2.1
  have b5 := hky.2.2.2.2.2.1
  rw [hwr] at b0 b1 b4 b5
  have HF := Lib.hid (And.intro (fun (e : l.nb q = none) => find_none (h.next hbelr) hq e) (fun (bq : Nat) (e : l.nb q = some bq) => find_some (h.next hbelr) hq e))
  have HB := Lib.hid hbelr
  have HH := Lib.hid h
  have HG := Lib.hid (fun (n : Nat) (hW : Way nd n q) => goes_c hw i n q wr (h.next hbelr) hW)
  have HR := Lib.hid (fun W => right_c x y d.win.w d.win.h W)
  have HQ := Lib.hid hcase
  have HL := Lib.hid (fun (W : World) (hW : Below wr.heap.size wr W) => leave_c (h.next (hW.on hbelr hbelr.size)) hbp hb hdp hd rfl hip)
  have HBX := Lib.hid (fun (W : World) (hW : Below wr.heap.size wr W) => hbr.next hW)
  have HBW := Lib.hid (fun (W : World) (hW : Below wr.heap.size wr W) => hW.on hbelr hbelr.size)
  have HNF := Lib.hid (show ¬ l.foot t wb.heap.size from fun hf => by have := h.foot_lt hf; have := hbel.size; omega)
  have HE := Lib.hid (fun (W : World) (l1 : Lay) (hl1 : l1.nb = l.nb) (T1 : TreeH W t l1 (upd nd d.win.par (some ⟨dp.win, strike d.win.id dp.kids⟩)) made cnt) (hqi : q ≠ i) (bq : Nat) (hbq : l.nb q = some bq) (dq : Nd) (hdq : upd nd d.win.par (some ⟨dp.win, strike d.win.id dp.kids⟩) q = some dq) =>
    enter_c T1 (p := q) (c := i) (hl1 ▸ hbq) (hl1 ▸ hb) hdq ((upd_other _ _ hne.symm).trans hd) hqi hq (by
      by_cases hqp : q = d.win.par
      · rw [hqp, upd_same] at hdq
        injection hdq with hdq
        subst hdq
        exact Nat.le_trans (strike_len _ _) (hks _ _ hdp)
      · rw [upd_other _ _ hqp] at hdq
        exact hks _ _ hdq))
  have HZ := Lib.hid (fun (W : World) (l2 : Lay) (hl2 : l2.nb = l.nb) (nd2 : Int → Option Nd) (T2 : TreeH W t l2 nd2 made cnt) (d2 : Nd) (hd2 : nd2 i = some d2) => And.intro (T2.rect (hl2 ▸ hb) hd2 x y d.win.w d.win.h) (T2.cells (hl2 ▸ hb) hd2))
  have HSQ := Lib.hid (fun (bq : Nat) (hbq : l.nb q = some bq) => (show ∃ dq, upd nd d.win.par (some ⟨dp.win, strike d.win.id dp.kids⟩) q = some dq from by
    obtain ⟨dq, hdq⟩ := h.ndOf hbq
    by_cases hqp : q = d.win.par
    · rw [hqp, upd_same]; exact ⟨_, rfl⟩
    · rw [upd_other _ _ hqp]; exact ⟨_, hdq⟩))
  have HTN := Lib.hid hne
  have HW := Lib.hid hwb
  have HWr := Lib.hid hwr
  clear h h0 hi hb hd hz hbel hbx hk hbz hkz hbr hbelr hwr hby hky hcase hbp hdp hne hip hks
  go_enter Try.func21, Try.ntmps21
  go_upto_region 1 with fail
  rw [← HW.out]
  clear hwb
  go_upto_region 4 with (go_at_call 47; ((with_reducible refine (H1.out).mono ?_); rintro e w' ⟨rfl, rfl⟩))
  refine wp_region_noPanic ?_
  refine wp_region_held_drew (S := fun wx => (wx.cell? ⟨w.heap.size, 0, none⟩ = some (.int .i64 x) ∧ wx.cell? ⟨w.heap.size, 1, none⟩ = some (.int .i64 y)) ∧ wx.cell? ⟨b, 4, none⟩ = some (.int .i64 d.win.w) ∧ wx.cell? ⟨b, 5, none⟩ = some (.int .i64 d.win.h)) (by kernel_rfl) (by exact ⟨⟨x0, x1⟩, k4, k5⟩) (fun hHeld => ?_)
  refine wpAnyH_take (i := 0) (v := ?v0) rfl (by kernel_rfl) (by kernel_rfl) (by kernel_rfl) (fun _ _ _ h => h) (Or.inl ⟨by kernel_rfl, ?y0⟩) (by assumption) ?r0
  case y0 => (intro wq hSw; (try dsimp only at hSw); go_simp; (try with_reducible rfl))
  (try simp only [Act.put, List.getElem_toArray, List.getElem_cons_zero, List.setIfInBounds_toArray, List.set_cons_zero, List.set_cons_succ])
  refine wpAnyH_take (i := 1) (v := ?v1) rfl (by kernel_rfl) (by kernel_rfl) (by kernel_rfl) (fun _ _ _ h => h) (Or.inl ⟨by kernel_rfl, ?y1⟩) (by assumption) ?r1
  case y1 => (intro wq hSw; (try dsimp only at hSw); go_simp; (try with_reducible rfl))
  (try simp only [Act.put, List.getElem_toArray, List.getElem_cons_succ, List.getElem_cons_zero, List.setIfInBounds_toArray, List.set_cons_zero, List.set_cons_succ])
  refine wpAnyH_take (i := 2) (v := ?v2) rfl (by kernel_rfl) (by kernel_rfl) (by kernel_rfl) (fun _ _ _ h => h) (Or.inl ⟨by kernel_rfl, ?y2⟩) (by assumption) ?r2
  case y2 => (intro wq hSw; (try dsimp only at hSw); go_simp; (try with_reducible rfl))
  (try simp only [Act.put, List.getElem_toArray, List.getElem_cons_succ, List.getElem_cons_zero, List.setIfInBounds_toArray, List.set_cons_zero, List.set_cons_succ])
  refine wpAnyH_take (i := 3) (v := ?v3) rfl (by kernel_rfl) (by kernel_rfl) (by kernel_rfl) (fun _ _ _ h => h) (Or.inl ⟨by kernel_rfl, ?y3⟩) (by assumption) ?r3
  case y3 => (intro wq hSw; (try dsimp only at hSw); go_simp; (try with_reducible rfl))
  (try simp only [Act.put, List.getElem_toArray, List.getElem_cons_succ, List.getElem_cons_zero, List.setIfInBounds_toArray, List.set_cons_zero, List.set_cons_succ])
  refine wpAnyH_take (i := 4) (v := ?v4) rfl (by kernel_rfl) (by kernel_rfl) (by kernel_rfl) (fun _ _ _ h => h) (Or.inl ⟨by kernel_rfl, ?y4⟩) (by assumption) ?r4
  case y4 => (intro wq hSw; (try dsimp only at hSw); go_simp; (try with_reducible rfl))
  (try simp only [Act.put, List.getElem_toArray, List.getElem_cons_succ, List.getElem_cons_zero, List.setIfInBounds_toArray, List.set_cons_zero, List.set_cons_succ])
  refine wpAnyH_take (i := 5) (v := ?v5) rfl (by kernel_rfl) (by kernel_rfl) (by kernel_rfl) (fun _ _ _ h => h) (Or.inl ⟨by kernel_rfl, ?y5⟩) (by assumption) ?r5
  case y5 => (intro wq hSw; (try dsimp only at hSw); go_simp; (try with_reducible rfl))
  (try simp only [Act.put, List.getElem_toArray, List.getElem_cons_succ, List.getElem_cons_zero, List.setIfInBounds_toArray, List.set_cons_zero, List.set_cons_succ])
  refine wpAnyH_take (i := 6) (v := ?v6) rfl (by kernel_rfl) (by kernel_rfl) (by kernel_rfl) (fun _ _ _ h => h) (Or.inl ⟨by kernel_rfl, ?y6⟩) (by assumption) ?r6
  case y6 => (intro wq hSw; (try dsimp only at hSw); go_simp; (try with_reducible rfl))
  (try simp only [Act.put, List.getElem_toArray, List.getElem_cons_succ, List.getElem_cons_zero, List.setIfInBounds_toArray, List.set_cons_zero, List.set_cons_succ])
  refine wpAnyH_take (i := 7) (v := ?v7) rfl (by kernel_rfl) (by kernel_rfl) (by kernel_rfl) (fun _ _ _ h => h) (Or.inl ⟨by kernel_rfl, ?y7⟩) (by assumption) ?r7
  case y7 => (intro wq hSw; (try dsimp only at hSw); go_simp; (try with_reducible rfl))
  (try simp only [Act.put, List.getElem_toArray, List.getElem_cons_succ, List.getElem_cons_zero, List.setIfInBounds_toArray, List.set_cons_zero, List.set_cons_succ])
  refine wpAnyH_take (i := 8) (v := ?v8) rfl (by kernel_rfl) (by kernel_rfl) (by kernel_rfl) (fun _ _ _ h => h) (Or.inl ⟨by kernel_rfl, ?y8⟩) (by assumption) ?r8
  case y8 => (intro wq hSw; (try dsimp only at hSw); go_simp; (try with_reducible rfl))
  (try simp only [Act.put, List.getElem_toArray, List.getElem_cons_succ, List.getElem_cons_zero, List.setIfInBounds_toArray, List.set_cons_zero, List.set_cons_succ])
  refine wpAnyH_take (i := 9) (v := ?v9) rfl (by kernel_rfl) (by kernel_rfl) (by kernel_rfl) (fun _ _ _ h => h) (Or.inl ⟨by kernel_rfl, ?y9⟩) (by assumption) ?r9
  case y9 => (intro wq hSw; (try dsimp only at hSw); go_simp; (try with_reducible rfl))
  (try simp only [Act.put, List.getElem_toArray, List.getElem_cons_succ, List.getElem_cons_zero, List.setIfInBounds_toArray, List.set_cons_zero, List.set_cons_succ])
  refine wpAnyH_take (i := 10) (v := ?v10) rfl (by kernel_rfl) (by kernel_rfl) (by kernel_rfl) (fun _ _ _ h => h) (Or.inl ⟨by kernel_rfl, ?y10⟩) (by assumption) ?r10
  case y10 => (intro wq hSw; (try dsimp only at hSw); go_simp; (try with_reducible rfl))
  (try simp only [Act.put, List.getElem_toArray, List.getElem_cons_succ, List.getElem_cons_zero, List.setIfInBounds_toArray, List.set_cons_zero, List.set_cons_succ])
  refine wpAnyH_take (i := 11) (v := ?v11) rfl (by kernel_rfl) (by kernel_rfl) (by kernel_rfl) (fun _ _ _ h => h) (Or.inl ⟨by kernel_rfl, ?y11⟩) (by assumption) ?r11
  case y11 => (intro wq hSw; (try dsimp only at hSw); go_simp; (try with_reducible rfl))
  (try simp only [Act.put, List.getElem_toArray, List.getElem_cons_succ, List.getElem_cons_zero, List.setIfInBounds_toArray, List.set_cons_zero, List.set_cons_succ])
  refine wpAnyH_take (i := 12) (v := ?v12) rfl (by kernel_rfl) (by kernel_rfl) (by kernel_rfl) (fun _ _ _ h => h) (Or.inl ⟨by kernel_rfl, ?y12⟩) (by assumption) ?r12
  case y12 => (intro wq hSw; (try dsimp only at hSw); go_simp; (try with_reducible rfl))
  (try simp only [Act.put, List.getElem_toArray, List.getElem_cons_succ, List.getElem_cons_zero, List.setIfInBounds_toArray, List.set_cons_zero, List.set_cons_succ])
  refine wpAnyH_take (i := 13) (v := ?v13) rfl (by kernel_rfl) (by kernel_rfl) (by kernel_rfl) (fun _ _ _ h => h) (Or.inl ⟨by kernel_rfl, ?y13⟩) (by assumption) ?r13
  case y13 => (intro wq hSw; (try dsimp only at hSw); go_simp; (try with_reducible rfl))
  (try simp only [Act.put, List.getElem_toArray, List.getElem_cons_succ, List.getElem_cons_zero, List.setIfInBounds_toArray, List.set_cons_zero, List.set_cons_succ])
  refine wpAnyH_take (i := 14) (v := ?v14) rfl (by kernel_rfl) (by kernel_rfl) (by kernel_rfl) (fun _ _ _ h => h) (Or.inl ⟨by kernel_rfl, ?y14⟩) (by assumption) ?r14
  case y14 => (intro wq hSw; (try dsimp only at hSw); go_simp; (try with_reducible rfl))
  (try simp only [Act.put, List.getElem_toArray, List.getElem_cons_succ, List.getElem_cons_zero, List.setIfInBounds_toArray, List.set_cons_zero, List.set_cons_succ])
  refine wpAnyH_take (i := 15) (v := ?v15) rfl (by kernel_rfl) (by kernel_rfl) (by kernel_rfl) (fun _ _ _ h => h) (Or.inl ⟨by kernel_rfl, ?y15⟩) (by assumption) ?r15
  case y15 => (intro wq hSw; (try dsimp only at hSw); go_simp; (try with_reducible rfl))
  (try simp only [Act.put, List.getElem_toArray, List.getElem_cons_succ, List.getElem_cons_zero, List.setIfInBounds_toArray, List.set_cons_zero, List.set_cons_succ])
  refine wpAnyH_take (i := 16) (v := ?v16) rfl (by kernel_rfl) (by kernel_rfl) (by kernel_rfl) (fun _ _ _ h => h) (Or.inl ⟨by kernel_rfl, ?y16⟩) (by assumption) ?r16
  case y16 => (intro wq hSw; (try dsimp only at hSw); go_simp; (try with_reducible rfl))
  (try simp only [Act.put, List.getElem_toArray, List.getElem_cons_succ, List.getElem_cons_zero, List.setIfInBounds_toArray, List.set_cons_zero, List.set_cons_succ])
  refine wpAnyH_ready (rs := [17]) (by kernel_rfl) (by simp) ?_
  refine AllReadyH.cons rfl (fun K hK => ?_) AllReadyH.nil
  go_simp
  refine hK.out _ _ (by exact ⟨⟨a0, a1⟩, a4, a5⟩) (fun hHeld => ?_)
  clear hK K
  (try simp only [Act.put, List.getElem_toArray, List.getElem_cons_succ, List.getElem_cons_zero, List.setIfInBounds_toArray, List.set_cons_zero, List.set_cons_succ])
  refine wpAnyH_ready (rs := [18]) (by kernel_rfl) (by simp) ?_
  refine AllReadyH.cons rfl (fun K hK => ?_) AllReadyH.nil
  go_simp
  refine hK.out _ _ (by exact ⟨⟨b0, b1⟩, b4, b5⟩) (fun hHeld => ?_)
  clear hK K
  (try simp only [Act.put, List.getElem_toArray, List.getElem_cons_succ, List.getElem_cons_zero, List.setIfInBounds_toArray, List.set_cons_zero, List.set_cons_succ])
  refine wpAnyH_done (by kernel_rfl) ?_ _
  refine NoPanic.normal ?_
  rw [← HWr.out]
  clear a0 a1 a4 a5 b0 b1 b4 b5 x0 x1 k4 k5 hHeld
  cases hnq : l.nb q with
  | none =>
    have HF1 := Lib.hid (HF.out.1 hnq)
    have HN := Lib.hid hnq
    clear hnq
    go_wp2_with (go_at_call 38; ((with_reducible refine (HF1.out).mono ?_); rintro e w' ⟨rfl, rfl⟩))
    go_ret
    unfold ReparR
    rw [if_pos HN.out]
    exact ⟨rfl, HB.out⟩
  | some bq =>
    have HF1 := Lib.hid (HF.out.2 bq hnq)
    have HN := Lib.hid hnq
    have hW : Way nd n q := by
      rcases HQ.out with h1 | h1
      · rw [hnq] at h1; cases h1
      · exact h1
    have hgo := HG.out n hW
    clear hnq
    cases hth : thruB nd n q i with
    | true =>
      rw [hth] at hgo
      have HG1 := Lib.hid hgo
      have HT := Lib.hid hth
      clear hth hgo hW
      go_wp2_with (first
        | (go_at_call 38; ((with_reducible refine (HF1.out).mono ?_); rintro e w' ⟨rfl, rfl⟩))
        | (go_at_call 50; ((with_reducible refine (HG1.out).mono ?_); rintro e w' ⟨rfl, rfl⟩)))
      go_ret
      unfold ReparR
      rw [if_neg (by rw [HN.out]; simp), if_pos HT.out]
      exact ⟨rfl, HB.out⟩
    | false =>
      rw [hth] at hgo
      have HG1 := Lib.hid hgo
      have HT := Lib.hid hth
      have hr0 := HR.out
      clear hgo hW
      cases hri : rightB x y d.win.w d.win.h with
      | false =>
        have HR1 := Lib.hid (fun W => (hri ▸ hr0 W : Calls Try.prog 51 #[.agg #[.int .i64 x, .int .i64 y, .int .i64 d.win.w, .int .i64 d.win.h]] W fun e w' => e = .returned (.bool false) ∧ Below W.heap.size W w'))
        have HRI := Lib.hid hri
        clear hri hr0 hth
        go_wp2_with (first
          | (go_at_call 38; ((with_reducible refine (HF1.out).mono ?_); rintro e w' ⟨rfl, rfl⟩))
          | (go_at_call 50; ((with_reducible refine (HG1.out).mono ?_); rintro e w' ⟨rfl, rfl⟩))
          | (go_at_call 51; ((with_reducible refine (HR1.out _).mono ?_); rintro e w' ⟨rfl, hb⟩)))
        go_ret
        unfold ReparR
        rw [if_neg (by rw [HN.out]; simp), if_neg (by rw [HT.out]; simp), if_pos HRI.out]
        exact ⟨rfl, HBW.out _ hb⟩
      | true =>
        have HR1 := Lib.hid (fun W => (hri ▸ hr0 W : Calls Try.prog 51 #[.agg #[.int .i64 x, .int .i64 y, .int .i64 d.win.w, .int .i64 d.win.h]] W fun e w' => e = .returned (.bool true) ∧ Below W.heap.size W w'))
        have HRI := Lib.hid hri
        have HQI := Lib.hid (show q ≠ i from fun e => by rw [e, thru_self] at hth; cases hth)
        obtain ⟨dq, hdq⟩ := HSQ.out bq HN.out
        have HDQ := Lib.hid hdq
        clear hri hr0 hth hdq
        go_upto_region 11 with (first
          | (go_at_call 38; ((with_reducible refine (HF1.out).mono ?_); rintro e w' ⟨rfl, rfl⟩))
          | (go_at_call 50; ((with_reducible refine (HG1.out).mono ?_); rintro e w' ⟨rfl, rfl⟩))
          | (go_at_call 51; ((with_reducible refine (HR1.out _).mono ?_); rintro e W2 ⟨rfl, hb2⟩)))
        have HL2 := Lib.hid (HL.out _ hb2)
        have bx2 := HBX.out _ hb2
        have hw2 := HBW.out _ hb2
        have HW2 := Lib.hid hw2
        clear hb2 hw2 r0 r1 r2 r3
        have HX2 := Lib.hid bx2
        clear bx2
        go_wp2_with (first
          | (go_at_call 48; ((with_reducible refine (HL2.out).mono ?_); rintro e W3 ⟨rfl, l1, hl1, T1, U1⟩); have HE1 := Lib.hid (HE.out W3 l1 hl1 T1 HQI.out bq HN.out dq HDQ.out); have HX3 := Lib.hid (And.intro (U1.blk HX2.out HNF.out) (U1.not HX2.out.lt HNF.out)); have HU1 := Lib.hid U1; have HL1 := Lib.hid hl1; clear T1 U1 hl1)
          | (go_at_call 52; ((with_reducible refine (HE1.out).mono ?_); rintro e W4 ⟨rfl, l2, hl2, T2, U2⟩); have hx4 := U2.blk HX3.out.1 HX3.out.2; obtain ⟨⟨r0, r1, r2, r3⟩, -⟩ := hx4.c4; have hzz := HZ.out W4 l2 (hl2.trans HL1.out) _ T2 _ (upd_same _ _ _); obtain ⟨T4, ⟨⟨-, -, g2, g3, g4, g5, -, -⟩, gf⟩⟩ := hzz; have f2 := gf 2; have f3 := gf 3; have f4 := gf 4; have f5 := gf 5; have HT4 := Lib.hid T4; have HU2 := Lib.hid U2; have HL2' := Lib.hid hl2; clear T2 U2 hl2 T4 gf hx4))
        go_ret
        unfold ReparR
        rw [if_neg (by rw [HN.out]; simp), if_neg (by rw [HT.out]; simp), if_neg (by rw [HRI.out]; simp)]
        refine ⟨rfl, ?_⟩
        have k := TreeTo.after HW2.out (TreeTo.trans HU1.out (TreeTo.trans HU2.out HT4.out))
        unfold reparNd
        rw [HDQ.out]
        rw [upd_twice, HL2'.out, HL1.out] at k
        exact k
end
end Go.Proofs.Ytlbbjinkblgfiaa
