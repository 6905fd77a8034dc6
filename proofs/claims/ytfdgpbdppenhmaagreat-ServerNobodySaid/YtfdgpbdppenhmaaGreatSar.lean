/- Reparent, walked. Destroy, walked. What Reparent and Destroy make of the tree (pure). What Destroy makes of the tree (pure). -/
import Derived.Test.YtfdgpbdppenhmaaGreatSaj
import Derived.Test.YtfdgpbdppenhmaaGreatSam
import Derived.Test.YtfdgpbdppenhmaaGreatSaq
section
namespace Go.Proofs.YtfdgpbdppenhmaaGreat
open Go.RowKit Go.Shelf Go.Maps
/-- What a tree holds where a window was put into another one. -/
def reparNd (nd : Int → Option Nd) (i q : Int) (d dp : Nd) (x y : Int) : Int → Option Nd :=
  match upd nd d.win.par (some ⟨dp.win, strike d.win.id dp.kids⟩) q with
  | none => nd
  | some dq => upd (upd (upd nd d.win.par (some ⟨dp.win, strike d.win.id dp.kids⟩)) q (some ⟨dq.win, dq.kids ++ [d.win.id]⟩)) i (some ⟨⟨d.win.id, q, x, y, d.win.w, d.win.h, d.win.on⟩, d.kids⟩)
/-- What Reparent answers. -/
def ReparR (w : World) (t : Nat) (l : Lay) (nd : Int → Option Nd) (made : Int) (cnt : Nat) (i q x y : Int) (d dp : Nd) (n : Nat) (e : Ending) (w' : World) : Prop :=
  if l.nb q = none then e = .returned (.int .i64 6) ∧ Below w.heap.size w w'
  else if thruB nd n q i = true then e = .returned (.int .i64 61) ∧ Below w.heap.size w w'
  else if rightB x y d.win.w d.win.h = false then e = .returned (.int .i64 10) ∧ Below w.heap.size w w'
  else e = .returned (.int .i64 0) ∧ TreeTo w t l l.nb (reparNd nd i q d dp x y) made cnt w'
section
variable {w : World} {t : Nat} {l : Lay} {nd : Int → Option Nd} {made : Int} {cnt : Nat}
theorem thru_self (nd : Int → Option Nd) (n : Nat) (i : Int) : thruB nd n i i = true := by cases n <;> simp [thruB]
set_option maxRecDepth 100000 in
set_option maxHeartbeats 8000000 in
theorem repar_c (h : TreeH w t l nd made cnt) (hw : Wide nd) {r : Nat} (h0 : l.nb 0 = some r) {i q x y : Int} (hi : I64 i) (hq : I64 q) {b bp : Nat} {d dp : Nd} (hb : l.nb i = some b) (hd : nd i = some d) (hz : i ≠ 0)
    (hbp : l.nb d.win.par = some bp) (hdp : nd d.win.par = some dp) (hne : d.win.par ≠ i) (hip : I64 d.win.par) (hks : ∀ j dj, nd j = some dj → dj.kids.length ≤ 4096) (n : Nat) (hcase : l.nb q = none ∨ Way nd n q) :
    Calls Tryz.prog 76 #[treeP t, .int .i64 i, .int .i64 q, .agg #[.int .i64 x, .int .i64 y]] w fun e w' => ReparR w t l nd made cnt i q x y d dp n e w' := by
  obtain ⟨wb, hwb⟩ : ∃ wb, wb = w.alloc (.cells #[.int .i64 x, .int .i64 y] 87) := ⟨_, rfl⟩
  have hbel : Below w.heap.size w wb := by rw [hwb]; exact (Below.refl _ _).alloc (Nat.le_refl _) _
  obtain ⟨wr, hwr⟩ : ∃ wr, wr = (wb.alloc (.cells #[.int .i64 x, .int .i64 y, .int .i64 d.win.w, .int .i64 d.win.h] 23)).drew := ⟨_, rfl⟩
  have hbelr : Below w.heap.size w wr := by rw [hwr]; exact (hbel.alloc hbel.size _).drew
  have H1 := Lib.hid (changeable_some (h.next hbel) h0 hi hb hz)
  have hbx : Blk wb w.heap.size 87 #[.int .i64 x, .int .i64 y] := by rw [hwb]; exact Blk.new w _ _
  obtain ⟨⟨x0, x1⟩, -⟩ := hbx.c2
  have hk := (h.next hbel).cells hb hd
  have k4 := hk.1.2.2.2.2.1
  have k5 := hk.1.2.2.2.2.2.1
  have hbz : Blk ((wb.alloc (.cells #[.int .i64 0, .int .i64 0, .int .i64 0, .int .i64 0] 23)).drew) w.heap.size 87 #[.int .i64 x, .int .i64 y] := (hbx.alloc _).drew
  obtain ⟨⟨a0, a1⟩, -⟩ := hbz.c2
  have hkz := (((h.next hbel).alloc (.cells #[.int .i64 0, .int .i64 0, .int .i64 0, .int .i64 0] 23)).drew.cells hb hd).1
  have a4 := hkz.2.2.2.2.1
  have a5 := hkz.2.2.2.2.2.1
  have hbr : Blk wr wb.heap.size 23 #[.int .i64 x, .int .i64 y, .int .i64 d.win.w, .int .i64 d.win.h] := by rw [hwr]; exact (Blk.new wb _ _).drew
  obtain ⟨⟨r0, r1, r2, r3⟩, -⟩ := hbr.c4
  have hby : Blk wr w.heap.size 87 #[.int .i64 x, .int .i64 y] := by rw [hwr]; exact (hbx.alloc _).drew
  obtain ⟨⟨b0, b1⟩, -⟩ := hby.c2
  have hky := ((h.next hbelr).cells hb hd).1
  have b4 := hky.2.2.2.2.1
  have b5 := hky.2.2.2.2.2.1
  rw [hwr] at b0 b1 b4 b5
  have HF := Lib.hid (And.intro (fun (e : l.nb q = none) => find_none (h.next hbelr) hq e) (fun (bq : Nat) (e : l.nb q = some bq) => find_some (h.next hbelr) hq e))
  have HB := Lib.hid hbelr
  have HH := Lib.hid h
  have HG := Lib.hid (fun (n : Nat) (hW : Way nd n q) => goes_c hw i n q wr (h.next hbelr) hW)
  have HR := Lib.hid (fun W => right_c x y d.win.w d.win.h W)
  have HQ := Lib.hid hcase
  have HL := Lib.hid (fun (W : World) (hW : Below wr.heap.size wr W) => leave_c (h.next (hW.on hbelr hbelr.size)) hbp hb hdp hd rfl hip)
  have HBX := Lib.hid (fun (W : World) (hW : Below wr.heap.size wr W) => hbr.next hW)
  have HBW := Lib.hid (fun (W : World) (hW : Below wr.heap.size wr W) => hW.on hbelr hbelr.size)
  have HNF := Lib.hid (show ¬ l.foot t wb.heap.size from fun hf => by have := h.foot_lt hf; have := hbel.size; omega)
  have HE := Lib.hid (fun (W : World) (l1 : Lay) (hl1 : l1.nb = l.nb) (T1 : TreeH W t l1 (upd nd d.win.par (some ⟨dp.win, strike d.win.id dp.kids⟩)) made cnt) (hqi : q ≠ i) (bq : Nat) (hbq : l.nb q = some bq) (dq : Nd) (hdq : upd nd d.win.par (some ⟨dp.win, strike d.win.id dp.kids⟩) q = some dq) =>
    enter_c T1 (p := q) (c := i) (hl1 ▸ hbq) (hl1 ▸ hb) hdq ((upd_other _ _ hne.symm).trans hd) hqi hq (by
      by_cases hqp : q = d.win.par
      · rw [hqp, upd_same] at hdq
        injection hdq with hdq
        subst hdq
        exact Nat.le_trans (strike_len _ _) (hks _ _ hdp)
      · rw [upd_other _ _ hqp] at hdq
        exact hks _ _ hdq))
  have HZ := Lib.hid (fun (W : World) (l2 : Lay) (hl2 : l2.nb = l.nb) (nd2 : Int → Option Nd) (T2 : TreeH W t l2 nd2 made cnt) (d2 : Nd) (hd2 : nd2 i = some d2) => And.intro (T2.rect (hl2 ▸ hb) hd2 x y d.win.w d.win.h) (T2.cells (hl2 ▸ hb) hd2))
  have HSQ := Lib.hid (fun (bq : Nat) (hbq : l.nb q = some bq) => (show ∃ dq, upd nd d.win.par (some ⟨dp.win, strike d.win.id dp.kids⟩) q = some dq from by
    obtain ⟨dq, hdq⟩ := h.ndOf hbq
    by_cases hqp : q = d.win.par
    · rw [hqp, upd_same]; exact ⟨_, rfl⟩
    · rw [upd_other _ _ hqp]; exact ⟨_, hdq⟩))
  have HTN := Lib.hid hne
  have HW := Lib.hid hwb
  have HWr := Lib.hid hwr
  clear h h0 hi hb hd hz hbel hbx hk hbz hkz hbr hbelr hwr hby hky hcase hbp hdp hne hip hks
  go_enter Tryz.func76, Tryz.ntmps76
  go_upto_region 1 with fail
  rw [← HW.out]
  clear hwb
  go_upto_region 4 with (go_at_call 103; ((with_reducible refine (H1.out).mono ?_); rintro e w' ⟨rfl, rfl⟩))
  refine wp_region_noPanic ?_
  refine wp_region_held_drew (S := fun wx => (wx.cell? ⟨w.heap.size, 0, none⟩ = some (.int .i64 x) ∧ wx.cell? ⟨w.heap.size, 1, none⟩ = some (.int .i64 y)) ∧ wx.cell? ⟨b, 4, none⟩ = some (.int .i64 d.win.w) ∧ wx.cell? ⟨b, 5, none⟩ = some (.int .i64 d.win.h)) (by kernel_rfl) (by exact ⟨⟨x0, x1⟩, k4, k5⟩) (fun hHeld => ?_)
  refine wpAnyH_take (i := 0) (v := ?v0) rfl (by kernel_rfl) (by kernel_rfl) (by kernel_rfl) (fun _ _ _ h => h) (Or.inl ⟨by kernel_rfl, ?y0⟩) (by assumption) ?r0
  case y0 => (intro wq hSw; (try dsimp only at hSw); go_simp; (try with_reducible rfl))
  (try simp only [Act.put, List.getElem_toArray, List.getElem_cons_zero, List.setIfInBounds_toArray, List.set_cons_zero, List.set_cons_succ])
  refine wpAnyH_take (i := 1) (v := ?v1) rfl (by kernel_rfl) (by kernel_rfl) (by kernel_rfl) (fun _ _ _ h => h) (Or.inl ⟨by kernel_rfl, ?y1⟩) (by assumption) ?r1
  case y1 => (intro wq hSw; (try dsimp only at hSw); go_simp; (try with_reducible rfl))
  (try simp only [Act.put, List.getElem_toArray, List.getElem_cons_succ, List.getElem_cons_zero, List.setIfInBounds_toArray, List.set_cons_zero, List.set_cons_succ])
  refine wpAnyH_take (i := 2) (v := ?v2) rfl (by kernel_rfl) (by kernel_rfl) (by kernel_rfl) (fun _ _ _ h => h) (Or.inl ⟨by kernel_rfl, ?y2⟩) (by assumption) ?r2
  case y2 => (intro wq hSw; (try dsimp only at hSw); go_simp; (try with_reducible rfl))
  (try simp only [Act.put, List.getElem_toArray, List.getElem_cons_succ, List.getElem_cons_zero, List.setIfInBounds_toArray, List.set_cons_zero, List.set_cons_succ])
  refine wpAnyH_take (i := 3) (v := ?v3) rfl (by kernel_rfl) (by kernel_rfl) (by kernel_rfl) (fun _ _ _ h => h) (Or.inl ⟨by kernel_rfl, ?y3⟩) (by assumption) ?r3
  case y3 => (intro wq hSw; (try dsimp only at hSw); go_simp; (try with_reducible rfl))
  (try simp only [Act.put, List.getElem_toArray, List.getElem_cons_succ, List.getElem_cons_zero, List.setIfInBounds_toArray, List.set_cons_zero, List.set_cons_succ])
  refine wpAnyH_take (i := 4) (v := ?v4) rfl (by kernel_rfl) (by kernel_rfl) (by kernel_rfl) (fun _ _ _ h => h) (Or.inl ⟨by kernel_rfl, ?y4⟩) (by assumption) ?r4
  case y4 => (intro wq hSw; (try dsimp only at hSw); go_simp; (try with_reducible rfl))
  (try simp only [Act.put, List.getElem_toArray, List.getElem_cons_succ, List.getElem_cons_zero, List.setIfInBounds_toArray, List.set_cons_zero, List.set_cons_succ])
  refine wpAnyH_take (i := 5) (v := ?v5) rfl (by kernel_rfl) (by kernel_rfl) (by kernel_rfl) (fun _ _ _ h => h) (Or.inl ⟨by kernel_rfl, ?y5⟩) (by assumption) ?r5
  case y5 => (intro wq hSw; (try dsimp only at hSw); go_simp; (try with_reducible rfl))
  (try simp only [Act.put, List.getElem_toArray, List.getElem_cons_succ, List.getElem_cons_zero, List.setIfInBounds_toArray, List.set_cons_zero, List.set_cons_succ])
  refine wpAnyH_take (i := 6) (v := ?v6) rfl (by kernel_rfl) (by kernel_rfl) (by kernel_rfl) (fun _ _ _ h => h) (Or.inl ⟨by kernel_rfl, ?y6⟩) (by assumption) ?r6
  case y6 => (intro wq hSw; (try dsimp only at hSw); go_simp; (try with_reducible rfl))
  (try simp only [Act.put, List.getElem_toArray, List.getElem_cons_succ, List.getElem_cons_zero, List.setIfInBounds_toArray, List.set_cons_zero, List.set_cons_succ])
  refine wpAnyH_take (i := 7) (v := ?v7) rfl (by kernel_rfl) (by kernel_rfl) (by kernel_rfl) (fun _ _ _ h => h) (Or.inl ⟨by kernel_rfl, ?y7⟩) (by assumption) ?r7
  case y7 => (intro wq hSw; (try dsimp only at hSw); go_simp; (try with_reducible rfl))
  (try simp only [Act.put, List.getElem_toArray, List.getElem_cons_succ, List.getElem_cons_zero, List.setIfInBounds_toArray, List.set_cons_zero, List.set_cons_succ])
  refine wpAnyH_take (i := 8) (v := ?v8) rfl (by kernel_rfl) (by kernel_rfl) (by kernel_rfl) (fun _ _ _ h => h) (Or.inl ⟨by kernel_rfl, ?y8⟩) (by assumption) ?r8
  case y8 => (intro wq hSw; (try dsimp only at hSw); go_simp; (try with_reducible rfl))
  (try simp only [Act.put, List.getElem_toArray, List.getElem_cons_succ, List.getElem_cons_zero, List.setIfInBounds_toArray, List.set_cons_zero, List.set_cons_succ])
  refine wpAnyH_take (i := 9) (v := ?v9) rfl (by kernel_rfl) (by kernel_rfl) (by kernel_rfl) (fun _ _ _ h => h) (Or.inl ⟨by kernel_rfl, ?y9⟩) (by assumption) ?r9
  case y9 => (intro wq hSw; (try dsimp only at hSw); go_simp; (try with_reducible rfl))
  (try simp only [Act.put, List.getElem_toArray, List.getElem_cons_succ, List.getElem_cons_zero, List.setIfInBounds_toArray, List.set_cons_zero, List.set_cons_succ])
  refine wpAnyH_take (i := 10) (v := ?v10) rfl (by kernel_rfl) (by kernel_rfl) (by kernel_rfl) (fun _ _ _ h => h) (Or.inl ⟨by kernel_rfl, ?y10⟩) (by assumption) ?r10
  case y10 => (intro wq hSw; (try dsimp only at hSw); go_simp; (try with_reducible rfl))
  (try simp only [Act.put, List.getElem_toArray, List.getElem_cons_succ, List.getElem_cons_zero, List.setIfInBounds_toArray, List.set_cons_zero, List.set_cons_succ])
  refine wpAnyH_take (i := 11) (v := ?v11) rfl (by kernel_rfl) (by kernel_rfl) (by kernel_rfl) (fun _ _ _ h => h) (Or.inl ⟨by kernel_rfl, ?y11⟩) (by assumption) ?r11
  case y11 => (intro wq hSw; (try dsimp only at hSw); go_simp; (try with_reducible rfl))
  (try simp only [Act.put, List.getElem_toArray, List.getElem_cons_succ, List.getElem_cons_zero, List.setIfInBounds_toArray, List.set_cons_zero, List.set_cons_succ])
  refine wpAnyH_take (i := 12) (v := ?v12) rfl (by kernel_rfl) (by kernel_rfl) (by kernel_rfl) (fun _ _ _ h => h) (Or.inl ⟨by kernel_rfl, ?y12⟩) (by assumption) ?r12
  case y12 => (intro wq hSw; (try dsimp only at hSw); go_simp; (try with_reducible rfl))
  (try simp only [Act.put, List.getElem_toArray, List.getElem_cons_succ, List.getElem_cons_zero, List.setIfInBounds_toArray, List.set_cons_zero, List.set_cons_succ])
  refine wpAnyH_take (i := 13) (v := ?v13) rfl (by kernel_rfl) (by kernel_rfl) (by kernel_rfl) (fun _ _ _ h => h) (Or.inl ⟨by kernel_rfl, ?y13⟩) (by assumption) ?r13
  case y13 => (intro wq hSw; (try dsimp only at hSw); go_simp; (try with_reducible rfl))
  (try simp only [Act.put, List.getElem_toArray, List.getElem_cons_succ, List.getElem_cons_zero, List.setIfInBounds_toArray, List.set_cons_zero, List.set_cons_succ])
  refine wpAnyH_take (i := 14) (v := ?v14) rfl (by kernel_rfl) (by kernel_rfl) (by kernel_rfl) (fun _ _ _ h => h) (Or.inl ⟨by kernel_rfl, ?y14⟩) (by assumption) ?r14
  case y14 => (intro wq hSw; (try dsimp only at hSw); go_simp; (try with_reducible rfl))
  (try simp only [Act.put, List.getElem_toArray, List.getElem_cons_succ, List.getElem_cons_zero, List.setIfInBounds_toArray, List.set_cons_zero, List.set_cons_succ])
  refine wpAnyH_take (i := 15) (v := ?v15) rfl (by kernel_rfl) (by kernel_rfl) (by kernel_rfl) (fun _ _ _ h => h) (Or.inl ⟨by kernel_rfl, ?y15⟩) (by assumption) ?r15
  case y15 => (intro wq hSw; (try dsimp only at hSw); go_simp; (try with_reducible rfl))
  (try simp only [Act.put, List.getElem_toArray, List.getElem_cons_succ, List.getElem_cons_zero, List.setIfInBounds_toArray, List.set_cons_zero, List.set_cons_succ])
  refine wpAnyH_take (i := 16) (v := ?v16) rfl (by kernel_rfl) (by kernel_rfl) (by kernel_rfl) (fun _ _ _ h => h) (Or.inl ⟨by kernel_rfl, ?y16⟩) (by assumption) ?r16
  case y16 => (intro wq hSw; (try dsimp only at hSw); go_simp; (try with_reducible rfl))
  (try simp only [Act.put, List.getElem_toArray, List.getElem_cons_succ, List.getElem_cons_zero, List.setIfInBounds_toArray, List.set_cons_zero, List.set_cons_succ])
  refine wpAnyH_ready (rs := [17]) (by kernel_rfl) (by simp) ?_
  refine AllReadyH.cons rfl (fun K hK => ?_) AllReadyH.nil
  go_simp
  refine hK.out _ _ (by exact ⟨⟨a0, a1⟩, a4, a5⟩) (fun hHeld => ?_)
  clear hK K
  (try simp only [Act.put, List.getElem_toArray, List.getElem_cons_succ, List.getElem_cons_zero, List.setIfInBounds_toArray, List.set_cons_zero, List.set_cons_succ])
  refine wpAnyH_ready (rs := [18]) (by kernel_rfl) (by simp) ?_
  refine AllReadyH.cons rfl (fun K hK => ?_) AllReadyH.nil
  go_simp
  refine hK.out _ _ (by exact ⟨⟨b0, b1⟩, b4, b5⟩) (fun hHeld => ?_)
  clear hK K
  (try simp only [Act.put, List.getElem_toArray, List.getElem_cons_succ, List.getElem_cons_zero, List.setIfInBounds_toArray, List.set_cons_zero, List.set_cons_succ])
  refine wpAnyH_done (by kernel_rfl) ?_ _
  refine NoPanic.normal ?_
  rw [← HWr.out]
  clear a0 a1 a4 a5 b0 b1 b4 b5 x0 x1 k4 k5 hHeld
  cases hnq : l.nb q with
  | none =>
    have HF1 := Lib.hid (HF.out.1 hnq)
    have HN := Lib.hid hnq
    clear hnq
    go_wp2_with (go_at_call 66; ((with_reducible refine (HF1.out).mono ?_); rintro e w' ⟨rfl, rfl⟩))
    go_ret
    unfold ReparR
    rw [if_pos HN.out]
    exact ⟨rfl, HB.out⟩
  | some bq =>
    have HF1 := Lib.hid (HF.out.2 bq hnq)
    have HN := Lib.hid hnq
    have hW : Way nd n q := by
      rcases HQ.out with h1 | h1
      · rw [hnq] at h1; cases h1
      · exact h1
    have hgo := HG.out n hW
    clear hnq
    cases hth : thruB nd n q i with
    | true =>
      rw [hth] at hgo
      have HG1 := Lib.hid hgo
      have HT := Lib.hid hth
      clear hth hgo hW
      go_wp2_with (first
        | (go_at_call 66; ((with_reducible refine (HF1.out).mono ?_); rintro e w' ⟨rfl, rfl⟩))
        | (go_at_call 104; ((with_reducible refine (HG1.out).mono ?_); rintro e w' ⟨rfl, rfl⟩)))
      go_ret
      unfold ReparR
      rw [if_neg (by rw [HN.out]; simp), if_pos HT.out]
      exact ⟨rfl, HB.out⟩
    | false =>
      rw [hth] at hgo
      have HG1 := Lib.hid hgo
      have HT := Lib.hid hth
      have hr0 := HR.out
      clear hgo hW
      cases hri : rightB x y d.win.w d.win.h with
      | false =>
        have HR1 := Lib.hid (fun W => (hri ▸ hr0 W : Calls Tryz.prog 81 #[.agg #[.int .i64 x, .int .i64 y, .int .i64 d.win.w, .int .i64 d.win.h]] W fun e w' => e = .returned (.bool false) ∧ Below W.heap.size W w'))
        have HRI := Lib.hid hri
        clear hri hr0 hth
        go_wp2_with (first
          | (go_at_call 66; ((with_reducible refine (HF1.out).mono ?_); rintro e w' ⟨rfl, rfl⟩))
          | (go_at_call 104; ((with_reducible refine (HG1.out).mono ?_); rintro e w' ⟨rfl, rfl⟩))
          | (go_at_call 81; ((with_reducible refine (HR1.out _).mono ?_); rintro e w' ⟨rfl, hb⟩)))
        go_ret
        unfold ReparR
        rw [if_neg (by rw [HN.out]; simp), if_neg (by rw [HT.out]; simp), if_pos HRI.out]
        exact ⟨rfl, HBW.out _ hb⟩
      | true =>
        have HR1 := Lib.hid (fun W => (hri ▸ hr0 W : Calls Tryz.prog 81 #[.agg #[.int .i64 x, .int .i64 y, .int .i64 d.win.w, .int .i64 d.win.h]] W fun e w' => e = .returned (.bool true) ∧ Below W.heap.size W w'))
        have HRI := Lib.hid hri
        have HQI := Lib.hid (show q ≠ i from fun e => by rw [e, thru_self] at hth; cases hth)
        obtain ⟨dq, hdq⟩ := HSQ.out bq HN.out
        have HDQ := Lib.hid hdq
        clear hri hr0 hth hdq
        go_upto_region 11 with (first
          | (go_at_call 66; ((with_reducible refine (HF1.out).mono ?_); rintro e w' ⟨rfl, rfl⟩))
          | (go_at_call 104; ((with_reducible refine (HG1.out).mono ?_); rintro e w' ⟨rfl, rfl⟩))
          | (go_at_call 81; ((with_reducible refine (HR1.out _).mono ?_); rintro e W2 ⟨rfl, hb2⟩)))
        have HL2 := Lib.hid (HL.out _ hb2)
        have bx2 := HBX.out _ hb2
        have hw2 := HBW.out _ hb2
        have HW2 := Lib.hid hw2
        clear hb2 hw2 r0 r1 r2 r3
        have HX2 := Lib.hid bx2
        clear bx2
        go_wp2_with (first
          | (go_at_call 105; ((with_reducible refine (HL2.out).mono ?_); rintro e W3 ⟨rfl, l1, hl1, T1, U1⟩); have HE1 := Lib.hid (HE.out W3 l1 hl1 T1 HQI.out bq HN.out dq HDQ.out); have HX3 := Lib.hid (And.intro (U1.blk HX2.out HNF.out) (U1.not HX2.out.lt HNF.out)); have HU1 := Lib.hid U1; have HL1 := Lib.hid hl1; clear T1 U1 hl1)
          | (go_at_call 106; ((with_reducible refine (HE1.out).mono ?_); rintro e W4 ⟨rfl, l2, hl2, T2, U2⟩); have hx4 := U2.blk HX3.out.1 HX3.out.2; obtain ⟨⟨r0, r1, r2, r3⟩, -⟩ := hx4.c4; have hzz := HZ.out W4 l2 (hl2.trans HL1.out) _ T2 _ (upd_same _ _ _); obtain ⟨T4, ⟨⟨-, -, g2, g3, g4, g5, -, -⟩, gf⟩⟩ := hzz; have f2 := gf 2; have f3 := gf 3; have f4 := gf 4; have f5 := gf 5; have HT4 := Lib.hid T4; have HU2 := Lib.hid U2; have HL2' := Lib.hid hl2; clear T2 U2 hl2 T4 gf hx4))
        go_ret
        unfold ReparR
        rw [if_neg (by rw [HN.out]; simp), if_neg (by rw [HT.out]; simp), if_neg (by rw [HRI.out]; simp)]
        refine ⟨rfl, ?_⟩
        have k := TreeTo.after HW2.out (TreeTo.trans HU1.out (TreeTo.trans HU2.out HT4.out))
        unfold reparNd
        rw [HDQ.out]
        rw [upd_twice, HL2'.out, HL1.out] at k
        exact k
end
end Go.Proofs.YtfdgpbdppenhmaaGreat
end
section
namespace Go.Proofs.YtfdgpbdppenhmaaGreat
open Go.RowKit Go.Shelf Go.Maps
/-- What is left of a tree. -/
def wipe (nd : Int → Option Nd) (xs : List Int) : Int → Option Nd := fun j => if j ∈ xs then none else nd j
theorem wipe_nil (nd : Int → Option Nd) : wipe nd [] = nd := by
  funext j; unfold wipe; simp
theorem wipe_snoc (nd : Int → Option Nd) (xs : List Int) (x : Int) : wipe nd (xs ++ [x]) = upd (wipe nd xs) x none := by
  funext j
  unfold wipe upd
  by_cases h1 : j = x
  · subst h1; simp
  · by_cases h2 : j ∈ xs <;> simp [h1, h2]
theorem wpList_delete_at {P : Program} (hP : P = Tryz.prog) {w : World} {ops : Array Oper} {rest : List Oper} {o : Oper} {a : Act} {Q : Exit → Act → World → Prop} (hg : o.guard = none) (m x : Operand)
    (hop : o.op = Op.call { callee := Callee.builtin Builtin.delete, args := #[m, x], argTypes := #[103, 3] }) {bm n : Nat} {nb : Int → Option Nat} (h : MapAt w bm nb n)
    (hm : a.eval m = .map (some bm)) {i : Int} (hx : a.eval x = .int .i64 i) (hi : I64 i) {b : Nat} (hb : nb i = some b)
    (hK : ∀ w', MapAt w' bm (upd nb i none) (n - 1) → w.grownBy w' (some bm) → 1 ≤ n → wpList P ops Q rest (a.put o.dst (.tuple #[])) w') :
    wpList P ops Q (o :: rest) a w := by
  subst hP
  refine wpList_plain hg fun K' hK' => ?_
  obtain ⟨w', hrun, r1, r2, r3⟩ := h.del hi hb o.type
  unfold Oper.wp
  simp [execOp, hop, resolve, invoke, builtin, hm, hx, hrun, Result.andThen]
  exact hK' _ _ (hK w' r1 r2 r3)
section
variable {w w' : World} {t : Nat} {l : Lay} {nd : Int → Option Nd} {made : Int} {cnt : Nat}
/-- A node less. -/
theorem TreeH.del (h : TreeH w t l nd made cnt) {k : Int} (hm : MapAt w' l.bm (upd l.nb k none) (cnt - 1)) (hg : w.grownBy w' (some l.bm)) :
    TreeH w' t { l with nb := upd l.nb k none } (upd nd k none) made (cnt - 1) ∧ Turn (l.foot t) (({ l with nb := upd l.nb k none } : Lay).foot t) w w' := by
  have old : ∀ {i : Int} {b : Nat}, upd l.nb k none i = some b → i ≠ k ∧ l.nb i = some b := fun {i b} hb => by
    by_cases hik : i = k
    · rw [hik, upd_same] at hb; cases hb
    · rw [upd_other _ _ hik] at hb; exact ⟨hik, hb⟩
  have old2 : ∀ {i : Int}, (upd l.nb k none i).isSome = true → (l.nb i).isSome = true := fun {i} hi => by
    obtain ⟨b, hb⟩ := Option.isSome_iff_exists.1 hi
    rw [(old hb).2]; rfl
  refine ⟨⟨h.tree.grown hg (fun e => by injection e with e; exact blk_not_map h.tree h.map e), hm, fun i => ?_, fun i b d hb hd => ?_, fun i j b hi hj => h.inj i j b (old hi).2 (old hj).2, fun i j b hi hj h1 h2 => h.apart i j b (old2 hi) (old2 hj) h1 h2⟩,
    ⟨hg.os, hg.tape, hg.output, hg.size, fun i hi hn => hg.block i hi (fun e => hn (.inr (.inl (by injection e)))), fun i hi => .inl ?_⟩⟩
  · show (upd l.nb k none i).isSome = _
    unfold upd
    split
    · rfl
    · exact h.dom i
  · obtain ⟨hik, hb'⟩ := old hb
    rw [upd_other _ _ hik] at hd
    obtain ⟨h1, h2⟩ := h.node i b d hb' hd
    refine ⟨h1.grown hg (fun e => by injection e with e; exact blk_not_map h1 h.map e), row_same h2 fun r hr => ?_⟩
    obtain ⟨cs, hc⟩ := row_type h2 hr
    exact hg.block r hc.lt (fun e => by injection e with e; exact blk_not_map hc h.map e)
  · rcases hi with rfl | rfl | ⟨j, hj⟩ | ⟨j, hj, hr⟩
    · exact .inl rfl
    · exact .inr (.inl rfl)
    · exact .inr (.inr (.inl ⟨j, (old hj).2⟩))
    · exact .inr (.inr (.inr ⟨j, old2 hj, hr⟩))
theorem below_none {w w' : World} (h : w.grownBy w' none) : Below w.heap.size w w' := ⟨h.os, h.tape, h.output, h.size, fun i hi => h.block i hi (by simp)⟩
theorem nodup_take {xs : List Int} (h : xs.Nodup) {k : Nat} {x : Int} (hx : xs[k]? = some x) : x ∉ xs.take k := by
  intro hm
  obtain ⟨j, hj⟩ := List.getElem?_of_mem hm
  have h1 := (List.getElem?_eq_some_iff.1 hj).1
  rw [List.length_take] at h1
  rw [List.getElem?_take_of_lt (by omega)] at hj
  have h2 := (List.getElem?_eq_some_iff.1 hx).1
  have := (List.getElem?_inj (by omega) h).1 (hj.trans hx.symm)
  omega
/-- The rounds of Destroy. -/
def DeS (w : World) (t : Nat) (l : Lay) (bm : Nat) (nd1 : Int → Option Nd) (made : Int) (cnt : Nat) (v : Value) (xs : List Int) (k : Nat) (wr : World) : Prop :=
  ∃ l', l'.bm = bm ∧ TreeH wr t l' (wipe nd1 (xs.take k)) made (cnt - k) ∧ Turn (l.foot t) (l'.foot t) w wr ∧ wr.ownsRow 0 3 1 v xs.length (intsV xs) ∧ ∀ r, v.ownBlock = some r → ¬ l'.foot t r
/-- What Destroy answers. -/
def DestR (w : World) (t : Nat) (l : Lay) (nd1 : Int → Option Nd) (made : Int) (cnt : Nat) (xs : List Int) (e : Ending) (w' : World) : Prop :=
  ∃ v, e = .returned (.tuple #[v, .int .i64 0]) ∧ w'.ownsRow 0 3 1 v xs.length (intsV xs) ∧ (∀ r, v.ownBlock = some r → w.heap.size ≤ r) ∧ ∃ l', TreeH w' t l' (wipe nd1 xs) made (cnt - xs.length) ∧ Turn (l.foot t) (l'.foot t) w w' ∧ ∀ r, v.ownBlock = some r → ¬ l'.foot t r
set_option maxRecDepth 100000 in
set_option maxHeartbeats 4000000 in
theorem destroy_c (h : TreeH w t l nd made cnt) (hw : Wide nd) {r : Nat} (h0 : l.nb 0 = some r) {i : Int} (hi : I64 i) {b bp : Nat} {d dp : Nd} (hb : l.nb i = some b) (hd : nd i = some d) (hz : i ≠ 0) (hbp : l.nb d.win.par = some bp) (hdp : nd d.win.par = some dp)
    (n : Nat) (nd1 : Int → Option Nd) (hn1 : nd1 = upd nd d.win.par (some ⟨dp.win, strike d.win.id dp.kids⟩)) (hT : Tall nd1 n i) (hlen : (allL nd1 n i).length ≤ 1048576) (hnd : (allL nd1 n i).Nodup) (hin : ∀ x ∈ allL nd1 n i, ∃ dx, nd1 x = some dx) :
    Calls Tryz.prog 109 #[treeP t, .int .i64 i] w fun e w' => DestR w t l nd1 made cnt (allL nd1 n i) e w' := by
  have hw1 : Wide nd1 := by
    intro j dj hj
    rw [hn1] at hj
    by_cases hjp : j = d.win.par
    · rw [hjp, upd_same] at hj
      injection hj with hj
      subst hj
      have := hw _ _ hdp
      rw [hjp]; exact this
    · rw [upd_other _ _ hjp] at hj; exact hw _ _ hj
  have HC := Lib.hid (changeable_some h h0 hi hb hz)
  have hlv := leave_c h hbp hb hdp hd rfl (hw _ _ hd).2
  rw [← hn1] at hlv
  have HL := Lib.hid hlv
  obtain ⟨xs, hxs⟩ : ∃ xs, xs = allL nd1 n i := ⟨_, rfl⟩
  have HGA := Lib.hid (fun (W : World) (l1 : Lay) (T1 : TreeH W t l1 nd1 made cnt) => gather_c hw1 n i (.slice none 0 0) [] W T1 hT (World.ownsRow_nil _ _ _ _) (fun r hr => by cases hr) (by simpa using hlen))
  rw [List.nil_append, ← hxs] at HGA
  rw [← hxs] at hlen hnd hin ⊢
  have HIN := Lib.hid (And.intro hin (And.intro hnd hw1))
  have HLEN := Lib.hid hlen
  clear h hw h0 hi hb hd hz hbp hdp hn1 hT hlen hnd hin hw1 hlv hxs
  go_enter Tryz.func109, Tryz.ntmps109
  go_upto_region 6 with (first
    | (go_at_call 103; ((with_reducible refine (HC.out).mono ?_); rintro e w' ⟨rfl, rfl⟩))
    | (go_at_call 105; ((with_reducible refine (HL.out).mono ?_); rintro e w1 ⟨rfl, l1, hl1, T1, U1⟩); have HG1 := Lib.hid (HGA.out w1 l1 T1); have HT1 := Lib.hid T1; have HU1 := Lib.hid U1; clear T1 U1 hl1)
    | (go_at_call 131; ((with_reducible refine (HG1.out).mono ?_); rintro e w2 ⟨v, rfl, hG⟩); have HG := Lib.hid hG; clear hG))
  have hv0 := HG.out.1
  obtain ⟨p, c, rfl, hcell⟩ := row_reads hv0
  have HNEW := Lib.hid (fun r (hr : (Value.slice p xs.length c).ownBlock = some r) => (show w.heap.size ≤ r from by
    rcases HG.out.2.2 r hr with h1 | h1
    · cases h1
    · exact Nat.le_trans HU1.out.size h1))
  have hU2 : Turn (l.foot t) (l1.foot t) w w2 := HU1.out.then_below (below_none HG.out.2.1)
  have hS0 : DeS w t l l1.bm nd1 made cnt (.slice p xs.length c) xs 0 w2 := ⟨l1, rfl, by
    rw [List.take_zero, wipe_nil]
    exact HT1.out.beside HG.out.2.1 (fun r hr => by cases hr), hU2, hv0, fun r hr hf => by
    rcases HG.out.2.2 r hr with h1 | h1
    · cases h1
    · have := HT1.out.foot_lt hf; omega⟩
  have HS0 := Lib.hid hS0
  clear hS0 hU2 hv0 hcell
  obtain ⟨m, hm⟩ : ∃ m, m = xs.length := ⟨_, rfl⟩
  rw [← hm] at HS0 HNEW HLEN ⊢
  have HM := Lib.hid hm
  have hm0 : (m : Int) ≤ 1048576 := by have := HLEN.out; omega
  clear hm
  go_wp2_with fail
  go_loopw [28] (fun z wr => ∃ k : Nat, k ≤ m ∧ z = .int .i64 k ∧ DeS w t l l1.bm nd1 made cnt (.slice p m c) xs k wr) (fun z _ => m - (intOf z).toNat)
  case atStart => exact ⟨0, Nat.zero_le _, rfl, HS0.out⟩
  case round =>
    obtain ⟨k, hk, rfl, hS⟩ := hrel
    by_cases hlt : k < m
    · obtain ⟨x, hx⟩ : ∃ x, xs[k]? = some x := ⟨_, List.getElem?_eq_getElem (by rw [← HM.out]; exact hlt)⟩
      obtain ⟨l', hbm, hT', hU', hv', hnf⟩ := hS
      obtain ⟨p', c', hpe, hcell⟩ := row_reads hv'
      obtain ⟨g, hp, hg, hcx⟩ := hcell k x hx
      simp only [Value.slice.injEq] at hpe
      obtain ⟨rfl, -, rfl⟩ := hpe
      subst hp
      obtain ⟨⟨c0, -⟩, -⟩ := hT'.tree.c2
      rw [hbm] at c0
      obtain ⟨dx, hdx⟩ := HIN.out.1 x (List.mem_of_getElem? hx)
      have hxt : x ∉ xs.take k := nodup_take HIN.out.2.1 hx
      obtain ⟨bx, hbx⟩ := hT'.block (i := x) (d := dx) (by unfold wipe; rw [if_neg hxt]; exact hdx)
      have hxi := (HIN.out.2.2 x dx hdx).1
      have hM := hT'.map
      rw [hbm] at hM
      have HNX := Lib.hid (fun (W : World) (hM3 : MapAt W l1.bm (upd l'.nb x none) (cnt - k - 1)) (hg3 : wr.grownBy W (some l1.bm)) (_hp : 1 ≤ cnt - k) => (show DeS w t l l1.bm nd1 made cnt (.slice (some ⟨g, 0, none⟩) m c) xs (k + 1) W from by
        have hd := hT'.del (k := x) (hbm ▸ hM3) (hbm ▸ hg3)
        refine ⟨{ l' with nb := upd l'.nb x none }, hbm, ?_, hU'.trans hd.2, ?_, fun r hr => hd.2.not (by obtain ⟨cs, hc⟩ := row_type hv' hr; exact hc.lt) (hnf r hr)⟩
        · have e1 : xs.take (k + 1) = xs.take k ++ [x] := take_snoc_get hx
          have e2 : cnt - (k + 1) = cnt - k - 1 := by omega
          rw [e1, wipe_snoc, e2]
          exact hd.1
        · exact row_same hv' fun r hr => by
            obtain ⟨cs, hc⟩ := row_type hv' hr
            exact hg3.block r hc.lt (fun e => by injection e with e; exact blk_not_map hc hM e)))
      have HMM := Lib.hid hM
      have HBX := Lib.hid hbx
      have hi0' : (0 : Int) ≤ (k : Int) := by omega
      have hi1 : (k : Int) < (m : Int) := by omega
      clear hT' hU' hv' hcell hx hdx hxt hbx hM hg hbm hnf
      go_wp2_with (at_delete; refine wpList_delete_at rfl rfl _ _ rfl HMM.out rfl rfl hxi HBX.out ?_; intro w3 hM3 hg3 hp3; have HN := Lib.hid (HNX.out w3 hM3 hg3 hp3); clear hM3 hg3 hp3)
      go_roundw
      case rel => exact ⟨k + 1, by omega, by go_num, HN.out⟩
      case measure => simp [intOf]; omega
    · obtain rfl : k = m := by omega
      have HS := Lib.hid hS
      clear hS
      go_wp2_with fail
      go_ret2
      obtain ⟨l', hbm, hT', hU', hv', hnf⟩ := HS.out
      rw [HM.out, List.take_length] at hT'
      exact ⟨_, rfl, hv', HNEW.out, l', hT', hU', hnf⟩
end
end Go.Proofs.YtfdgpbdppenhmaaGreat
end
section
namespace Go.Proofs.YtfdgpbdppenhmaaGreat
open Go.RowKit Go.Shelf Go.Maps
section
variable {R : RT} {L : List Win}
theorem own_way (h : Good R L) {v : Win} (hv : v ∈ L) {m : Nat} (hw : Way (ndL R L) m v.id) : ∃ m', m = m' + 1 ∧ Way (ndL R L) m' v.par := by
  cases m with
  | zero => have := hw.1; have := (h.pos v hv).1; omega
  | succ m =>
    obtain ⟨_, d, hd, hw⟩ := hw
    rw [nd_of h.uniq hv] at hd
    injection hd with hd
    subst hd
    exact ⟨m, rfl, hw⟩
theorem par_ne (h : Good R L) {v : Win} (hv : v ∈ L) : v.par ≠ v.id := fun e => by
  obtain ⟨m, hw⟩ := h.way v hv
  obtain ⟨m', rfl, hw'⟩ := own_way h hv hw
  rw [e] at hw'
  have := hw.det hw'
  omega
/-- Put elsewhere. -/
theorem repar_list (h : Good R L) {v : Win} (hv : v ∈ L) {q x y : Int} {dq : Nd} (hq : ndL R L q = some dq) {n : Nat} (hwq : Way (ndL R L) n q) (hth : thruB (ndL R L) n q v.id = false) :
    Good R (dropL v.id L ++ [⟨v.id, q, x, y, v.w, v.h, v.on⟩]) ∧
      ∀ d dp, ndL R L v.id = some d → ndL R L v.par = some dp → ndL R (dropL v.id L ++ [⟨v.id, q, x, y, v.w, v.h, v.on⟩]) = reparNd (ndL R L) v.id q d dp x y := by
  obtain ⟨v', hv'⟩ : ∃ v' : Win, v' = ⟨v.id, q, x, y, v.w, v.h, v.on⟩ := ⟨_, rfl⟩
  have hid : v'.id = v.id := by rw [hv']
  have hvp : v'.par = q := by rw [hv']
  rw [← hv']
  have hqi : q ≠ v.id := fun e => by
    cases n with
    | zero => simp [thruB, e] at hth
    | succ n => simp [thruB, e] at hth
  have hz : v.id ≠ 0 := by have := (h.pos v hv).1; omega
  have hpn := par_ne h hv
  have hn : ((dropL v.id L ++ [v']).map (·.id)).Nodup := by
    rw [List.map_append]
    refine List.nodup_append.2 ⟨drop_nodup h.nodup, List.nodup_cons.2 ⟨List.not_mem_nil, List.nodup_nil⟩, ?_⟩
    intro a ha b hb e
    obtain ⟨u, hu, rfl⟩ := List.mem_map.1 ha
    simp at hb
    exact (drop_mem.1 hu).2 (e.trans (hb.trans hid))
  have hg : ∀ j, getR R (dropL v.id L ++ [v']) j = if j = v.id then some v' else getR R L j := fun j => by
    unfold getR
    by_cases hj0 : j = 0
    · rw [if_pos hj0, if_pos hj0, if_neg (fun e => hz (e.symm.trans hj0))]
    · rw [if_neg hj0, if_neg hj0]
      by_cases hj : j = v.id
      · rw [if_pos hj, (find_iff hn).2 ⟨List.mem_append_right _ (List.mem_singleton.2 rfl), hid.trans hj.symm⟩]
      · rw [if_neg hj]
        apply Option.ext
        intro u
        rw [find_iff hn, find_iff h.nodup, List.mem_append, List.mem_singleton, drop_mem]
        constructor
        · rintro ⟨⟨h5, _⟩ | h5, h6⟩
          · exact ⟨h5, h6⟩
          · rw [h5, hid] at h6; exact absurd h6.symm hj
        · rintro ⟨h5, h6⟩
          exact ⟨.inl ⟨h5, by rw [h6]; exact hj⟩, h6⟩
  have hk : ∀ j, kidsL (dropL v.id L ++ [v']) j = strike v.id (kidsL L j) ++ if q = j then [v.id] else [] := fun j => by
    rw [kids_app, kids_one, kids_drop, hvp, hid]; rfl
  have hno : ∀ j, v.par ≠ j → strike v.id (kidsL L j) = kidsL L j := fun j hp => filter_no (fun hx => hp ((kid_mem h hv j).1 hx))
  have hpar : ∀ j d, ndL R L j = some d → j ≠ v.id → ∃ d', ndL R (dropL v.id L ++ [v']) j = some d' ∧ d'.win.par = d.win.par := fun j d hd hj => by
    refine ⟨⟨d.win, kidsL (dropL v.id L ++ [v']) j⟩, ?_, rfl⟩
    unfold ndL
    rw [hg, if_neg hj, (ndL_some hd).1]; rfl
  have hi : ndL R (dropL v.id L ++ [v']) v.id = some ⟨v', kidsL (dropL v.id L ++ [v']) v.id⟩ := by
    unfold ndL
    rw [hg, if_pos rfl]; rfl
  have hqw : ∀ (n : Nat) (q : Int), Way (ndL R L) n q → thruB (ndL R L) n q v.id = false → Way (ndL R (dropL v.id L ++ [v'])) n q := by
    intro n
    induction n with
    | zero =>
      rintro q ⟨h1, -⟩ -
      exact ⟨h1, by rw [h1]; exact ⟨_, nd_root⟩⟩
    | succ n ih =>
      rintro q ⟨h1, d, hd, h2⟩ h3
      have h4 : q ≠ v.id := fun e => by simp [thruB, e] at h3
      obtain ⟨d', h5, h6⟩ := hpar q d hd h4
      refine ⟨h1, d', h5, ?_⟩
      rw [h6]
      refine ih _ h2 ?_
      simp [thruB, h4] at h3
      rw [← par_of hd]; exact h3
  have hall : ∀ (m : Nat) (j : Int), Way (ndL R L) m j → ∃ m', Way (ndL R (dropL v.id L ++ [v'])) m' j := by
    intro m
    induction m with
    | zero =>
      rintro j ⟨h1, -⟩
      exact ⟨0, h1, by rw [h1]; exact ⟨_, nd_root⟩⟩
    | succ m ih =>
      rintro j ⟨h1, d, hd, h2⟩
      by_cases hj : j = v.id
      · refine ⟨n + 1, h1, _, by rw [hj]; exact hi, ?_⟩
        show Way _ n v'.par
        rw [hvp]; exact hqw n q hwq hth
      · obtain ⟨d', h5, h6⟩ := hpar j d hd hj
        obtain ⟨m', h7⟩ := ih _ h2
        exact ⟨m' + 1, h1, d', h5, by rw [h6]; exact h7⟩
  refine ⟨⟨hn, fun u hu => ?_, fun u hu => ?_⟩, fun d dp hd hdp => ?_⟩
  · rw [List.mem_append, List.mem_singleton, drop_mem] at hu
    rcases hu with ⟨hu, _⟩ | rfl
    · exact h.pos u hu
    · rw [hid]; exact h.pos v hv
  · rw [List.mem_append, List.mem_singleton, drop_mem] at hu
    rcases hu with ⟨hu, _⟩ | rfl
    · obtain ⟨m, hw⟩ := h.way u hu
      exact hall m _ hw
    · obtain ⟨m, hw⟩ := h.way v hv
      rw [hid]; exact hall m _ hw
  · obtain ⟨h1, h2⟩ := ndL_some hd
    obtain ⟨h3, h4⟩ := ndL_some hdp
    obtain ⟨h5, h6⟩ := ndL_some hq
    have hdw : d.win = v := by
      have := nd_of h.uniq hv
      rw [hd] at this; injection this with this; rw [this]
    unfold reparNd
    rw [hdw]
    have key : ∀ dq', upd (ndL R L) v.par (some ⟨dp.win, strike v.id dp.kids⟩) q = some dq' → ndL R (dropL v.id L ++ [v']) = upd (upd (upd (ndL R L) v.par (some ⟨dp.win, strike v.id dp.kids⟩)) q (some ⟨dq'.win, dq'.kids ++ [v.id]⟩)) v.id (some ⟨⟨v.id, q, x, y, v.w, v.h, v.on⟩, d.kids⟩) := by
      intro dq' hdq
      funext j
      by_cases hj : j = v.id
      · subst hj
        rw [upd_same, hi, hk, hno _ hpn, if_neg hqi, List.append_nil, h2, ← hv']
      · rw [upd_other _ _ hj]
        by_cases hjq : j = q
        · subst hjq
          rw [upd_same]
          unfold ndL
          rw [hg, if_neg hj, hk, if_pos rfl, h5]
          by_cases hjp : j = v.par
          · subst hjp
            rw [upd_same] at hdq
            injection hdq with hdq
            rw [← hdq]
            rw [h3] at h5
            injection h5 with h5
            rw [h4, h5]; rfl
          · rw [upd_other _ _ hjp, hq] at hdq
            injection hdq with hdq
            rw [← hdq, hno _ (fun e => hjp e.symm), h6]; rfl
        · rw [upd_other _ _ hjq]
          unfold ndL
          rw [hg, if_neg hj, hk, if_neg (fun e => hjq e.symm), List.append_nil]
          by_cases hjp : j = v.par
          · subst hjp
            rw [upd_same, h3, h4]; rfl
          · rw [upd_other _ _ hjp, hno _ (fun e => hjp e.symm)]
    cases hdq : upd (ndL R L) v.par (some ⟨dp.win, strike v.id dp.kids⟩) q with
    | none =>
      exfalso
      by_cases hqp : q = v.par
      · rw [hqp, upd_same] at hdq; cases hdq
      · rw [upd_other _ _ hqp, hq] at hdq; cases hdq
    | some dq' => exact key dq' hdq
end
end Go.Proofs.YtfdgpbdppenhmaaGreat
end
section
namespace Go.Proofs.YtfdgpbdppenhmaaGreat
open Go.RowKit Go.Shelf Go.Maps
theorem all_self {nd : Int → Option Nd} {n : Nat} {i : Int} (h : Tall nd n i) : i ∈ allL nd n i := by
  cases n with
  | zero => exact h.elim
  | succ n =>
    obtain ⟨d, hd, -⟩ := h
    simp only [allL, hd]
    exact List.mem_append_right _ (List.mem_singleton.2 rfl)
theorem all_kid {nd : Int → Option Nd} : ∀ (n : Nat) (i : Int), Tall nd n i → ∀ x ∈ allL nd n i, ∀ d, nd x = some d → ∀ k ∈ d.kids, k ∈ allL nd n i
  | 0, _, h, _, _, _, _, _, _ => h.elim
  | n + 1, i, ⟨di, hdi, hk⟩, x, hx, d, hd, k, hkd => by
    simp only [allL, hdi] at hx ⊢
    rcases List.mem_append.1 hx with hx | hx
    · obtain ⟨k0, hk0, hx⟩ := List.mem_flatMap.1 hx
      exact List.mem_append_left _ (List.mem_flatMap.2 ⟨k0, hk0, all_kid n k0 (hk k0 hk0) x hx d hd k hkd⟩)
    · rw [List.mem_singleton.1 hx, hdi] at hd
      injection hd with hd
      subst hd
      exact List.mem_append_left _ (List.mem_flatMap.2 ⟨k, hkd, all_self (hk k hkd)⟩)
theorem all_par {nd : Int → Option Nd} (hp : ∀ i d k, nd i = some d → k ∈ d.kids → parOf nd k = i) : ∀ (n : Nat) (i : Int), ∀ x ∈ allL nd n i, x = i ∨ parOf nd x ∈ allL nd n i
  | 0, _, _, hx => by cases hx
  | n + 1, i, x, hx => by
    unfold allL at hx ⊢
    cases hd : nd i with
    | none => rw [hd] at hx; cases hx
    | some d =>
      rw [hd] at hx
      dsimp only at hx ⊢
      rcases List.mem_append.1 hx with hx | hx
      · obtain ⟨k, hk, hx⟩ := List.mem_flatMap.1 hx
        rcases all_par hp n k x hx with rfl | h1
        · exact .inr (List.mem_append_right _ (List.mem_singleton.2 (hp i d x hd hk)))
        · exact .inr (List.mem_append_left _ (List.mem_flatMap.2 ⟨k, hk, h1⟩))
      · exact .inl (List.mem_singleton.1 hx)
theorem all_same {nd nd' : Int → Option Nd} : ∀ (n : Nat) (i : Int), Tall nd n i → (∀ x ∈ allL nd n i, nd' x = nd x) → allL nd' n i = allL nd n i ∧ Tall nd' n i
  | 0, _, h, _ => h.elim
  | n + 1, i, h, he => by
    have hi := he i (all_self h)
    obtain ⟨d, hd, hk⟩ := h
    simp only [allL, hd] at he
    have hs : ∀ k ∈ d.kids, allL nd' n k = allL nd n k ∧ Tall nd' n k := fun k hkd => all_same n k (hk k hkd) fun x hx => he x (List.mem_append_left _ (List.mem_flatMap.2 ⟨k, hkd, hx⟩))
    rw [hd] at hi
    refine ⟨?_, d, hi, fun k hkd => (hs k hkd).2⟩
    simp only [allL, hd, hi]
    congr 1
    have : ∀ (ks : List Int), (∀ k ∈ ks, allL nd' n k = allL nd n k) → ks.flatMap (allL nd' n) = ks.flatMap (allL nd n) := by
      intro ks
      induction ks with
      | nil => intro _; rfl
      | cons a t ih =>
        intro hh
        rw [List.flatMap_cons, List.flatMap_cons, hh a (List.mem_cons_self ..), ih (fun k hk => hh k (List.mem_cons_of_mem _ hk))]
    exact this _ (fun k hkd => (hs k hkd).1)
theorem dropAll_mem (xs : List Int) : ∀ {L : List Win} {u : Win}, u ∈ dropAll xs L ↔ u ∈ L ∧ u.id ∉ xs := by
  induction xs with
  | nil => intro L u; simp [dropAll]
  | cons a t ih =>
    intro L u
    show u ∈ dropAll t (dropL a L) ↔ _
    rw [ih, drop_mem, List.mem_cons]
    constructor
    · rintro ⟨⟨h1, h2⟩, h3⟩
      exact ⟨h1, fun h => h.elim h2 h3⟩
    · rintro ⟨h1, h2⟩
      exact ⟨⟨h1, fun e => h2 (.inl e)⟩, fun e => h2 (.inr e)⟩
theorem dropAll_nodup (xs : List Int) : ∀ {L : List Win}, (L.map (·.id)).Nodup → ((dropAll xs L).map (·.id)).Nodup := by
  induction xs with
  | nil => intro L h; exact h
  | cons a t ih => intro L h; exact ih (drop_nodup h)
theorem dropAll_kids (xs : List Int) : ∀ (L : List Win) (j : Int), kidsL (dropAll xs L) j = (kidsL L j).filter (fun x => decide (x ∉ xs)) := by
  induction xs with
  | nil => intro L j; exact (List.filter_eq_self.2 (by simp)).symm
  | cons a t ih =>
    intro L j
    show kidsL (dropAll t (dropL a L)) j = _
    rw [ih, kids_drop, List.filter_filter]
    congr 1
    funext x
    by_cases h1 : x = a <;> by_cases h2 : x ∈ t <;> simp [h1, h2]
section
variable {R : RT} {L : List Win}
theorem kid_par (h : Good R L) : ∀ i d k, ndL R L i = some d → k ∈ d.kids → parOf (ndL R L) k = i := fun i d k hd hk => by
  rw [(ndL_some hd).2] at hk
  obtain ⟨u, _, _, h1, h2⟩ := kid_of h hk
  rw [par_of h2]; exact h1
/-- Gone with all in it. -/
theorem destroy_list (h : Good R L) {v : Win} (hv : v ∈ L) {n m : Nat} (hw : Way (ndL R L) m v.id) (hT : Tall (ndL R L) n v.id) :
    Good R (dropAll (allL (ndL R L) n v.id) L) ∧
      ∀ dp, ndL R L v.par = some dp → ndL R (dropAll (allL (ndL R L) n v.id) L) = wipe (upd (ndL R L) v.par (some ⟨dp.win, strike v.id dp.kids⟩)) (allL (ndL R L) n v.id) ∧
        allL (upd (ndL R L) v.par (some ⟨dp.win, strike v.id dp.kids⟩)) n v.id = allL (ndL R L) n v.id ∧ Tall (upd (ndL R L) v.par (some ⟨dp.win, strike v.id dp.kids⟩)) n v.id := by
  obtain ⟨xs, hxs⟩ : ∃ xs, xs = allL (ndL R L) n v.id := ⟨_, rfl⟩
  have hself : v.id ∈ xs := by rw [hxs]; exact all_self hT
  have hup := all_up h n m v.id hw
  rw [← hxs] at hup
  obtain ⟨m', hm, hwp⟩ := own_way h hv hw
  have hpx : v.par ∉ xs := fun hx => by
    obtain ⟨-, j, h1, -⟩ := hup _ hx
    have := h1.det hwp
    omega
  have h0x : (0 : Int) ∉ xs := fun hx => by
    obtain ⟨-, j, h1, -⟩ := hup _ hx
    have := h1.det root_way
    omega
  have hkid : ∀ x ∈ xs, ∀ k ∈ kidsL L x, k ∈ xs := fun x hx k hk => by
    obtain ⟨⟨d, hd⟩, -⟩ := hup x hx
    rw [hxs] at hx ⊢
    exact all_kid n v.id hT x hx d hd k (by rw [(ndL_some hd).2]; exact hk)
  have hback : ∀ j, j ∉ xs → ∀ k ∈ kidsL L j, k ∈ xs → k = v.id := fun j hj k hk hkx => by
    rw [hxs] at hkx
    rcases all_par (kid_par h) n v.id k hkx with h1 | h1
    · exact h1
    · obtain ⟨u, _, _, h2, h3⟩ := kid_of h hk
      rw [par_of h3, h2, ← hxs] at h1
      exact absurd h1 hj
  have hn := dropAll_nodup xs h.nodup
  have hg : ∀ j, j ∉ xs → getR R (dropAll xs L) j = getR R L j := fun j hj => by
    unfold getR
    by_cases hj0 : j = 0
    · rw [if_pos hj0, if_pos hj0]
    · rw [if_neg hj0, if_neg hj0]
      apply Option.ext
      intro u
      rw [find_iff hn, find_iff h.nodup, dropAll_mem]
      constructor
      · rintro ⟨⟨h1, _⟩, h2⟩; exact ⟨h1, h2⟩
      · rintro ⟨h1, h2⟩; exact ⟨⟨h1, by rw [h2]; exact hj⟩, h2⟩
  have hg2 : ∀ j, j ∈ xs → getR R (dropAll xs L) j = none := fun j hj => by
    unfold getR
    rw [if_neg (show ¬ j = 0 from fun e => h0x (by rw [← e]; exact hj))]
    cases hf : findL j (dropAll xs L) with
    | none => rfl
    | some u =>
      obtain ⟨h1, h2⟩ := (find_iff hn).1 hf
      exact absurd (by rw [h2]; exact hj) (dropAll_mem xs |>.1 h1).2
  have hwin : ∀ j d, ndL R L j = some d → j ∉ xs → ∃ d', ndL R (dropAll xs L) j = some d' ∧ d'.win.par = d.win.par := fun j d hd hj => by
    refine ⟨⟨d.win, kidsL (dropAll xs L) j⟩, ?_, rfl⟩
    unfold ndL
    rw [hg j hj, (ndL_some hd).1]; rfl
  have hways : ∀ (k : Nat) (j : Int), Way (ndL R L) k j → j ∉ xs → Way (ndL R (dropAll xs L)) k j := by
    intro k
    induction k with
    | zero =>
      rintro j ⟨h1, -⟩ -
      exact ⟨h1, by rw [h1]; exact ⟨_, nd_root⟩⟩
    | succ k ih =>
      rintro j ⟨h1, d, hd, h2⟩ hj
      obtain ⟨d', h3, h4⟩ := hwin j d hd hj
      refine ⟨h1, d', h3, ?_⟩
      rw [h4]
      refine ih _ h2 fun hx => hj ?_
      obtain ⟨h5, h6⟩ := getR_some (ndL_some hd).1
      rcases h6 with ⟨h6, _⟩ | ⟨_, h6⟩
      · exact absurd h6 h1
      · have := hkid _ hx d.win.id ((kid_mem h h6 _).2 rfl)
        rw [h5] at this; exact this
  rw [← hxs]
  refine ⟨⟨hn, fun u hu => h.pos u (dropAll_mem xs |>.1 hu).1, fun u hu => ?_⟩, fun dp hdp => ?_⟩
  · obtain ⟨h1, h2⟩ := dropAll_mem xs |>.1 hu
    obtain ⟨k, hk⟩ := h.way u h1
    exact ⟨k, hways k _ hk h2⟩
  · have hal := all_same (nd' := upd (ndL R L) v.par (some ⟨dp.win, strike v.id dp.kids⟩)) n v.id hT (fun x hx => upd_other _ _ (fun e => hpx (by rw [← e, hxs]; exact hx)))
    rw [← hxs] at hal
    refine ⟨?_, hal⟩
    funext j
    unfold wipe
    by_cases hj : j ∈ xs
    · rw [if_pos hj]
      unfold ndL
      rw [hg2 j hj]; rfl
    · rw [if_neg hj]
      have hko : kidsL (dropAll xs L) j = if j = v.par then strike v.id (kidsL L j) else kidsL L j := by
        rw [dropAll_kids]
        by_cases hp : j = v.par
        · rw [if_pos hp]
          unfold strike
          refine List.filter_congr fun k hk => ?_
          rw [decide_eq_decide]
          constructor
          · intro h1 e; exact h1 (by rw [e]; exact hself)
          · intro h1 hx; exact h1 (hback j hj k hk hx)
        · rw [if_neg hp, List.filter_eq_self]
          intro k hk
          rw [decide_eq_true_iff]
          intro hx
          have := hback j hj k hk hx
          rw [this] at hk
          exact hp ((kid_mem h hv j).1 hk).symm
      unfold ndL
      rw [hg j hj, hko]
      by_cases hp : j = v.par
      · subst hp
        obtain ⟨h1, h2⟩ := ndL_some hdp
        rw [if_pos rfl, upd_same, h1, h2]; rfl
      · rw [if_neg hp, upd_other _ _ hp]
end
end Go.Proofs.YtfdgpbdppenhmaaGreat
end
