/- Under, walked. -/
import Derived.Test.YtphmlfklmleafaaJam
section
namespace Go.Proofs.Ytphmlfklmleafaa
open Go.RowKit Go.Shelf Go.Maps
def reachB (a e px py : Int) : Bool := decide (0 ≤ px ∧ px < a ∧ 0 ≤ py ∧ py < e)
theorem reaches_w (x y a e px py : Int) (w : World) : Calls Try.prog 43 #[.agg #[.int .i64 x, .int .i64 y, .int .i64 a, .int .i64 e], .agg #[.int .i64 px, .int .i64 py]] w fun ex w' => ex = .returned (.bool (reachB a e px py)) ∧ Below w.heap.size w w' := by
  have hq : (0 ≤ px ∧ px < a ∧ 0 ≤ py ∧ py < e) ∨ ¬ (0 ≤ px) ∨ (0 ≤ px ∧ ¬ px < a) ∨ (0 ≤ px ∧ px < a ∧ ¬ 0 ≤ py) ∨ (0 ≤ px ∧ px < a ∧ 0 ≤ py ∧ ¬ py < e) := by omega
  have HB : ∀ b : Bool, (b = true ↔ (0 ≤ px ∧ px < a ∧ 0 ≤ py ∧ py < e)) → b = reachB a e px py := fun b hb => by
    unfold reachB
    rw [Bool.eq_iff_iff, hb, decide_eq_true_iff]
  have HH := Lib.hid HB
  clear HB
  rcases hq with ⟨h1, h2, h3, h4⟩ | h1 | ⟨h1, h2⟩ | ⟨h1, h2, h3⟩ | ⟨h1, h2, h3, h4⟩
  all_goals
    go_enter Try.func43, Try.ntmps43
    go_wp2_with fail
    go_ret
    exact ⟨ret_bool (HH.out _ (by simp <;> omega)), ((Below.refl _ _).alloc (Nat.le_refl _) _).alloc (by simp) _⟩
theorem under_f {w : World} {p : Value} {px py : Int} (hf : ∀ W, Below w.heap.size w W → Calls Try.prog 38 #[p, .int .i64 0] W fun e w' => e = .returned (.pointer none) ∧ W = w') :
    Calls Try.prog 15 #[p, .agg #[.int .i64 px, .int .i64 py]] w fun e w' => e = .returned (.tuple #[.int .i64 0, .bool false]) ∧ Below w.heap.size w w' := by
  obtain ⟨wb, hwb⟩ : ∃ wb, wb = w.alloc (.cells #[.int .i64 px, .int .i64 py] 26) := ⟨_, rfl⟩
  have hbel : Below w.heap.size w wb := by rw [hwb]; exact (Below.refl _ _).alloc (Nat.le_refl _) _
  have hbx : Blk wb w.heap.size 26 #[.int .i64 px, .int .i64 py] := by rw [hwb]; exact Blk.new w _ _
  obtain ⟨⟨x0, x1⟩, -⟩ := hbx.c2
  have H1 := Lib.hid (hf wb hbel)
  have HB := Lib.hid hbel
  have HW := Lib.hid hwb
  clear hf hbel hbx
  go_enter Try.func15, Try.ntmps15
  go_upto_region 1 with fail
  rw [← HW.out]
  clear hwb
  go_upto_region 2 with (go_at_call 38; ((with_reducible refine (H1.out).mono ?_); rintro e w' ⟨rfl, rfl⟩))
  refine wp_region_noPanic ?_
  refine wp_region_held_drew (S := fun wx => wx.cell? ⟨w.heap.size, 0, none⟩ = some (.int .i64 px)) (by kernel_rfl) (by exact x0) (fun hHeld => ?_)
  refine wpAnyH_take (i := 0) (v := ?vf0) rfl (by kernel_rfl) (by kernel_rfl) (by kernel_rfl) (fun _ _ _ h => h) (Or.inl ⟨by kernel_rfl, ?yf0⟩) (by assumption) ?rf0
  case yf0 => (intro wq hSw; (try dsimp only at hSw); go_simp; (try with_reducible rfl))
  (try simp only [Act.put, List.getElem_toArray, List.getElem_cons_zero, List.setIfInBounds_toArray, List.set_cons_zero, List.set_cons_succ])
  refine wpAnyH_take (i := 1) (v := ?vf1) rfl (by kernel_rfl) (by kernel_rfl) (by kernel_rfl) (fun _ _ _ h => h) (Or.inl ⟨by kernel_rfl, ?yf1⟩) (by assumption) ?rf1
  case yf1 => (intro wq hSw; (try dsimp only at hSw); go_simp; (try with_reducible rfl))
  (try simp only [Act.put, List.getElem_toArray, List.getElem_cons_succ, List.getElem_cons_zero, List.setIfInBounds_toArray, List.set_cons_zero, List.set_cons_succ])
  refine wpAnyH_take (i := 2) (v := ?vf2) rfl (by kernel_rfl) (by kernel_rfl) (by kernel_rfl) (fun _ _ _ h => h) (Or.inl ⟨by kernel_rfl, ?yf2⟩) (by assumption) ?rf2
  case yf2 => (intro wq hSw; (try dsimp only at hSw); go_simp; (try with_reducible rfl))
  (try simp only [Act.put, List.getElem_toArray, List.getElem_cons_succ, List.getElem_cons_zero, List.setIfInBounds_toArray, List.set_cons_zero, List.set_cons_succ])
  refine wpAnyH_take (i := 3) (v := undef) rfl (by kernel_rfl) (by kernel_rfl) (by kernel_rfl) (fun _ _ _ h => h) (Or.inr ⟨by kernel_rfl, rfl⟩) (by assumption) ?_
  (try simp only [Act.put, List.getElem_toArray, List.getElem_cons_succ, List.getElem_cons_zero, List.setIfInBounds_toArray, List.set_cons_zero, List.set_cons_succ])
  refine wpAnyH_take (i := 4) (v := undef) rfl (by kernel_rfl) (by kernel_rfl) (by kernel_rfl) (fun _ _ _ h => h) (Or.inr ⟨by kernel_rfl, rfl⟩) (by assumption) ?_
  (try simp only [Act.put, List.getElem_toArray, List.getElem_cons_succ, List.getElem_cons_zero, List.setIfInBounds_toArray, List.set_cons_zero, List.set_cons_succ])
  refine wpAnyH_take (i := 5) (v := undef) rfl (by kernel_rfl) (by kernel_rfl) (by kernel_rfl) (fun _ _ _ h => h) (Or.inr ⟨by kernel_rfl, rfl⟩) (by assumption) ?_
  (try simp only [Act.put, List.getElem_toArray, List.getElem_cons_succ, List.getElem_cons_zero, List.setIfInBounds_toArray, List.set_cons_zero, List.set_cons_succ])
  refine wpAnyH_take (i := 6) (v := undef) rfl (by kernel_rfl) (by kernel_rfl) (by kernel_rfl) (fun _ _ _ h => h) (Or.inr ⟨by kernel_rfl, rfl⟩) (by assumption) ?_
  (try simp only [Act.put, List.getElem_toArray, List.getElem_cons_succ, List.getElem_cons_zero, List.setIfInBounds_toArray, List.set_cons_zero, List.set_cons_succ])
  refine wpAnyH_take (i := 7) (v := undef) rfl (by kernel_rfl) (by kernel_rfl) (by kernel_rfl) (fun _ _ _ h => h) (Or.inr ⟨by kernel_rfl, rfl⟩) (by assumption) ?_
  (try simp only [Act.put, List.getElem_toArray, List.getElem_cons_succ, List.getElem_cons_zero, List.setIfInBounds_toArray, List.set_cons_zero, List.set_cons_succ])
  refine wpAnyH_take (i := 8) (v := undef) rfl (by kernel_rfl) (by kernel_rfl) (by kernel_rfl) (fun _ _ _ h => h) (Or.inr ⟨by kernel_rfl, rfl⟩) (by assumption) ?_
  (try simp only [Act.put, List.getElem_toArray, List.getElem_cons_succ, List.getElem_cons_zero, List.setIfInBounds_toArray, List.set_cons_zero, List.set_cons_succ])
  refine wpAnyH_take (i := 9) (v := undef) rfl (by kernel_rfl) (by kernel_rfl) (by kernel_rfl) (fun _ _ _ h => h) (Or.inr ⟨by kernel_rfl, rfl⟩) (by assumption) ?_
  (try simp only [Act.put, List.getElem_toArray, List.getElem_cons_succ, List.getElem_cons_zero, List.setIfInBounds_toArray, List.set_cons_zero, List.set_cons_succ])
  refine wpAnyH_take (i := 10) (v := undef) rfl (by kernel_rfl) (by kernel_rfl) (by kernel_rfl) (fun _ _ _ h => h) (Or.inr ⟨by kernel_rfl, rfl⟩) (by assumption) ?_
  (try simp only [Act.put, List.getElem_toArray, List.getElem_cons_succ, List.getElem_cons_zero, List.setIfInBounds_toArray, List.set_cons_zero, List.set_cons_succ])
  refine wpAnyH_take (i := 11) (v := ?vf11) rfl (by kernel_rfl) (by kernel_rfl) (by kernel_rfl) (fun _ _ _ h => h) (Or.inl ⟨by kernel_rfl, ?yf11⟩) (by assumption) ?rf11
  case yf11 => (intro wq hSw; (try dsimp only at hSw); go_simp; (try with_reducible rfl))
  (try simp only [Act.put, List.getElem_toArray, List.getElem_cons_succ, List.getElem_cons_zero, List.setIfInBounds_toArray, List.set_cons_zero, List.set_cons_succ])
  refine wpAnyH_done (by kernel_rfl) ?_ _
  refine NoPanic.normal ?_
  go_wp2_with fail
  go_ret2
  exact ⟨rfl, HB.out.drew⟩
section
variable {w : World} {t : Nat} {l : Lay} {nd : Int → Option Nd} {made : Int} {cnt : Nat}
theorem under_no {p : Value} (h : NoTree w p) {px py : Int} : Calls Try.prog 15 #[p, .agg #[.int .i64 px, .int .i64 py]] w fun e w' => e = .returned (.tuple #[.int .i64 0, .bool false]) ∧ Below w.heap.size w w' :=
  under_f fun _ hW => find_no (h.next hW) i64_0
def UnderR (w : World) (nd : Int → Option Nd) (n : Nat) (d : Nd) (px py : Int) (e : Ending) (w' : World) : Prop :=
  e = .returned (if reachB d.win.w d.win.h px py = true then .tuple #[.int .i64 (seenB nd n 0 px py), .bool true] else .tuple #[.int .i64 0, .bool false]) ∧ Below w.heap.size w w'
set_option maxRecDepth 100000 in
set_option maxHeartbeats 4000000 in
theorem under_c (h : TreeH w t l nd made cnt) (hw : Wide nd) (hks : ∀ j dj, nd j = some dj → dj.kids.length ≤ 4096) {d : Nd} (hd : nd 0 = some d) {n : Nat} (hT : Tall nd n 0) {px py : Int} :
    Calls Try.prog 15 #[treeP t, .agg #[.int .i64 px, .int .i64 py]] w fun e w' => UnderR w nd n d px py e w' := by
  obtain ⟨r, hr⟩ := h.block hd
  obtain ⟨wb, hwb⟩ : ∃ wb, wb = w.alloc (.cells #[.int .i64 px, .int .i64 py] 26) := ⟨_, rfl⟩
  have hbel : Below w.heap.size w wb := by rw [hwb]; exact (Below.refl _ _).alloc (Nat.le_refl _) _
  have hbx : Blk wb w.heap.size 26 #[.int .i64 px, .int .i64 py] := by rw [hwb]; exact Blk.new w _ _
  obtain ⟨⟨x0, x1⟩, -⟩ := hbx.c2
  have hTb := h.next hbel
  have H1 := Lib.hid (find_some hTb i64_0 hr)
  obtain ⟨⟨-, -, k2, k3, k4, k5, -, -⟩, -⟩ := hTb.cells hr hd
  obtain ⟨rx, hrx⟩ : ∃ v, v = d.win.x := ⟨_, rfl⟩
  obtain ⟨ry, hry⟩ : ∃ v, v = d.win.y := ⟨_, rfl⟩
  obtain ⟨rw, hrw⟩ : ∃ v, v = d.win.w := ⟨_, rfl⟩
  obtain ⟨rh, hrh⟩ : ∃ v, v = d.win.h := ⟨_, rfl⟩
  rw [← hrx] at k2
  rw [← hry] at k3
  rw [← hrw] at k4
  rw [← hrh] at k5
  obtain ⟨hh, hhe⟩ : ∃ hh, hh = reachB rw rh px py := ⟨_, rfl⟩
  have HRE := Lib.hid (fun W => (show Calls Try.prog 43 #[.agg #[.int .i64 rx, .int .i64 ry, .int .i64 rw, .int .i64 rh], .agg #[.int .i64 px, .int .i64 py]] W fun ex w' => ex = .returned (.bool hh) ∧ Below W.heap.size W w' from by rw [hhe]; exact reaches_w _ _ _ _ _ _ W))
  have HHE := Lib.hid (show hh = reachB d.win.w d.win.h px py by rw [hhe, hrw, hrh])
  have HS1 := Lib.hid (fun (W1 : World) (hb1 : Below wb.heap.size wb W1) => (show (W1.cell? ⟨r, 2, none⟩ = some (.int .i64 rx) ∧ W1.cell? ⟨r, 3, none⟩ = some (.int .i64 ry) ∧ W1.cell? ⟨r, 4, none⟩ = some (.int .i64 rw) ∧ W1.cell? ⟨r, 5, none⟩ = some (.int .i64 rh)) ∧ W1.cell? ⟨w.heap.size, 0, none⟩ = some (.int .i64 px) ∧ W1.cell? ⟨w.heap.size, 1, none⟩ = some (.int .i64 py) from by
    obtain ⟨c1, c2⟩ := bcell hb1
    exact ⟨⟨(c1 _ _ (World.block_lt_of_cell? _ _ k2)).trans k2, (c1 _ _ (World.block_lt_of_cell? _ _ k2)).trans k3, (c1 _ _ (World.block_lt_of_cell? _ _ k2)).trans k4, (c1 _ _ (World.block_lt_of_cell? _ _ k2)).trans k5⟩, (c1 _ _ (World.block_lt_of_cell? _ _ x0)).trans x0, (c1 _ _ (World.block_lt_of_cell? _ _ x0)).trans x1⟩))
  have HSE := Lib.hid (fun (W1 : World) (hb1 : Below wb.heap.size wb W1) => seen_c hw hks n 0 px py r W1 (hTb.next hb1) hT hr)
  have HB := Lib.hid hbel
  have HW := Lib.hid hwb
  clear h hTb hd hr hbel hbx hrx hry hrw hrh hhe
  go_enter Try.func15, Try.ntmps15
  go_upto_region 1 with fail
  rw [← HW.out]
  clear hwb
  go_upto_region 2 with (go_at_call 38; ((with_reducible refine (H1.out).mono ?_); rintro e w' ⟨rfl, rfl⟩))
  refine wp_region_noPanic ?_
  refine wp_region_held_drew (S := fun wx => (wx.cell? ⟨r, 2, none⟩ = some (.int .i64 rx) ∧ wx.cell? ⟨r, 3, none⟩ = some (.int .i64 ry) ∧ wx.cell? ⟨r, 4, none⟩ = some (.int .i64 rw) ∧ wx.cell? ⟨r, 5, none⟩ = some (.int .i64 rh)) ∧ wx.cell? ⟨w.heap.size, 0, none⟩ = some (.int .i64 px) ∧ wx.cell? ⟨w.heap.size, 1, none⟩ = some (.int .i64 py)) (by kernel_rfl) (by exact ⟨⟨k2, k3, k4, k5⟩, x0, x1⟩) (fun hHeld => ?_)
  refine wpAnyH_take (i := 0) (v := ?vc0) rfl (by kernel_rfl) (by kernel_rfl) (by kernel_rfl) (fun _ _ _ h => h) (Or.inl ⟨by kernel_rfl, ?yc0⟩) (by assumption) ?rc0
  case yc0 => (intro wq hSw; (try dsimp only at hSw); go_simp; (try with_reducible rfl))
  (try simp only [Act.put, List.getElem_toArray, List.getElem_cons_zero, List.setIfInBounds_toArray, List.set_cons_zero, List.set_cons_succ])
  refine wpAnyH_take (i := 1) (v := ?vc1) rfl (by kernel_rfl) (by kernel_rfl) (by kernel_rfl) (fun _ _ _ h => h) (Or.inl ⟨by kernel_rfl, ?yc1⟩) (by assumption) ?rc1
  case yc1 => (intro wq hSw; (try dsimp only at hSw); go_simp; (try with_reducible rfl))
  (try simp only [Act.put, List.getElem_toArray, List.getElem_cons_succ, List.getElem_cons_zero, List.setIfInBounds_toArray, List.set_cons_zero, List.set_cons_succ])
  refine wpAnyH_take (i := 2) (v := ?vc2) rfl (by kernel_rfl) (by kernel_rfl) (by kernel_rfl) (fun _ _ _ h => h) (Or.inl ⟨by kernel_rfl, ?yc2⟩) (by assumption) ?rc2
  case yc2 => (intro wq hSw; (try dsimp only at hSw); go_simp; (try with_reducible rfl))
  (try simp only [Act.put, List.getElem_toArray, List.getElem_cons_succ, List.getElem_cons_zero, List.setIfInBounds_toArray, List.set_cons_zero, List.set_cons_succ])
  refine wpAnyH_take (i := 3) (v := ?vc3) rfl (by kernel_rfl) (by kernel_rfl) (by kernel_rfl) (fun _ _ _ h => h) (Or.inl ⟨by kernel_rfl, ?yc3⟩) (by assumption) ?rc3
  case yc3 => (intro wq hSw; (try dsimp only at hSw); go_simp; (try with_reducible rfl))
  (try simp only [Act.put, List.getElem_toArray, List.getElem_cons_succ, List.getElem_cons_zero, List.setIfInBounds_toArray, List.set_cons_zero, List.set_cons_succ])
  refine wpAnyH_take (i := 4) (v := ?vc4) rfl (by kernel_rfl) (by kernel_rfl) (by kernel_rfl) (fun _ _ _ h => h) (Or.inl ⟨by kernel_rfl, ?yc4⟩) (by assumption) ?rc4
  case yc4 => (intro wq hSw; (try dsimp only at hSw); go_simp; (try with_reducible rfl))
  (try simp only [Act.put, List.getElem_toArray, List.getElem_cons_succ, List.getElem_cons_zero, List.setIfInBounds_toArray, List.set_cons_zero, List.set_cons_succ])
  refine wpAnyH_take (i := 5) (v := ?vc5) rfl (by kernel_rfl) (by kernel_rfl) (by kernel_rfl) (fun _ _ _ h => h) (Or.inl ⟨by kernel_rfl, ?yc5⟩) (by assumption) ?rc5
  case yc5 => (intro wq hSw; (try dsimp only at hSw); go_simp; (try with_reducible rfl))
  (try simp only [Act.put, List.getElem_toArray, List.getElem_cons_succ, List.getElem_cons_zero, List.setIfInBounds_toArray, List.set_cons_zero, List.set_cons_succ])
  refine wpAnyH_take (i := 6) (v := ?vc6) rfl (by kernel_rfl) (by kernel_rfl) (by kernel_rfl) (fun _ _ _ h => h) (Or.inl ⟨by kernel_rfl, ?yc6⟩) (by assumption) ?rc6
  case yc6 => (intro wq hSw; (try dsimp only at hSw); go_simp; (try with_reducible rfl))
  (try simp only [Act.put, List.getElem_toArray, List.getElem_cons_succ, List.getElem_cons_zero, List.setIfInBounds_toArray, List.set_cons_zero, List.set_cons_succ])
  refine wpAnyH_take (i := 7) (v := ?vc7) rfl (by kernel_rfl) (by kernel_rfl) (by kernel_rfl) (fun _ _ _ h => h) (Or.inl ⟨by kernel_rfl, ?yc7⟩) (by assumption) ?rc7
  case yc7 => (intro wq hSw; (try dsimp only at hSw); go_simp; (try with_reducible rfl))
  (try simp only [Act.put, List.getElem_toArray, List.getElem_cons_succ, List.getElem_cons_zero, List.setIfInBounds_toArray, List.set_cons_zero, List.set_cons_succ])
  refine wpAnyH_take (i := 8) (v := ?vc8) rfl (by kernel_rfl) (by kernel_rfl) (by kernel_rfl) (fun _ _ _ h => h) (Or.inl ⟨by kernel_rfl, ?yc8⟩) (by assumption) ?rc8
  case yc8 => (intro wq hSw; (try dsimp only at hSw); go_simp; (try with_reducible rfl))
  (try simp only [Act.put, List.getElem_toArray, List.getElem_cons_succ, List.getElem_cons_zero, List.setIfInBounds_toArray, List.set_cons_zero, List.set_cons_succ])
  refine wpAnyH_ready (rs := [9]) (by kernel_rfl) (by simp) ?_
  refine AllReadyH.cons rfl (fun K hK => ?_) AllReadyH.nil
  go_simp
  refine (HRE.out _).mono ?_
  rintro e w1 ⟨rfl, hb0⟩; have hb1 : Below wb.heap.size wb w1 := ((Below.refl _ wb).drew).trans hb0; clear hb0; have HB1 := Lib.hid hb1
  (try dsimp only)
  refine hK.out _ _ (by exact HS1.out _ hb1) (fun hHeld => ?_)
  clear hK K
  (try simp only [Act.put, List.getElem_toArray, List.getElem_cons_succ, List.getElem_cons_zero, List.setIfInBounds_toArray, List.set_cons_zero, List.set_cons_succ])
  refine wpAnyH_take (i := 10) (v := ?vc10) rfl (by kernel_rfl) (by kernel_rfl) (by kernel_rfl) (fun _ _ _ h => h) (Or.inl ⟨by kernel_rfl, ?yc10⟩) (by assumption) ?rc10
  case yc10 => (intro wq hSw; (try dsimp only at hSw); go_simp; (try with_reducible rfl))
  (try simp only [Act.put, List.getElem_toArray, List.getElem_cons_succ, List.getElem_cons_zero, List.setIfInBounds_toArray, List.set_cons_zero, List.set_cons_succ])
  refine wpAnyH_take (i := 11) (v := ?vc11) rfl (by kernel_rfl) (by kernel_rfl) (by kernel_rfl) (fun _ _ _ h => h) (Or.inl ⟨by kernel_rfl, ?yc11⟩) (by assumption) ?rc11
  case yc11 => (intro wq hSw; (try dsimp only at hSw); go_simp; (try with_reducible rfl))
  (try simp only [Act.put, List.getElem_toArray, List.getElem_cons_succ, List.getElem_cons_zero, List.setIfInBounds_toArray, List.set_cons_zero, List.set_cons_succ])
  refine wpAnyH_done (by kernel_rfl) ?_ _
  refine NoPanic.normal ?_
  obtain ⟨-, y0, y1⟩ := HS1.out _ HB1.out
  have HSE1 := Lib.hid (HSE.out _ HB1.out)
  clear hHeld k2 k3 k4 k5 x0 x1
  cases hh with
  | false =>
    go_wp2_with fail
    go_ret2
    exact ⟨by rw [← HHE.out]; rfl, HB1.out.on HB.out HB.out.size⟩
  | true =>
    go_wp2_with (go_at_call 44; ((with_reducible refine (HSE1.out).mono ?_); rintro e w2 ⟨rfl, hb2⟩); have HB2 := Lib.hid hb2; clear hb2)
    go_ret2
    exact ⟨by rw [← HHE.out]; rfl, HB2.out.on (HB1.out.on HB.out HB.out.size) (Nat.le_trans HB.out.size HB1.out.size)⟩
end
end Go.Proofs.Ytphmlfklmleafaa
end
