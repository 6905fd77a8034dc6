/- area.Nearest, walked. -/
import Derived.Test.YteaeccmlibmmmaaArD
namespace Go.Proofs.Yteaeccmlibmmmaa.Ar
open Go.RowKit Go.Shelf
/-- The screen that is nearest; -1: none. -/
def nearI (l : List Out) (r : Rc) : Int :=
  if l.length = 0 ∨ rightB r.x r.y r.w r.h = false ∨ l.any wrongO = true then -1 else
  match l[bst (fun o => sharedI o r) l l.length]? with
  | some y => if 0 < sharedI y r then ((bst (fun o => sharedI o r) l l.length : Nat) : Int) else ((bst (fun o => -awayI o r) l l.length : Nat) : Int)
  | none => -1
theorem near_none {l : List Out} {r : Rc} (h : l.length = 0 ∨ rightB r.x r.y r.w r.h = false ∨ l.any wrongO = true) : nearI l r = -1 := by unfold nearI; rw [if_pos h]
set_option maxHeartbeats 4000000 in
theorem Nearest_c (v : Value) (l : List Out) (r : Rc) (w : World) (hR : RdK encO 5 w v l) (hn : l.length ≤ 9223372036854775807) :
    Calls Try.prog 17 #[v, rcV r] w fun e w' => e = .returned (.tuple #[.int .i64 (max (nearI l r) 0), .bool (decide (0 ≤ nearI l r))]) ∧ Below w.heap.size w w' := by
  have hR0 := hR
  obtain ⟨p, c, rfl, hcell⟩ := hR
  obtain ⟨n, hln⟩ : ∃ n, n = l.length := ⟨_, rfl⟩
  have hq := Lib.hid (Blk.new w 29 (RcC r))
  have hb0 := Lib.hid ((Below.refl w.heap.size w).alloc (Nat.le_refl _) (.cells (RcC r) 29))
  have HRR := Lib.hid (fun W => right_c r.x r.y r.w r.h W)
  have HCT := Lib.hid (fun (W : World) (h : Below w.heap.size w W) => contains_o 39 #[] wrongO (.slice p l.length c) l W enters_wrong (tells_wrong W) (hR0.below h) hn)
  have HFU := Lib.hid (fun (W : World) (h : Below w.heap.size w W) (h0 : 0 < l.length) => fullest_c (.slice p l.length c) l r W (hR0.below h) hn h0)
  have HCL := Lib.hid (fun (W : World) (h : Below w.heap.size w W) (h0 : 0 < l.length) hw hr => closest_c (.slice p l.length c) l r W (hR0.below h) hn h0 hw hr)
  by_cases h0 : l.length = 0
  · have HZ := Lib.hid (near_none (r := r) (.inl h0))
    rw [← hln] at h0 ⊢
    subst h0
    clear hcell hR0 hln HFU HCL HCT HRR
    go_enter Try.func17, Try.ntmps17
    go_wp2_with fail
    refine bodyPost_ret (results_tmp2 rfl _ _ _) rfl ?_
    exact ⟨by rw [HZ.out]; rfl, hb0.out⟩
  · have h1 : 0 < l.length := by omega
    have hne : ((l.length : Int) == 0) = false := by rw [beq_eq_false_iff_ne]; omega
    cases hr : rightB r.x r.y r.w r.h
    · have HZ := Lib.hid (near_none (l := l) (r := r) (.inr (.inl hr)))
      rw [hr] at HRR
      rw [← hln] at hne ⊢
      clear hcell hR0 hln h0 h1 HFU HCL HCT hr
      go_enter Try.func17, Try.ntmps17
      go_wp2_with fail
      refine (HRR.out _).mono ?_
      rintro e w1 ⟨rfl, hb⟩
      have HB1 := Lib.hid (hb0.out.trans (hb.mono hb0.out.size))
      clear hb
      go_wp2_with fail
      refine bodyPost_ret (results_tmp2 rfl _ _ _) rfl ?_
      exact ⟨by rw [HZ.out]; rfl, HB1.out⟩
    · rw [hr] at HRR
      cases hw : l.any wrongO
      rotate_left
      · have HZ := Lib.hid (near_none (l := l) (r := r) (.inr (.inr hw)))
        rw [hw] at HCT
        rw [← hln] at hne HCT ⊢
        clear hcell hR0 hln h0 h1 HFU HCL hr hw
        go_enter Try.func17, Try.ntmps17
        go_wp2_with fail
        refine (HRR.out _).mono ?_
        rintro e w1 ⟨rfl, hb⟩
        have HB1 := Lib.hid (hb0.out.trans (hb.mono hb0.out.size))
        clear hb
        go_wp2_with fail
        refine (HCT.out _ HB1.out).mono ?_
        rintro e w2 ⟨rfl, hb⟩
        have HB2 := Lib.hid (HB1.out.trans (hb.mono HB1.out.size))
        clear hb
        go_wp2_with fail
        refine bodyPost_ret (results_tmp2 rfl _ _ _) rfl ?_
        exact ⟨by rw [HZ.out]; rfl, HB2.out⟩
      · rw [hw] at HCT
        have hall : ∀ o ∈ l, rightB o.x o.y o.w o.h = true := fun o ho => by
          have := List.any_eq_false.1 hw o ho
          unfold wrongO at this
          simpa using this
        have HFU1 := Lib.hid (fun (W : World) (h : Below w.heap.size w W) => HFU.out W h h1)
        have HCL1 := Lib.hid (fun (W : World) (h : Below w.heap.size w W) => HCL.out W h h1 hall hr)
        have hml := bst_lt (fun o => sharedI o r) l h1 l.length
        obtain ⟨y, hy⟩ : ∃ y, l[bst (fun o => sharedI o r) l l.length]? = some y := ⟨_, List.getElem?_eq_getElem hml⟩
        have hz : nearI l r = if 0 < sharedI y r then ((bst (fun o => sharedI o r) l l.length : Nat) : Int) else ((bst (fun o => -awayI o r) l l.length : Nat) : Int) := by
          unfold nearI; rw [if_neg (by rintro (h | h | h); exact h0 h; (rw [hr] at h; cases h); (rw [hw] at h; cases h)), hy]
        obtain ⟨m, hm⟩ : ∃ m, m = bst (fun o => sharedI o r) l l.length := ⟨_, rfl⟩
        obtain ⟨q, hq9⟩ : ∃ q, q = bst (fun o => -awayI o r) l l.length := ⟨_, rfl⟩
        rw [← hm] at HFU1 hz hy hml
        rw [← hq9] at HCL1 hz
        obtain ⟨b, o, rfl, hb1, hb2⟩ := hcell m y hy
        have HS := Lib.hid (fun o W => shared_c o r W)
        have HZ := Lib.hid hz
        obtain ⟨z, hzz⟩ : ∃ z, z = nearI l r := ⟨_, rfl⟩
        rw [← hzz] at HZ ⊢
        have hj0 : (0 : Int) ≤ (m : Int) := by omega
        have hj1 : (m : Int) < (l.length : Int) := by omega
        have HC2 := Lib.hid (show b < w.heap.size ∧ ∀ (i : Nat) (u : Value), (encO y)[i]? = some u → w.cell? ⟨b, o + m * 5 + i, none⟩ = some u from ⟨hb1, hb2⟩)
        rw [← hln] at hne HCT HFU1 HCL1 hj1 ⊢
        clear hcell hR0 hln h0 h1 HFU HCL hr hw hall hz hm hq9 hy hml hb1 hb2 hzz
        go_enter Try.func17, Try.ntmps17
        go_wp2_with fail
        refine (HRR.out _).mono ?_
        rintro e w1 ⟨rfl, hb⟩
        have HB1 := Lib.hid (hb0.out.trans (hb.mono hb0.out.size))
        have HQ1 := Lib.hid (hq.out.next hb)
        clear hb
        go_wp2_with fail
        refine (HCT.out _ HB1.out).mono ?_
        rintro e w2 ⟨rfl, hb⟩
        have HB2 := Lib.hid (HB1.out.trans (hb.mono HB1.out.size))
        have HQ2 := Lib.hid (HQ1.out.next hb)
        obtain ⟨⟨r0, r1, r2, r3⟩, -⟩ := HQ2.out.c4
        clear hb
        go_wp2_with fail
        refine (HFU1.out _ HB2.out).mono ?_
        rintro e w9 ⟨rfl, hb⟩
        have HB9 := Lib.hid (HB2.out.trans (hb.mono HB2.out.size))
        have HQ9 := Lib.hid (HQ2.out.next hb)
        clear hb r0 r1 r2 r3
        have HSS : Hid (∀ W, Below w9.heap.size w9 W → W.cell? ⟨w.heap.size, 0, none⟩ = some (.int .i64 r.x) ∧ W.cell? ⟨w.heap.size, 1, none⟩ = some (.int .i64 r.y) ∧ W.cell? ⟨w.heap.size, 2, none⟩ = some (.int .i64 r.w) ∧ W.cell? ⟨w.heap.size, 3, none⟩ = some (.int .i64 r.h) ∧ W.cell? ⟨b, o + m * 5, none⟩ = some (.string y.n) ∧ W.cell? ⟨b, o + m * 5 + 1, none⟩ = some (.int .i64 y.x) ∧ W.cell? ⟨b, o + m * 5 + 2, none⟩ = some (.int .i64 y.y) ∧ W.cell? ⟨b, o + m * 5 + 3, none⟩ = some (.int .i64 y.w) ∧ W.cell? ⟨b, o + m * 5 + 4, none⟩ = some (.int .i64 y.h)) := fun W h => by
          obtain ⟨⟨r0, r1, r2, r3⟩, -⟩ := (HQ9.out.next h).c4
          have hB := HB9.out.trans (h.mono HB9.out.size)
          obtain ⟨y0, y1, y2, y3, y4⟩ := RdK.out (w := W) (fun i u hu => (hB.cell (p := ⟨b, o + m * 5 + i, none⟩) HC2.out.1).trans (HC2.out.2 i u hu))
          exact ⟨r0, r1, r2, r3, y0, y1, y2, y3, y4⟩
        have HBd := Lib.hid (Below.refl w9.heap.size w9).drew
        go_upto_region 4 with fail
        refine wp_region_noPanic ?_
        refine wp_region_held_drew (S := fun wx => wx.cell? ⟨w.heap.size, 0, none⟩ = some (.int .i64 r.x) ∧ wx.cell? ⟨w.heap.size, 1, none⟩ = some (.int .i64 r.y) ∧ wx.cell? ⟨w.heap.size, 2, none⟩ = some (.int .i64 r.w) ∧ wx.cell? ⟨w.heap.size, 3, none⟩ = some (.int .i64 r.h) ∧ wx.cell? ⟨b, o + m * 5, none⟩ = some (.string y.n) ∧ wx.cell? ⟨b, o + m * 5 + 1, none⟩ = some (.int .i64 y.x) ∧ wx.cell? ⟨b, o + m * 5 + 2, none⟩ = some (.int .i64 y.y) ∧ wx.cell? ⟨b, o + m * 5 + 3, none⟩ = some (.int .i64 y.w) ∧ wx.cell? ⟨b, o + m * 5 + 4, none⟩ = some (.int .i64 y.h)) (by kernel_rfl) (by exact HSS.out _ HBd.out) (fun hHeld => ?_)
        refine wpAnyH_take (i := 0) (v := ?v0) rfl (by kernel_rfl) (by kernel_rfl) (by kernel_rfl) (fun _ _ _ h => h) (Or.inl ⟨by kernel_rfl, ?y0⟩) (by assumption) ?r0
        case y0 => (intro wq hSw; (try dsimp only at hSw); go_simp; (try with_reducible rfl))
        (try simp only [Act.put, List.getElem_toArray, List.getElem_cons_zero, List.setIfInBounds_toArray, List.set_cons_zero, List.set_cons_succ])
        refine wpAnyH_take (i := 1) (v := ?v1) rfl (by kernel_rfl) (by kernel_rfl) (by kernel_rfl) (fun _ _ _ h => h) (Or.inl ⟨by kernel_rfl, ?y1⟩) (by assumption) ?r1
        case y1 => (intro wq hSw; (try dsimp only at hSw); go_simp; (try with_reducible rfl))
        (try simp only [Act.put, List.getElem_toArray, List.getElem_cons_succ, List.getElem_cons_zero, List.setIfInBounds_toArray, List.set_cons_zero, List.set_cons_succ])
        refine wpAnyH_take (i := 2) (v := ?v2) rfl (by kernel_rfl) (by kernel_rfl) (by kernel_rfl) (fun _ _ _ h => h) (Or.inl ⟨by kernel_rfl, ?y2⟩) (by assumption) ?r2
        case y2 => (intro wq hSw; (try dsimp only at hSw); go_simp; (try with_reducible rfl))
        (try simp only [Act.put, List.getElem_toArray, List.getElem_cons_succ, List.getElem_cons_zero, List.setIfInBounds_toArray, List.set_cons_zero, List.set_cons_succ])
        refine wpAnyH_take (i := 3) (v := ?v3) rfl (by kernel_rfl) (by kernel_rfl) (by kernel_rfl) (fun _ _ _ h => h) (Or.inl ⟨by kernel_rfl, ?y3⟩) (by assumption) ?r3
        case y3 => (intro wq hSw; (try dsimp only at hSw); go_simp; (try with_reducible rfl))
        (try simp only [Act.put, List.getElem_toArray, List.getElem_cons_succ, List.getElem_cons_zero, List.setIfInBounds_toArray, List.set_cons_zero, List.set_cons_succ])
        refine wpAnyH_take (i := 4) (v := ?v4) rfl (by kernel_rfl) (by kernel_rfl) (by kernel_rfl) (fun _ _ _ h => h) (Or.inl ⟨by kernel_rfl, ?y4⟩) (by assumption) ?r4
        case y4 => (intro wq hSw; (try dsimp only at hSw); go_simp; (try with_reducible rfl))
        (try simp only [Act.put, List.getElem_toArray, List.getElem_cons_succ, List.getElem_cons_zero, List.setIfInBounds_toArray, List.set_cons_zero, List.set_cons_succ])
        refine wpAnyH_ready (rs := [5]) (by kernel_rfl) (by simp) ?_
        refine AllReadyH.cons rfl (fun K hK => ?_) AllReadyH.nil
        go_simp
        refine (HS.out y _).mono ?_
        rintro ex w3 ⟨rfl, hb⟩; have HB3 := Lib.hid (HBd.out.trans (hb.mono HBd.out.size)); have hS3 : w3.cell? ⟨w.heap.size, 0, none⟩ = some (.int .i64 r.x) ∧ w3.cell? ⟨w.heap.size, 1, none⟩ = some (.int .i64 r.y) ∧ w3.cell? ⟨w.heap.size, 2, none⟩ = some (.int .i64 r.w) ∧ w3.cell? ⟨w.heap.size, 3, none⟩ = some (.int .i64 r.h) ∧ w3.cell? ⟨b, o + m * 5, none⟩ = some (.string y.n) ∧ w3.cell? ⟨b, o + m * 5 + 1, none⟩ = some (.int .i64 y.x) ∧ w3.cell? ⟨b, o + m * 5 + 2, none⟩ = some (.int .i64 y.y) ∧ w3.cell? ⟨b, o + m * 5 + 3, none⟩ = some (.int .i64 y.w) ∧ w3.cell? ⟨b, o + m * 5 + 4, none⟩ = some (.int .i64 y.h) := HSS.out _ HB3.out; clear hb
        (try dsimp only)
        refine hK.out _ _ (by exact hS3) (fun hHeld => ?_)
        clear hK K
        (try simp only [Act.put, List.getElem_toArray, List.getElem_cons_succ, List.getElem_cons_zero, List.setIfInBounds_toArray, List.set_cons_zero, List.set_cons_succ])
        refine wpAnyH_take (i := 6) (v := ?v6) rfl (by kernel_rfl) (by kernel_rfl) (by kernel_rfl) (fun _ _ _ h => h) (Or.inl ⟨by kernel_rfl, ?y6⟩) (by assumption) ?r6
        case y6 => (intro wq hSw; (try dsimp only at hSw); go_simp; (try with_reducible rfl))
        (try simp only [Act.put, List.getElem_toArray, List.getElem_cons_succ, List.getElem_cons_zero, List.setIfInBounds_toArray, List.set_cons_zero, List.set_cons_succ])
        refine wpAnyH_done (by kernel_rfl) ?_ _
        refine NoPanic.normal ?_
        by_cases hc : 0 < sharedI y r
        · have HE := Lib.hid (HZ.out.trans (if_pos hc))
          go_wp2_with fail
          refine bodyPost_ret (results_tmp2 rfl _ _ _) rfl ?_
          exact ⟨by rw [HE.out, Int.max_eq_left hj0, decide_eq_true hj0]; rfl, HB9.out.trans (HB3.out.mono HB9.out.size)⟩
        · have HE := Lib.hid (HZ.out.trans (if_neg hc))
          have HQ3 := Lib.hid (HQ9.out.next HB3.out)
          have HB4 := Lib.hid (HB9.out.trans (HB3.out.mono HB9.out.size))
          clear hS3 hHeld
          obtain ⟨⟨r0, r1, r2, r3⟩, -⟩ := HQ3.out.c4
          have hk0 : (0 : Int) ≤ (q : Int) := by omega
          go_wp2_with fail
          refine (HCL1.out _ HB4.out).mono ?_
          rintro e w5 ⟨rfl, hb⟩
          have HB5 := Lib.hid (HB4.out.trans (hb.mono HB4.out.size))
          clear hb
          go_wp2_with fail
          refine bodyPost_ret (results_tmp2 rfl _ _ _) rfl ?_
          exact ⟨by rw [HE.out, Int.max_eq_left hk0, decide_eq_true hk0]; rfl, HB5.out⟩
end Go.Proofs.Yteaeccmlibmmmaa.Ar
