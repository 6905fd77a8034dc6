/- The document's younger, lower, next, cut. -/
import Derived.Test.YtgioeijdgoogkaaOdP
namespace Go.Proofs.Ytgioeijdgoogkaa.Od
open Go.RowKit Go.Maps Go.Shelf
set_option linter.unusedSimpArgs false
set_option maxHeartbeats 400000 in
theorem ryounger_c (a b : It) (w : World) : Calls Try.prog 35 #[itV a, itV b] w fun e w' => e = .returned (.bool (yg a b)) ∧ Below w.heap.size w w' := by
  obtain ⟨ac, ab, ao, am, ar, an⟩ := a
  obtain ⟨bc, bb, bo, bm, br, bn⟩ := b
  have H0 := Lib.hid (show Below w.heap.size w ((w.alloc (ItB ⟨ac, ab, ao, am, ar, an⟩)).alloc (ItB ⟨bc, bb, bo, bm, br, bn⟩)) from ((Below.refl _ _).alloc (Nat.le_refl _) _).alloc (by simp) _)
  have HR := Lib.hid (show yg ⟨ac, ab, ao, am, ar, an⟩ ⟨bc, bb, bo, bm, br, bn⟩ = (decide (bn < an) || (decide (an = bn) && decide (bc < ac))) from rfl)
  by_cases h : an = bn
  · subst h
    have e1 : (an == an) = true := by simp
    go_enter Try.func35, Try.ntmps35
    go_wp2_with fail
    all_goals (go_ret; refine ⟨?_, H0.out⟩; rw [HR.out]; refine ret_bool ?_; rw [Bool.eq_iff_iff]; simp; try omega)
  · have e1 : (an == bn) = false := by simpa using h
    go_enter Try.func35, Try.ntmps35
    go_wp2_with fail
    all_goals (go_ret; refine ⟨?_, H0.out⟩; rw [HR.out]; refine ret_bool ?_; rw [Bool.eq_iff_iff]; simp; try omega)
def lowB (a b : It) (x y : Int) : Bool := if x ≠ y then decide (x < y) else if a.r ≠ b.r then decide (a.r < b.r) else yg b a
set_option maxHeartbeats 400000 in
theorem rlower_c (a b : It) (x y : Int) (w : World) : Calls Try.prog 32 #[itV a, itV b, .int .i64 x, .int .i64 y] w fun e w' => e = .returned (.bool (lowB a b x y)) ∧ Below w.heap.size w w' := by
  have HY := Lib.hid (fun W => ryounger_c b a W)
  obtain ⟨B, hB⟩ : ∃ B, B = lowB a b x y := ⟨_, rfl⟩
  rw [← hB]
  obtain ⟨Y, hY⟩ : ∃ Y, Y = yg b a := ⟨_, rfl⟩
  rw [← hY] at HY
  obtain ⟨ac, ab, ao, am, ar, an⟩ := a
  obtain ⟨bc, bb, bo, bm, br, bn⟩ := b
  have H0 := Lib.hid (show Below w.heap.size w ((w.alloc (ItB ⟨ac, ab, ao, am, ar, an⟩)).alloc (ItB ⟨bc, bb, bo, bm, br, bn⟩)) from ((Below.refl _ _).alloc (Nat.le_refl _) _).alloc (by simp) _)
  by_cases h1 : x = y
  · by_cases h2 : ar = br
    · have HR := Lib.hid (show B = Y by rw [hB, hY]; unfold lowB; rw [if_neg (by simpa using h1), if_neg (by simpa using h2)])
      subst h1
      subst h2
      have e1 : (x == x) = true := by simp
      have e2 : (ar == ar) = true := by simp
      clear hB hY
      go_enter Try.func32, Try.ntmps32
      go_wp2_with fail
      with_reducible refine (HY.out _).mono ?_
      rintro e w1 ⟨rfl, hb⟩
      have HB := Lib.hid (H0.out.trans (hb.mono H0.out.size))
      clear hb
      go_wp2_with fail
      go_ret
      exact ⟨by rw [HR.out]; rfl, HB.out⟩
    · have HR := Lib.hid (show B = decide (ar < br) by rw [hB]; unfold lowB; rw [if_neg (by simpa using h1), if_pos h2])
      subst h1
      have e1 : (x == x) = true := by simp
      have e2 : (ar == br) = false := by simpa using h2
      clear hB hY
      go_enter Try.func32, Try.ntmps32
      go_wp2_with fail
      go_ret
      exact ⟨by rw [HR.out]; rfl, H0.out⟩
  · have HR := Lib.hid (show B = decide (x < y) by rw [hB]; unfold lowB; rw [if_pos h1])
    have e1 : (x == y) = false := by simpa using h1
    clear hB hY
    go_enter Try.func32, Try.ntmps32
    go_wp2_with fail
    go_ret
    exact ⟨by rw [HR.out]; rfl, H0.out⟩
theorem nx_plc {l : List It} (hd : Dis l) {i : Nat} {x : It} (hx : l[i]? = some x) : encp l (nx l x.c) = if plc l x.o = (i : Int) then -1 else plc l x.o := by
  have hxm := List.mem_of_getElem? hx
  have hnx : nx l x.c = if x.o = x.c then none else if x.o ∈ cl l then some x.o else none := by unfold nx; rw [hd.lk hxm]
  by_cases ho : x.o ∈ cl l
  · obtain ⟨j, y, hj, hyo, e1, hjn, e2⟩ := cl_at hd ho
    have hp : plc l x.o = (j : Int) := by unfold plc pl; rw [if_pos ho, e2]
    rw [hp, hnx]
    by_cases hjk : j = i
    · subst hjk
      rw [hx] at hj; injection hj with hj; subst hj
      rw [if_pos hyo.symm, if_pos rfl]; rfl
    · rw [if_neg (fun h => hjk (hd.inj hj hx (hyo.trans h))), if_pos ho, if_neg (by omega), e1]
  · have hp : plc l x.o = -1 := by unfold plc; rw [if_neg ho]
    rw [hp, hnx, if_neg ho]
    have h2 : ¬ ((-1 : Int) = (i : Int)) := by omega
    rw [if_neg h2]
    split <;> rfl
theorem rnext_c (v0 : Value) (l : List It) (i : Nat) (x : It) (w : World) (hd : Dis l) (hR : RdT w v0 l) (hn : l.length ≤ 128) (hx : l[i]? = some x) :
    Calls Try.prog 25 #[v0, .int .i64 i] w fun e w' => e = .returned (.int .i64 (encp l (nx l x.c))) ∧ w' = w := by
  have HP := Lib.hid (place_c v0 l x.o w hR (by omega))
  have hR0 := hR
  obtain ⟨p, c, rfl, -⟩ := hR
  obtain ⟨b, o, rfl, hRB⟩ := hR0.open hx
  obtain ⟨y0, y1, y2, y3, y4, y5⟩ := hRB.get hx
  have HE := Lib.hid (nx_plc hd hx)
  obtain ⟨z, hz⟩ : ∃ z, z = plc l x.o := ⟨_, rfl⟩
  rw [← hz] at HP HE
  have hi0 : (0 : Int) ≤ (i : Int) := by omega
  have hi1 : (i : Int) < (l.length : Int) := by have := (List.getElem?_eq_some_iff.1 hx).1; omega
  obtain ⟨n, hln⟩ : ∃ n, n = l.length := ⟨_, rfl⟩
  rw [← hln] at HP hi1 ⊢
  obtain ⟨r, hr⟩ : ∃ r, r = encp l (nx l x.c) := ⟨_, rfl⟩
  rw [← hr] at HE ⊢
  clear hR0 hRB hd hx hz hln hr
  by_cases hzi : z = (i : Int)
  · have HZ := Lib.hid (HE.out.trans (if_pos hzi))
    have e1 : (z == (i : Int)) = true := by simpa using hzi
    go_enter Try.func25, Try.ntmps25
    go_wp2_with fail
    refine HP.out.mono ?_
    rintro e w1 ⟨rfl, rfl⟩
    go_wp2_with fail
    go_ret
    exact ⟨by rw [HZ.out]; rfl, rfl⟩
  · have HZ := Lib.hid (HE.out.trans (if_neg hzi))
    have e1 : (z == (i : Int)) = false := by simpa using hzi
    go_enter Try.func25, Try.ntmps25
    go_wp2_with fail
    refine HP.out.mono ?_
    rintro e w1 ⟨rfl, rfl⟩
    go_wp2_with fail
    go_ret
    exact ⟨by rw [HZ.out]; rfl, rfl⟩
set_option maxHeartbeats 4000000 in
set_option maxRecDepth 100000 in
theorem rcut_c (v0 : Value) (l : List It) (i : Nat) (x : It) (w : World) (hd : Dis l) (hR : RdT w v0 l) (hn : l.length ≤ 128) (hx : l[i]? = some x) :
    Calls Try.prog 26 #[v0, .int .i64 i] w fun e w' => e = .returned (.bool (cutB l x.c)) ∧ Below w.heap.size w w' := by
  have HNX := Lib.hid (fun i x (W : World) (h : Below w.heap.size w W) hx => rnext_c v0 l i x W hd (hR.below h) hn hx)
  have HY := Lib.hid (fun a b W => ryounger_c a b W)
  have HR0 := Lib.hid hR
  obtain ⟨p, c, rfl, -⟩ := hR
  obtain ⟨b, o, rfl, hRB⟩ := HR0.out.open hx
  have HR := Lib.hid hRB
  have HD := Lib.hid hd
  have HX := Lib.hid hx
  have hxc : x.c ∈ cl l := List.mem_map.2 ⟨x, List.mem_of_getElem? hx, rfl⟩
  have hil := (List.getElem?_eq_some_iff.1 hx).1
  obtain ⟨n, hln⟩ : ∃ n, n = l.length := ⟨_, rfl⟩
  rw [← hln] at HNX hn hil HR0 ⊢
  have HN := Lib.hid hln
  have hi0 : (0 : Int) ≤ (i : Int) := by omega
  have hi1 : (i : Int) < (n : Int) := by omega
  obtain ⟨B, hB⟩ : ∃ B, B = cutB l x.c := ⟨_, rfl⟩
  rw [← hB]
  have HB := Lib.hid (show B = ringB l (nx l) x.c (n + 1) (nx l x.c) by rw [hB, cut_more hxc (by omega)])
  obtain ⟨o0, ho0⟩ : ∃ o0, o0 = nx l x.c := ⟨_, rfl⟩
  have HO : Hid (∀ a, o0 = some a → a ∈ cl l) := fun a ha => nx_cl x.c a (by rw [← ho0]; exact ha)
  have HC0 := Lib.hid (HNX.out i x w (Below.refl _ _) hx)
  rw [← ho0] at HB HC0
  clear hd hx hxc hil hln hB ho0 hRB
  go_enter Try.func26, Try.ntmps26
  go_wp2_with fail
  refine HC0.out.mono ?_
  rintro e w1 ⟨rfl, rfl⟩
  obtain ⟨wo, hwo⟩ : ∃ wo, wo = w1 := ⟨_, rfl⟩
  subst hwo
  go_wp2_with fail
  go_loopw [5, 6] (fun y z wr => ∃ (k : Nat) (oo : Option Int), k ≤ n + 1 ∧ y = .int .i64 (encp l oo) ∧ z = .int .i64 k ∧ Below wo.heap.size wo wr ∧ Asd (∀ a, oo = some a → a ∈ cl l) ∧ Asd (B = ringB l (nx l) x.c (n + 1 - k) oo)) (fun _ z _ => n + 1 - (intOf z).toNat)
  case atStart => exact ⟨0, o0, Nat.zero_le _, rfl, rfl, Below.refl _ _, HO.out, HB.out⟩
  case round =>
    obtain ⟨k, oo, hk, rfl, rfl, hW, hA, hA2⟩ := hrel
    have HA := Lib.hid (show ∀ a, oo = some a → a ∈ cl l from hA)
    have HB2 := Lib.hid (show B = ringB l (nx l) x.c (n + 1 - k) oo from hA2)
    clear hA hA2
    by_cases hlt : k ≤ n
    · have hk1 : (k : Int) ≤ (n : Int) := by omega
      cases oo with
      | none =>
        have HZ := Lib.hid (HB2.out.trans (ringB_none _))
        have e1 : encp l none = -1 := rfl
        rw [e1]
        have e2 : ¬ ((0 : Int) ≤ -1) := by omega
        go_wp2_with fail
        go_ret
        exact ⟨by rw [HZ.out]; rfl, hW⟩
      | some a =>
        have ha := HA.out a rfl
        obtain ⟨j, y, hj, rfl, e1, hjn, -⟩ := cl_at HD.out ha
        rw [e1]
        have hjn : j < n := by rw [HN.out]; exact hjn
        have HJ := Lib.hid hj
        have HB3 := Lib.hid (show B = if y.c = x.c then true else if yc l y.c x.c then false else ringB l (nx l) x.c (n + 1 - (k + 1)) (nx l y.c) by
          rw [HB2.out, show n + 1 - k = (n + 1 - (k + 1)) + 1 by omega]; rfl)
        have hj0 : (0 : Int) ≤ (j : Int) := by omega
        have hj1 : (j : Int) < (n : Int) := by omega
        clear ha e1 HB2 hj
        by_cases hyx : y.c = x.c
        · have hji : j = i := HD.out.inj HJ.out HX.out hyx
          subst hji
          have HZ := Lib.hid (HB3.out.trans (if_pos hyx))
          have e6 : ((j : Int) == (j : Int)) = true := by simp
          clear hyx
          go_wp2_with fail
          go_ret
          exact ⟨by rw [HZ.out]; rfl, hW⟩
        · have HB4 := Lib.hid (HB3.out.trans (if_neg hyx))
          have hne : ¬ ((j : Int) = (i : Int)) := fun h => by
            have : j = i := by omega
            subst this
            have h1 := HJ.out; rw [HX.out] at h1; injection h1 with h1; subst h1; exact hyx rfl
          have e6 : ((j : Int) == (i : Int)) = false := by simpa using hne
          have hyc : yc l y.c x.c = yg y x := by unfold yc; rw [HD.out.it (List.mem_of_getElem? HJ.out), HD.out.it (List.mem_of_getElem? HX.out)]
          rw [hyc] at HB4
          obtain ⟨yb, hyb⟩ : ∃ b, b = yg y x := ⟨_, rfl⟩
          have HYC := Lib.hid (fun W => HY.out y x W)
          rw [← hyb] at HB4 HYC
          have HSS : Hid (∀ W, Below wr.heap.size wr W → (W.cell? ⟨b, o + j * 6, none⟩ = some (.int .i64 y.c) ∧ W.cell? ⟨b, o + j * 6 + 1, none⟩ = some (.int .i64 y.b) ∧ W.cell? ⟨b, o + j * 6 + 2, none⟩ = some (.int .i64 y.o) ∧ W.cell? ⟨b, o + j * 6 + 3, none⟩ = some (.bool y.m) ∧ W.cell? ⟨b, o + j * 6 + 4, none⟩ = some (.int .i64 y.r) ∧ W.cell? ⟨b, o + j * 6 + 5, none⟩ = some (.int .i64 y.n)) ∧ (W.cell? ⟨b, o + i * 6, none⟩ = some (.int .i64 x.c) ∧ W.cell? ⟨b, o + i * 6 + 1, none⟩ = some (.int .i64 x.b) ∧ W.cell? ⟨b, o + i * 6 + 2, none⟩ = some (.int .i64 x.o) ∧ W.cell? ⟨b, o + i * 6 + 3, none⟩ = some (.bool x.m) ∧ W.cell? ⟨b, o + i * 6 + 4, none⟩ = some (.int .i64 x.r) ∧ W.cell? ⟨b, o + i * 6 + 5, none⟩ = some (.int .i64 x.n))) := fun W h =>
            ⟨(HR.out.below (hW.trans (h.mono hW.size))).get HJ.out, (HR.out.below (hW.trans (h.mono hW.size))).get HX.out⟩
          have HW := Lib.hid hW
          have HB0 := Lib.hid (Below.refl wr.heap.size wr).drew
          clear hyx hyc hyb HB3 hW
          go_upto_region 7 with fail
          refine wp_region_noPanic ?_
          refine wp_region_held_drew (S := fun wx => (wx.cell? ⟨b, o + j * 6, none⟩ = some (.int .i64 y.c) ∧ wx.cell? ⟨b, o + j * 6 + 1, none⟩ = some (.int .i64 y.b) ∧ wx.cell? ⟨b, o + j * 6 + 2, none⟩ = some (.int .i64 y.o) ∧ wx.cell? ⟨b, o + j * 6 + 3, none⟩ = some (.bool y.m) ∧ wx.cell? ⟨b, o + j * 6 + 4, none⟩ = some (.int .i64 y.r) ∧ wx.cell? ⟨b, o + j * 6 + 5, none⟩ = some (.int .i64 y.n)) ∧ (wx.cell? ⟨b, o + i * 6, none⟩ = some (.int .i64 x.c) ∧ wx.cell? ⟨b, o + i * 6 + 1, none⟩ = some (.int .i64 x.b) ∧ wx.cell? ⟨b, o + i * 6 + 2, none⟩ = some (.int .i64 x.o) ∧ wx.cell? ⟨b, o + i * 6 + 3, none⟩ = some (.bool x.m) ∧ wx.cell? ⟨b, o + i * 6 + 4, none⟩ = some (.int .i64 x.r) ∧ wx.cell? ⟨b, o + i * 6 + 5, none⟩ = some (.int .i64 x.n))) (by kernel_rfl) (by exact HSS.out _ HB0.out) (fun hHeld => ?_)
          refine wpAnyH_take (i := 0) (v := ?v0) rfl (by kernel_rfl) (by kernel_rfl) (by kernel_rfl) (fun _ _ _ h => h) (Or.inl ⟨by kernel_rfl, ?y0⟩) (by assumption) ?r0
          case y0 => (intro wq hSw; (try dsimp only at hSw); go_simp; (try with_reducible rfl))
          (try simp only [Act.put, List.getElem_toArray, List.getElem_cons_zero, List.setIfInBounds_toArray, List.set_cons_zero, List.set_cons_succ])
          refine wpAnyH_take (i := 1) (v := ?v1) rfl (by kernel_rfl) (by kernel_rfl) (by kernel_rfl) (fun _ _ _ h => h) (Or.inl ⟨by kernel_rfl, ?y1⟩) (by assumption) ?r1
          case y1 => (intro wq hSw; (try dsimp only at hSw); go_simp; (try with_reducible rfl))
          (try simp only [Act.put, List.getElem_toArray, List.getElem_cons_succ, List.getElem_cons_zero, List.setIfInBounds_toArray, List.set_cons_zero, List.set_cons_succ])
          refine wpAnyH_take (i := 2) (v := ?v2) rfl (by kernel_rfl) (by kernel_rfl) (by kernel_rfl) (fun _ _ _ h => h) (Or.inl ⟨by kernel_rfl, ?y2⟩) (by assumption) ?r2
          case y2 => (intro wq hSw; (try dsimp only at hSw); go_simp; (try with_reducible rfl))
          (try simp only [Act.put, List.getElem_toArray, List.getElem_cons_succ, List.getElem_cons_zero, List.setIfInBounds_toArray, List.set_cons_zero, List.set_cons_succ])
          refine wpAnyH_take (i := 3) (v := ?v3) rfl (by kernel_rfl) (by kernel_rfl) (by kernel_rfl) (fun _ _ _ h => h) (Or.inl ⟨by kernel_rfl, ?y3⟩) (by assumption) ?r3
          case y3 => (intro wq hSw; (try dsimp only at hSw); go_simp; (try with_reducible rfl))
          (try simp only [Act.put, List.getElem_toArray, List.getElem_cons_succ, List.getElem_cons_zero, List.setIfInBounds_toArray, List.set_cons_zero, List.set_cons_succ])
          refine wpAnyH_take (i := 4) (v := ?v4) rfl (by kernel_rfl) (by kernel_rfl) (by kernel_rfl) (fun _ _ _ h => h) (Or.inl ⟨by kernel_rfl, ?y4⟩) (by assumption) ?r4
          case y4 => (intro wq hSw; (try dsimp only at hSw); go_simp; (try with_reducible rfl))
          (try simp only [Act.put, List.getElem_toArray, List.getElem_cons_succ, List.getElem_cons_zero, List.setIfInBounds_toArray, List.set_cons_zero, List.set_cons_succ])
          refine wpAnyH_take (i := 5) (v := ?v5) rfl (by kernel_rfl) (by kernel_rfl) (by kernel_rfl) (fun _ _ _ h => h) (Or.inl ⟨by kernel_rfl, ?y5⟩) (by assumption) ?r5
          case y5 => (intro wq hSw; (try dsimp only at hSw); go_simp; (try with_reducible rfl))
          (try simp only [Act.put, List.getElem_toArray, List.getElem_cons_succ, List.getElem_cons_zero, List.setIfInBounds_toArray, List.set_cons_zero, List.set_cons_succ])
          refine wpAnyH_take (i := 6) (v := ?v6) rfl (by kernel_rfl) (by kernel_rfl) (by kernel_rfl) (fun _ _ _ h => h) (Or.inl ⟨by kernel_rfl, ?y6⟩) (by assumption) ?r6
          case y6 => (intro wq hSw; (try dsimp only at hSw); go_simp; (try with_reducible rfl))
          (try simp only [Act.put, List.getElem_toArray, List.getElem_cons_succ, List.getElem_cons_zero, List.setIfInBounds_toArray, List.set_cons_zero, List.set_cons_succ])
          refine wpAnyH_take (i := 7) (v := ?v7) rfl (by kernel_rfl) (by kernel_rfl) (by kernel_rfl) (fun _ _ _ h => h) (Or.inl ⟨by kernel_rfl, ?y7⟩) (by assumption) ?r7
          case y7 => (intro wq hSw; (try dsimp only at hSw); go_simp; (try with_reducible rfl))
          (try simp only [Act.put, List.getElem_toArray, List.getElem_cons_succ, List.getElem_cons_zero, List.setIfInBounds_toArray, List.set_cons_zero, List.set_cons_succ])
          refine wpAnyH_ready (rs := [8]) (by kernel_rfl) (by simp) ?_
          refine AllReadyH.cons rfl (fun K hK => ?_) AllReadyH.nil
          go_simp
          refine (HYC.out _).mono ?_
          rintro e w1 ⟨rfl, hb⟩; have HB1 := Lib.hid (HB0.out.trans (hb.mono HB0.out.size)); clear hb
          (try dsimp only)
          refine hK.out _ _ (by exact HSS.out _ HB1.out) (fun hHeld => ?_)
          clear hK K
          (try simp only [Act.put, List.getElem_toArray, List.getElem_cons_succ, List.getElem_cons_zero, List.setIfInBounds_toArray, List.set_cons_zero, List.set_cons_succ])
          refine wpAnyH_done (by kernel_rfl) ?_ _
          refine NoPanic.normal ?_
          have HW1 := Lib.hid (HW.out.trans (HB1.out.mono HW.out.size))
          cases yb
          · have HB5 := Lib.hid (show B = ringB l (nx l) x.c (n + 1 - (k + 1)) (nx l y.c) from HB4.out)
            have HCN := Lib.hid (HNX.out j y w1 HW1.out HJ.out)
            have HA3 : Hid (∀ a, nx l y.c = some a → a ∈ cl l) := fun a ha => nx_cl y.c a ha
            obtain ⟨o1, ho1⟩ : ∃ o1, o1 = nx l y.c := ⟨_, rfl⟩
            rw [← ho1] at HB5 HCN HA3
            clear ho1 HB4 hHeld HSS
            go_wp2_with fail
            refine HCN.out.mono ?_
            rintro e w2 ⟨rfl, rfl⟩
            go_wp2_with fail
            go_roundw
            case rel => exact ⟨k + 1, o1, by omega, rfl, by go_num, HW1.out, HA3.out, HB5.out⟩
            case measure => simp [intOf]; omega
          · have HZ := Lib.hid (show B = false from HB4.out)
            clear HB4 hHeld HSS
            go_wp2_with fail
            go_ret
            exact ⟨by rw [HZ.out]; rfl, HW1.out⟩
    · have hk1 : ¬ (k : Int) ≤ (n : Int) := by omega
      have HZ := Lib.hid (show B = false by rw [HB2.out, show n + 1 - k = 0 by omega]; rfl)
      go_wp2_with fail
      go_ret
      exact ⟨by rw [HZ.out]; rfl, hW⟩
end Go.Proofs.Ytgioeijdgoogkaa.Od
