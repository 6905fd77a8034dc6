/- Numbers held against one another; ages; what Check asks of a thing. -/
import Derived.Test.YtgioeijdgoogkaaOdM
import Derived.Sort.Grow
namespace Go.Proofs.Ytgioeijdgoogkaa.Od
open Go.RowKit
def cmpI (x y : Int) : Int := if x < y then -1 else if y < x then 1 else 0
theorem isNaN_c (x : Int) (w : World) : Calls Try.prog 44 #[.int .i64 x] w fun e w' => e = .returned (.bool false) ∧ w' = w := by
  go_enter Try.func44, Try.ntmps44
  go_wp2_with fail
  go_ret
  exact ⟨by simp, rfl⟩
theorem cmpare_c (x y : Int) (w : World) : Calls Try.prog 39 #[.int .i64 x, .int .i64 y] w fun e w' => e = .returned (.int .i64 (cmpI x y)) ∧ w' = w := by
  have HC := Lib.hid (fun a W => isNaN_c a W)
  by_cases h1 : x < y
  · have HR := Lib.hid (show cmpI x y = -1 from if_pos h1)
    go_enter Try.func39, Try.ntmps39
    go_wp2_with (go_at_call 44; refine (HC.out _ _).mono ?_; rintro e w' ⟨rfl, rfl⟩)
    go_ret
    exact ⟨by rw [HR.out]; rfl, rfl⟩
  · by_cases h2 : y < x
    · have HR := Lib.hid (show cmpI x y = 1 from (if_neg h1).trans (if_pos h2))
      go_enter Try.func39, Try.ntmps39
      go_wp2_with (go_at_call 44; refine (HC.out _ _).mono ?_; rintro e w' ⟨rfl, rfl⟩)
      go_ret
      exact ⟨by rw [HR.out]; rfl, rfl⟩
    · have HR := Lib.hid (show cmpI x y = 0 from (if_neg h1).trans (if_neg h2))
      go_enter Try.func39, Try.ntmps39
      go_wp2_with (go_at_call 44; refine (HC.out _ _).mono ?_; rintro e w' ⟨rfl, rfl⟩)
      go_ret
      exact ⟨by rw [HR.out]; rfl, rfl⟩
/-- A world that has only grown: draws, and blocks laid behind it. -/
def Gr (w w' : World) : Prop := ∃ (q : Nat) (os : Array Obj), w' = Sort.grow (w.drewN q) os
theorem Gr.refl (w : World) : Gr w w := ⟨0, #[], by rw [Sort.grow_empty]; rfl⟩
theorem Gr.drew {w w' : World} (h : Gr w w') : Gr w w'.drew := by
  obtain ⟨q, os, rfl⟩ := h
  exact ⟨q + 1, os, rfl⟩
theorem Gr.alloc {w w' : World} (h : Gr w w') (o : Obj) : Gr w (w'.alloc o) := by
  obtain ⟨q, os, rfl⟩ := h
  refine ⟨q, os ++ #[o], ?_⟩
  rw [← Sort.grow_grow]
  simp [World.alloc, Sort.grow]
theorem Gr.trans {a b c : World} (h : Gr a b) (k : Gr b c) : Gr a c := by
  obtain ⟨q, os, rfl⟩ := h
  obtain ⟨q2, os2, rfl⟩ := k
  refine ⟨q + q2, os ++ os2, ?_⟩
  rw [← Sort.grow_grow, ← World.drewN_drewN]; rfl
theorem Gr.below {w w' : World} (h : Gr w w') : Below w.heap.size w w' := by
  obtain ⟨q, os, rfl⟩ := h
  refine ⟨rfl, rfl, rfl, ?_, fun k hk => ?_⟩
  · show w.heap.size ≤ (w.heap ++ os).size
    simp
  · show (w.heap ++ os)[k]? = _
    rw [Array.getElem?_append_left hk]
/-- Numbers as a block holds them. -/
def arrI (zs : List Int) : Array Value := (zs.map (Value.int .i64)).toArray
theorem arrI_at {zs : List Int} {k : Nat} {x : Int} (h : zs[k]? = some x) : (arrI zs)[k]? = some (.int .i64 x) := by unfold arrI; simp [h]
theorem arrI_set (zs : List Int) (k : Nat) (x : Int) : (arrI zs).setIfInBounds k (.int .i64 x) = arrI (zs.set k x) := by unfold arrI; simp [List.map_set]
/-- The first that isn't 0. -/
def orL : List Int → Int
  | [] => 0
  | x :: r => if x = 0 then orL r else x
theorem orL_drop {zs : List Int} {k : Nat} {x : Int} (h : zs[k]? = some x) : orL (zs.drop k) = if x = 0 then orL (zs.drop (k + 1)) else x := by
  obtain ⟨hl, rfl⟩ := List.getElem?_eq_some_iff.1 h
  rw [List.drop_eq_getElem_cons hl]; rfl
set_option maxHeartbeats 1000000 in
theorem or_c (g n : Nat) (T : TypeId) (zs : List Int) (w : World) (hQ : Blk w g T (arrI zs)) (hn : zs.length = n) (hs : n ≤ 9) :
    Calls Try.prog 38 #[.slice (some ⟨g, 0, none⟩) n n] w fun e w' => e = .returned (.int .i64 (orL zs)) ∧ w' = w := by
  have HQ := Lib.hid hQ
  have HN := Lib.hid hn
  obtain ⟨z, hz⟩ : ∃ z, z = orL zs := ⟨_, rfl⟩
  rw [← hz]
  have HZ := Lib.hid hz
  clear hQ hn hz
  go_enter Try.func38, Try.ntmps38
  go_wp2_with fail
  go_loopw [8] (fun i wr => ∃ k : Nat, k ≤ n ∧ i = .int .i64 k ∧ wr = w ∧ Asd (z = orL (zs.drop k))) (fun i _ => n - (intOf i).toNat)
  case atStart => exact ⟨0, Nat.zero_le _, rfl, rfl, HZ.out⟩
  case round =>
    obtain ⟨k, hk, rfl, rfl, hA⟩ := hrel
    have HA := Lib.hid (show z = orL (zs.drop k) from hA)
    clear hA
    by_cases hlt : k < n
    · obtain ⟨x, hx⟩ : ∃ x, zs[k]? = some x := ⟨_, List.getElem?_eq_getElem (by rw [HN.out]; exact hlt)⟩
      have c0 := HQ.out.at_ (arrI_at hx)
      have hi0 : (0 : Int) ≤ (k : Int) := by omega
      have hi1 : (k : Int) < (n : Int) := by omega
      have HX := Lib.hid (HA.out.trans (orL_drop hx))
      have hc1 : ((0 + k : Nat)) = k := Nat.zero_add k
      clear hx
      by_cases h0 : x = 0
      · have HX2 := Lib.hid (HX.out.trans (if_pos h0))
        subst h0
        go_wp2_with fail
        go_roundw
        case rel => exact ⟨k + 1, by omega, by go_num, by simp, HX2.out⟩
        case measure => simp [intOf]; omega
      · have HX2 := Lib.hid (HX.out.trans (if_neg h0))
        have h01 : (x == 0) = false := by simpa using h0
        go_wp2_with fail
        go_ret
        exact ⟨by rw [HX2.out]; rfl, rfl⟩
    · have HX := Lib.hid (show z = 0 by rw [HA.out, List.drop_of_length_le (by have := HN.out; omega)]; rfl)
      go_wp2_with fail
      go_ret
      exact ⟨by rw [HX.out]; rfl, rfl⟩
/-- What age tells. -/
def ageI (a b : It) : Int := orL [cmpI a.n b.n, cmpI a.c b.c]
theorem age_pos (a b : It) : decide (0 < ageI a b) = yg a b := by
  unfold ageI cmpI yg orL orL orL
  by_cases h1 : a.n < b.n
  · rw [if_pos h1]; simp; omega
  · rw [if_neg h1]
    by_cases h2 : b.n < a.n
    · rw [if_pos h2]; simp; omega
    · rw [if_neg h2]
      by_cases h3 : a.c < b.c
      · rw [if_pos h3]; simp; omega
      · rw [if_neg h3]
        by_cases h4 : b.c < a.c
        · rw [if_pos h4]; simp; omega
        · rw [if_neg h4]; simp; omega
set_option maxHeartbeats 2000000 in
set_option maxRecDepth 100000 in
theorem age_c (a b : It) (w : World) : Calls Try.prog 40 #[itV a, itV b] w fun e w' => e = .returned (.int .i64 (ageI a b)) ∧ Gr w w' := by
  have HC := Lib.hid (fun x y W => cmpare_c x y W)
  have HO := Lib.hid (fun g n T zs W h1 h2 h3 => or_c g n T zs W h1 h2 h3)
  obtain ⟨v, hv⟩ : ∃ v, v = (w.alloc (ItB a)).alloc (ItB b) := ⟨_, rfl⟩
  have hA : Blk v w.heap.size 38 (ItC a) := by rw [hv]; exact (Blk.new w _ _).alloc _
  have hB : Blk v (w.heap.size + 1) 38 (ItC b) := by rw [hv]; have := Blk.new (w.alloc (ItB a)) 38 (ItC b); rwa [World.size_alloc] at this
  have HB := Lib.hid (show ∀ o, Gr w (v.drew.alloc o) by rw [hv]; exact fun o => (((Gr.refl w).alloc _).alloc _).drew.alloc o)
  have HSS : Hid (∀ W, Below v.heap.size v W → W.cell? ⟨w.heap.size, 5, none⟩ = some (.int .i64 a.n) ∧ W.cell? ⟨w.heap.size + 1, 5, none⟩ = some (.int .i64 b.n) ∧ W.cell? ⟨w.heap.size, 0, none⟩ = some (.int .i64 a.c) ∧ W.cell? ⟨w.heap.size + 1, 0, none⟩ = some (.int .i64 b.c)) := fun W h => ⟨(hA.next h).at_ (i := 5) rfl, (hB.next h).at_ (i := 5) rfl, (hA.next h).at_ (i := 0) rfl, (hB.next h).at_ (i := 0) rfl⟩
  have HV := Lib.hid hv
  have HQ : Hid (∀ x y, Blk ((v.drew).alloc (.cells #[.int .i64 x, .int .i64 y] 3)) v.drew.heap.size 3 (arrI [x, y])) := fun x y => Blk.new _ _ _
  have HBd := Lib.hid (fun o => ((Below.refl v.heap.size v).drew.alloc (Nat.le_refl _) o : Below v.heap.size v ((v.drew).alloc o)))
  have HB0 := Lib.hid ((Below.refl v.heap.size v).drew)
  clear hA hB hv
  go_enter Try.func40, Try.ntmps40
  go_upto_region 1 with fail
  rewrite [← HV.out]
  refine wp_region_noPanic ?_
  refine wp_region_held_drew (S := fun wx => wx.cell? ⟨w.heap.size, 5, none⟩ = some (.int .i64 a.n) ∧ wx.cell? ⟨w.heap.size + 1, 5, none⟩ = some (.int .i64 b.n) ∧ wx.cell? ⟨w.heap.size, 0, none⟩ = some (.int .i64 a.c) ∧ wx.cell? ⟨w.heap.size + 1, 0, none⟩ = some (.int .i64 b.c)) (by kernel_rfl) (by exact HSS.out _ HB0.out) (fun hHeld => ?_)
  refine wpAnyH_take (i := 0) (v := ?v0) rfl (by kernel_rfl) (by kernel_rfl) (by kernel_rfl) (fun _ _ _ h => h) (Or.inl ⟨by kernel_rfl, ?y0⟩) (by assumption) ?r0
  case y0 => (intro wq hSw; (try dsimp only at hSw); go_simp; (try with_reducible rfl))
  (try simp only [Act.put, List.getElem_toArray, List.getElem_cons_zero, List.setIfInBounds_toArray, List.set_cons_zero, List.set_cons_succ])
  refine wpAnyH_take (i := 1) (v := ?v1) rfl (by kernel_rfl) (by kernel_rfl) (by kernel_rfl) (fun _ _ _ h => h) (Or.inl ⟨by kernel_rfl, ?y1⟩) (by assumption) ?r1
  case y1 => (intro wq hSw; (try dsimp only at hSw); go_simp; (try with_reducible rfl))
  (try simp only [Act.put, List.getElem_toArray, List.getElem_cons_succ, List.getElem_cons_zero, List.setIfInBounds_toArray, List.set_cons_zero, List.set_cons_succ])
  refine wpAnyH_take (i := 2) (v := ?v2) rfl (by kernel_rfl) (by kernel_rfl) (by kernel_rfl) (fun _ _ _ h => h) (Or.inl ⟨by kernel_rfl, ?y2⟩) (by assumption) ?r2
  case y2 => (intro wq hSw; (try dsimp only at hSw); go_simp; (try with_reducible rfl))
  (try simp only [Act.put, List.getElem_toArray, List.getElem_cons_succ, List.getElem_cons_zero, List.setIfInBounds_toArray, List.set_cons_zero, List.set_cons_succ])
  refine wpAnyH_take (i := 3) (v := ?v3) rfl (by kernel_rfl) (by kernel_rfl) (by kernel_rfl) (fun _ _ _ h => h) (Or.inl ⟨by kernel_rfl, ?y3⟩) (by assumption) ?r3
  case y3 => (intro wq hSw; (try dsimp only at hSw); go_simp; (try with_reducible rfl))
  (try simp only [Act.put, List.getElem_toArray, List.getElem_cons_succ, List.getElem_cons_zero, List.setIfInBounds_toArray, List.set_cons_zero, List.set_cons_succ])
  refine wpAnyH_take (i := 5) (v := ?v5) rfl (by kernel_rfl) (by kernel_rfl) (by kernel_rfl) (fun _ _ _ h => h) (Or.inl ⟨by kernel_rfl, ?y5⟩) (by assumption) ?r5
  case y5 => (intro wq hSw; (try dsimp only at hSw); go_simp; (try with_reducible rfl))
  (try simp only [Act.put, List.getElem_toArray, List.getElem_cons_succ, List.getElem_cons_zero, List.setIfInBounds_toArray, List.set_cons_zero, List.set_cons_succ])
  refine wpAnyH_take (i := 6) (v := ?v6) rfl (by kernel_rfl) (by kernel_rfl) (by kernel_rfl) (fun _ _ _ h => h) (Or.inl ⟨by kernel_rfl, ?y6⟩) (by assumption) ?r6
  case y6 => (intro wq hSw; (try dsimp only at hSw); go_simp; (try with_reducible rfl))
  (try simp only [Act.put, List.getElem_toArray, List.getElem_cons_succ, List.getElem_cons_zero, List.setIfInBounds_toArray, List.set_cons_zero, List.set_cons_succ])
  refine wpAnyH_take (i := 7) (v := ?v7) rfl (by kernel_rfl) (by kernel_rfl) (by kernel_rfl) (fun _ _ _ h => h) (Or.inl ⟨by kernel_rfl, ?y7⟩) (by assumption) ?r7
  case y7 => (intro wq hSw; (try dsimp only at hSw); go_simp; (try with_reducible rfl))
  (try simp only [Act.put, List.getElem_toArray, List.getElem_cons_succ, List.getElem_cons_zero, List.setIfInBounds_toArray, List.set_cons_zero, List.set_cons_succ])
  refine wpAnyH_take (i := 8) (v := ?v8) rfl (by kernel_rfl) (by kernel_rfl) (by kernel_rfl) (fun _ _ _ h => h) (Or.inl ⟨by kernel_rfl, ?y8⟩) (by assumption) ?r8
  case y8 => (intro wq hSw; (try dsimp only at hSw); go_simp; (try with_reducible rfl))
  (try simp only [Act.put, List.getElem_toArray, List.getElem_cons_succ, List.getElem_cons_zero, List.setIfInBounds_toArray, List.set_cons_zero, List.set_cons_succ])
  refine wpAnyH_ready (rs := [4]) (by kernel_rfl) (by simp) ?_
  refine AllReadyH.cons rfl (fun K hK => ?_) AllReadyH.nil
  go_simp
  refine (HC.out _ _ _).mono ?_
  rintro e w1 ⟨rfl, rfl⟩
  (try dsimp only)
  refine hK.out _ _ (by exact HSS.out _ HB0.out) (fun hHeld => ?_)
  clear hK K
  (try simp only [Act.put, List.getElem_toArray, List.getElem_cons_succ, List.getElem_cons_zero, List.setIfInBounds_toArray, List.set_cons_zero, List.set_cons_succ])
  refine wpAnyH_ready (rs := [9]) (by kernel_rfl) (by simp) ?_
  refine AllReadyH.cons rfl (fun K hK => ?_) AllReadyH.nil
  go_simp
  refine (HC.out _ _ _).mono ?_
  rintro e w1 ⟨rfl, rfl⟩
  (try dsimp only)
  refine hK.out _ _ (by exact HSS.out _ HB0.out) (fun hHeld => ?_)
  clear hK K
  (try simp only [Act.put, List.getElem_toArray, List.getElem_cons_succ, List.getElem_cons_zero, List.setIfInBounds_toArray, List.set_cons_zero, List.set_cons_succ])
  refine wpAnyH_ready (rs := [10]) (by kernel_rfl) (by simp) ?_
  refine AllReadyH.cons rfl (fun K hK => ?_) AllReadyH.nil
  go_simp
  refine hK.out _ _ (by exact HSS.out _ (HBd.out _)) (fun hHeld => ?_)
  clear hK K
  (try simp only [Act.put, List.getElem_toArray, List.getElem_cons_succ, List.getElem_cons_zero, List.setIfInBounds_toArray, List.set_cons_zero, List.set_cons_succ])
  refine wpAnyH_ready (rs := [11]) (by kernel_rfl) (by simp) ?_
  refine AllReadyH.cons rfl (fun K hK => ?_) AllReadyH.nil
  go_simp
  refine (HO.out _ 2 _ _ _ (HQ.out _ _) rfl (by omega)).mono ?_
  rintro e w1 ⟨rfl, rfl⟩
  (try dsimp only)
  refine hK.out _ _ (by exact HSS.out _ (HBd.out _)) (fun hHeld => ?_)
  clear hK K
  (try simp only [Act.put, List.getElem_toArray, List.getElem_cons_succ, List.getElem_cons_zero, List.setIfInBounds_toArray, List.set_cons_zero, List.set_cons_succ])
  refine wpAnyH_take (i := 12) (v := ?v12) rfl (by kernel_rfl) (by kernel_rfl) (by kernel_rfl) (fun _ _ _ h => h) (Or.inl ⟨by kernel_rfl, ?y12⟩) (by assumption) ?r12
  case y12 => (intro wq hSw; (try dsimp only at hSw); go_simp; (try with_reducible rfl))
  (try simp only [Act.put, List.getElem_toArray, List.getElem_cons_succ, List.getElem_cons_zero, List.setIfInBounds_toArray, List.set_cons_zero, List.set_cons_succ])
  refine wpAnyH_done (by kernel_rfl) ?_ _
  refine NoPanic.normal ?_
  go_wp2_with fail
  go_ret
  exact ⟨rfl, HB.out _⟩
theorem younger_c (a b : It) (w : World) : Calls Try.prog 41 #[itV a, itV b] w fun e w' => e = .returned (.bool (yg a b)) ∧ Below w.heap.size w w' := by
  have HC := Lib.hid (fun W => age_c a b W)
  have HY := Lib.hid (age_pos a b)
  obtain ⟨n, hn⟩ : ∃ n, n = ageI a b := ⟨_, rfl⟩
  rw [← hn] at HC HY
  have h0 : Below w.heap.size w ((w.alloc (ItB a)).alloc (ItB b)) := ((Below.refl _ _).alloc (Nat.le_refl _) _).alloc (by simp) _
  have H0 := Lib.hid h0
  clear hn h0
  go_enter Try.func41, Try.ntmps41
  go_wp2_with fail
  refine (HC.out _).mono ?_
  rintro e w1 ⟨rfl, hb⟩
  have HB := Lib.hid (H0.out.trans (hb.below.mono H0.out.size))
  clear hb
  go_wp2_with fail
  go_ret
  exact ⟨ret_bool HY.out, HB.out⟩
set_option maxHeartbeats 2000000 in
theorem wrong_c (t : It) (w : World) : Calls Try.prog 23 #[itV t] w fun e w' => e = .returned (.bool (!okT t)) ∧ Below w.heap.size w w' := by
  have HR := Lib.hid (show okT t = decide (1 ≤ t.c ∧ 0 ≤ t.b ∧ t.b < 5 ∧ 0 ≤ t.r ∧ 0 ≤ t.n) from rfl)
  have H0 := Lib.hid ((Below.refl w.heap.size w).alloc (Nat.le_refl _) (ItB t))
  go_enter Try.func23, Try.ntmps23
  go_wp2_with fail
  all_goals (go_ret; refine ⟨?_, H0.out⟩; rw [HR.out]; refine ret_bool ?_; rw [Bool.eq_iff_iff]; simp; try omega)
end Go.Proofs.Ytgioeijdgoogkaa.Od
