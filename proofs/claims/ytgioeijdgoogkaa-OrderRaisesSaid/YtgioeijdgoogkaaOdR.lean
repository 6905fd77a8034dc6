/- The document's Owners, Bands, walked. -/
import Derived.Test.YtgioeijdgoogkaaOdQ
namespace Go.Proofs.Ytgioeijdgoogkaa.Od
open Go.RowKit Go.Maps Go.Shelf
set_option linter.unusedSimpArgs false
theorem take_map {α : Type} {l : List It} (F : It → α) {k : Nat} {x : It} (h : l[k]? = some x) : (l.take (k + 1)).map F = (l.take k).map F ++ [F x] := by rw [List.take_add_one, h]; simp
theorem OwI.below2 {w wr w1 : World} {base : Nat} {v : Value} {xs : List Int} {o : Obj} (hB : Below w.heap.size w wr) (hw : w.heap.size ≤ base) (hb : base ≤ wr.heap.size) (h : OwI wr base v xs) (hg : (wr.alloc o).grownBy w1 v.ownBlock) : Below w.heap.size w w1 ∧ base ≤ w1.heap.size :=
  ⟨below_only (hB.alloc hB.size _) hg (by have := hB.size; simp; omega) (fun k hk => Nat.le_trans hw (World.ownsRow.lt h k hk).1), Nat.le_trans (by simp; omega) hg.size⟩
theorem owI_none {l : List It} {x : It} (h : nx l x.c = none) : owI l x = 0 := by
  unfold owI
  cases e : ow l x.c with
  | none => rfl
  | some d => have := (ow_in e).2; rw [h] at this; cases this
theorem owI_cut {l : List It} {x : It} (h : cutB l x.c = true) : owI l x = 0 := by unfold owI ow; rw [if_pos h]; rfl
theorem owI_own {l : List It} (hd : Dis l) {k : Nat} {x : It} (hx : l[k]? = some x) (h : cutB l x.c = false) {d : Int} (hn : nx l x.c = some d) : owI l x = x.o := by
  unfold owI ow
  rw [h, if_neg (by simp), hn]
  have := (nx_in hn).2.2.2
  rw [hd.it (List.mem_of_getElem? hx)] at this
  exact this
set_option maxHeartbeats 1000000 in
set_option maxRecDepth 100000 in
theorem rowners_c (v0 : Value) (l : List It) (w : World) (hR : RdT w v0 l) :
    Calls Try.prog 13 #[v0] w fun e w' => ∃ v zs, e = .returned v ∧ RdI w' v zs ∧ OwnR l zs ∧ Below w.heap.size w w' := by
  have HK := Lib.hid (rcheck_c v0 l w hR)
  have HNX := Lib.hid (fun i x (W : World) (h : Below w.heap.size w W) hd hn hx => rnext_c v0 l i x W hd (hR.below h) hn hx)
  have HCU := Lib.hid (fun i x (W : World) (h : Below w.heap.size w W) hd hn hx => rcut_c v0 l i x W hd (hR.below h) hn hx)
  have hR0 := hR
  obtain ⟨p, c, rfl, -⟩ := hR
  have HR := Lib.hid hR0
  obtain ⟨n, hln⟩ : ∃ n, n = l.length := ⟨_, rfl⟩
  rw [← hln] at HK HNX HCU HR ⊢
  have HN := Lib.hid hln
  clear hR0 hln
  go_enter Try.func13, Try.ntmps13
  go_wp2_with fail
  refine HK.out.mono ?_
  rintro e w1 ⟨z, rfl, hz, rfl⟩
  have HZ := Lib.hid hz
  clear hz HK
  by_cases hz0 : z = 0
  rotate_left
  · have e1 : (z == 0) = false := by simpa using hz0
    have HO : Hid (OwnR l []) := ⟨z, HZ.out, .inl ⟨hz0, rfl⟩⟩
    go_wp2_with fail
    go_ret
    exact ⟨_, _, rfl, RdI.nil _ _, HO.out, Below.refl _ _⟩
  · have HG := Lib.hid (HZ.out.good hz0)
    have HO : Hid (OwnR l (l.map (owI l))) := ⟨z, HZ.out, .inr ⟨hz0, rfl⟩⟩
    subst hz0
    have HN128 := Lib.hid (show n ≤ 128 by have := HN.out; have := HG.out.1; omega)
    obtain ⟨wo, hwo⟩ : ∃ wo, wo = w1 := ⟨_, rfl⟩
    subst hwo
    go_wp2_with fail
    go_loopw [3, 4] (fun v z wr => ∃ k : Nat, k ≤ n ∧ z = .int .i64 k ∧ Below wo.heap.size wo wr ∧ OwI wr wo.heap.size v ((l.take k).map (owI l))) (fun _ z _ => n - (intOf z).toNat)
    case atStart => exact ⟨0, Nat.zero_le _, rfl, Below.refl _ _, OwI.nil _ _⟩
    case round =>
      obtain ⟨k, hk, rfl, hB, hW⟩ := hrel
      have HB := Lib.hid hB
      have HW := Lib.hid hW
      have HKL := Lib.hid (show ((l.take k).map (owI l)).length = k by rw [List.length_map, List.length_take, ← HN.out]; omega)
      have hn3 : n ≤ 128 := HN128.out
      by_cases hlt : k < n
      · obtain ⟨x, hx⟩ : ∃ x, l[k]? = some x := ⟨_, List.getElem?_eq_getElem (by rw [← HN.out]; exact hlt)⟩
        obtain ⟨b, o, rfl, hRB⟩ := HR.out.open hx
        have hi0 : (0 : Int) ≤ (k : Int) := by omega
        have hi1 : (k : Int) < (n : Int) := by omega
        have HX := Lib.hid hx
        have HRB := Lib.hid hRB
        have HC1 := Lib.hid (HNX.out k x wr hB HG.out.2.1 hn3 hx)
        have HC2 := Lib.hid (fun W (h : Below wo.heap.size wo W) => HCU.out k x W h HG.out.2.1 hn3 hx)
        have HTK := Lib.hid (take_map (owI l) hx)
        obtain ⟨i0, hi0', hz0, hz1, hz2⟩ := int_info
        clear hx hRB hB hW
        cases hnx : nx l x.c with
        | none =>
          rw [hnx] at HC1
          have HC1 : Hid (Calls Try.prog 25 #[.slice (some ⟨b, o, none⟩) n c, .int .i64 k] wr fun e w' => e = .returned (.int .i64 (-1)) ∧ w' = wr) := HC1
          rw [owI_none hnx] at HTK
          clear hnx
          go_wp2_with fail
          refine HC1.out.mono ?_
          rintro e w2 ⟨rfl, rfl⟩
          have HWW := Lib.hid HW.out
          go_wp2_with (at_builtin; go_loud (refine wpList_append_own_at _ rfl (.tmp 23) (.tmp 24) 27 rfl wo.heap.size 3 i0 (.int .i64 0) 1 8 Try.underlying27 hi0' hz0 hz1 hz2 rfl (by decide) _ _ _ rfl (World.ownsRow.alloc HWW.out _) ⟨_, 0, none⟩ 1 1 [.int .i64 0] rfl rfl (cell_list_at _ _ [.int .i64 0] _ rfl) (one_int 0) (by unfold maxLen; have := HKL.out; omega) (by have := HKL.out; omega) (by have := HB.out.size; simp; omega) ?_; intro v3 w3 ho3 hg3 _ _; have HP := Lib.hid (OwI.put ho3); have HQ := Lib.hid (OwI.below2 HB.out (Nat.le_refl _) HB.out.size HWW.out hg3).1; clear ho3 hg3))
          go_roundw
          case rel => exact ⟨k + 1, by omega, by go_num, HQ.out, by rw [HTK.out]; exact HP.out⟩
          case measure => simp [intOf]; omega
        | some d =>
          obtain ⟨j, y, hj, hyc, e1, hjn, -⟩ := cl_at HG.out.2.1 (nx_cl _ _ hnx)
          rw [hnx, e1] at HC1
          have r1 : ¬ ((j : Int) < 0) := by omega
          cases hcu : cutB l x.c with
          | true =>
            rw [owI_cut hcu] at HTK
            rw [hcu] at HC2
            clear hnx hcu hj hyc e1 hjn
            go_wp2_with fail
            refine HC1.out.mono ?_
            rintro e w2 ⟨rfl, rfl⟩
            have HC2 := Lib.hid (HC2.out w2 HB.out)
            go_wp2_with fail
            refine HC2.out.mono ?_
            rintro e w3 ⟨rfl, hb⟩
            have HWW := Lib.hid (HW.out.next hb)
            have HBB := Lib.hid (HB.out.trans (hb.mono HB.out.size))
            clear hb
            go_wp2_with (at_builtin; go_loud (refine wpList_append_own_at _ rfl (.tmp 23) (.tmp 24) 27 rfl wo.heap.size 3 i0 (.int .i64 0) 1 8 Try.underlying27 hi0' hz0 hz1 hz2 rfl (by decide) _ _ _ rfl (World.ownsRow.alloc HWW.out _) ⟨_, 0, none⟩ 1 1 [.int .i64 0] rfl rfl (cell_list_at _ _ [.int .i64 0] _ rfl) (one_int 0) (by unfold maxLen; have := HKL.out; omega) (by have := HKL.out; omega) (by have := HBB.out.size; simp; omega) ?_; intro v3 w4 ho3 hg3 _ _; have HP := Lib.hid (OwI.put ho3); have HQ := Lib.hid (OwI.below2 HBB.out (Nat.le_refl _) HBB.out.size HWW.out hg3).1; clear ho3 hg3))
            go_roundw
            case rel => exact ⟨k + 1, by omega, by go_num, HQ.out, by rw [HTK.out]; exact HP.out⟩
            case measure => simp [intOf]; omega
          | false =>
            rw [owI_own HG.out.2.1 HX.out hcu hnx] at HTK
            rw [hcu] at HC2
            clear hnx hcu hj hyc e1 hjn
            go_wp2_with fail
            refine HC1.out.mono ?_
            rintro e w2 ⟨rfl, rfl⟩
            have HC2 := Lib.hid (HC2.out w2 HB.out)
            go_wp2_with fail
            refine HC2.out.mono ?_
            rintro e w3 ⟨rfl, hb⟩
            have HWW := Lib.hid (HW.out.next hb)
            have HBB := Lib.hid (HB.out.trans (hb.mono HB.out.size))
            obtain ⟨y0, y1, y2, y3, y4, y5⟩ := (HRB.out.below HBB.out).get HX.out
            clear hb
            go_wp2_with (at_builtin; go_loud (refine wpList_append_own_at _ rfl (.tmp 26) (.tmp 32) 27 rfl wo.heap.size 3 i0 (.int .i64 0) 1 8 Try.underlying27 hi0' hz0 hz1 hz2 rfl (by decide) _ _ _ rfl (World.ownsRow.alloc HWW.out _) ⟨_, 0, none⟩ 1 1 [.int .i64 x.o] rfl rfl (cell_list_at _ _ [.int .i64 x.o] _ rfl) (one_int x.o) (by unfold maxLen; have := HKL.out; omega) (by have := HKL.out; omega) (by have := HBB.out.size; simp; omega) ?_; intro v3 w4 ho3 hg3 _ _; have HP := Lib.hid (OwI.put ho3); have HQ := Lib.hid (OwI.below2 HBB.out (Nat.le_refl _) HBB.out.size HWW.out hg3).1; clear ho3 hg3))
            go_roundw
            case rel => exact ⟨k + 1, by omega, by go_num, HQ.out, by rw [HTK.out]; exact HP.out⟩
            case measure => simp [intOf]; omega
      · obtain rfl : k = n := by omega
        have e : l.take k = l := List.take_of_length_le (by have := HN.out; omega)
        rw [e] at hW
        have HRD := Lib.hid hW.rd
        clear e hW
        go_wp2_with fail
        go_ret
        exact ⟨_, _, rfl, HRD.out, HO.out, HB.out⟩
theorem ownr_cases {l : List It} {zs : List Int} (h : OwnR l zs) : (zs = [] ∧ BdsR l []) ∨ (l.length ≤ 128 ∧ Dis l ∧ (∀ t ∈ l, okT t = true) ∧ zs = l.map (owI l) ∧ BdsR l (l.map fun x => bd l x.c)) := by
  obtain ⟨z, h1, ⟨h2, h3⟩ | ⟨h2, h3⟩⟩ := h
  · exact .inl ⟨h3, z, h1, .inl ⟨h2, rfl⟩⟩
  · obtain ⟨a, b, c⟩ := h1.good h2
    exact .inr ⟨a, b, c, h3, z, h1, .inr ⟨h2, rfl⟩⟩
set_option maxHeartbeats 1000000 in
set_option maxRecDepth 100000 in
theorem rbands_c (v0 : Value) (l : List It) (w : World) (hR : RdT w v0 l) :
    Calls Try.prog 15 #[v0] w fun e w' => ∃ v zs, e = .returned v ∧ RdI w' v zs ∧ BdsR l zs ∧ Below w.heap.size w w' := by
  have HK := Lib.hid (rowners_c v0 l w hR)
  have HPL := Lib.hid (fun c (W : World) (h : Below w.heap.size w W) hn => place_c v0 l c W (hR.below h) hn)
  have hR0 := hR
  obtain ⟨p, c, rfl, -⟩ := hR
  have HR := Lib.hid hR0
  obtain ⟨n, hln⟩ : ∃ n, n = l.length := ⟨_, rfl⟩
  rw [← hln] at HK HPL HR ⊢
  have HN := Lib.hid hln
  clear hR0 hln
  go_enter Try.func15, Try.ntmps15
  go_wp2_with fail
  refine HK.out.mono ?_
  rintro e w1 ⟨vo, zs, rfl, hz, ho, hb⟩
  have HZ := Lib.hid hz
  have HB1 := Lib.hid hb
  obtain ⟨q, cq, rfl, -⟩ := hz
  rcases ownr_cases ho with ⟨rfl, hbd⟩ | ⟨h128, hd, hok, rfl, hbd⟩
  · have HO := Lib.hid hbd
    clear hb HK ho hbd HZ
    go_wp2_with fail
    go_loopw [3, 5] (fun v z wr => v = .slice none 0 0 ∧ z = .int .i64 0 ∧ wr = w1) (fun _ _ _ => 0)
    case atStart => exact ⟨rfl, rfl, rfl⟩
    case round =>
      obtain ⟨rfl, rfl, rfl⟩ := hrel
      go_wp2_with fail
      go_ret
      exact ⟨_, _, rfl, RdI.nil _ _, HO.out, HB1.out⟩
  · have HO := Lib.hid hbd
    have HD := Lib.hid hd
    have HOK := Lib.hid hok
    rw [List.length_map, ← HN.out] at HZ ⊢
    have HN128 := Lib.hid (show n ≤ 128 by have := HN.out; omega)
    clear hb HK ho hbd hd hok h128
    obtain ⟨wo, hwo⟩ : ∃ wo, wo = w1 := ⟨_, rfl⟩
    subst hwo
    have HSZ : Hid (w.heap.size ≤ wo.heap.size) := HB1.out.size
    go_wp2_with fail
    go_loopw [3, 5] (fun v z wr => ∃ k : Nat, k ≤ n ∧ z = .int .i64 k ∧ Below wo.heap.size wo wr ∧ OwI wr wo.heap.size v ((l.take k).map fun x => bd l x.c)) (fun _ z _ => n - (intOf z).toNat)
    case atStart => exact ⟨0, Nat.zero_le _, rfl, Below.refl _ _, OwI.nil _ _⟩
    case round =>
      obtain ⟨k, hk, rfl, hB, hW⟩ := hrel
      have HB := Lib.hid hB
      have HW := Lib.hid hW
      have HKL := Lib.hid (show ((l.take k).map fun x => bd l x.c).length = k by rw [List.length_map, List.length_take, ← HN.out]; omega)
      have hn3 : n ≤ 128 := HN128.out
      by_cases hlt : k < n
      · obtain ⟨x, hx⟩ : ∃ x, l[k]? = some x := ⟨_, List.getElem?_eq_getElem (by rw [← HN.out]; exact hlt)⟩
        obtain ⟨b, o, rfl, hRB⟩ := HR.out.open hx
        obtain ⟨qb, qo, rfl, hq1, hq2⟩ := HZ.out.open (show (l.map (owI l))[k]? = some (owI l x) by rw [List.getElem?_map, hx]; rfl)
        have hi0 : (0 : Int) ≤ (k : Int) := by omega
        have hi1 : (k : Int) < (n : Int) := by omega
        have HX := Lib.hid hx
        have HTK := Lib.hid (take_map (fun x => bd l x.c) hx)
        have HRW := Lib.hid (fun (W : World) (h : Below wo.heap.size wo W) => hRB.below (HB1.out.trans (h.mono HSZ.out)))
        have HQW : Hid (∀ (W : World), Below wo.heap.size wo W → ∀ (j : Nat) (y : It), l[j]? = some y → W.cell? ⟨qb, qo + j, none⟩ = some (.int .i64 (owI l y))) := fun W h j y hy =>
          (h.cell (p := ⟨qb, qo + j, none⟩) hq1).trans (hq2 j _ (by rw [List.getElem?_map, hy]; rfl))
        obtain ⟨i0, hi0', hz0, hz1, hz2⟩ := int_info
        obtain ⟨y0, y1, y2, y3, y4, y5⟩ := (HRW.out wr hB).get hx
        have hxc : x.c ∈ cl l := List.mem_map.2 ⟨x, List.mem_of_getElem? hx, rfl⟩
        obtain ⟨s1, s2⟩ := bd_step hxc
        have HS1 : Hid (max x.b (bdo l (l.length - 1) (ow l x.c)) = bd l x.c) := by
          have e := HD.out.it (List.mem_of_getElem? hx)
          rw [s1, e]
          exact rfl
        have HS2 := Lib.hid s2
        clear hx hRB hB hW hq1 hq2 hxc s1 s2
        obtain ⟨wp, hwp⟩ : ∃ wp, wp = wr := ⟨_, rfl⟩
        subst hwp
        go_upto_region 8 with fail
        clear y0 y1 y2 y3 y4 y5
        go_loopg [6, 7] (l.length - 1) (fun m u z wr => ∃ (acc : Int) (j : Nat) (y : It), wr = wp ∧ u = .int .i64 acc ∧ z = .int .i64 j ∧ Asd (l[j]? = some y) ∧ Asd ((ow l y.c).bind (itr (ow l) m) = none) ∧ Asd (max acc (bdo l m (ow l y.c)) = bd l x.c) ∧ 0 ≤ acc)
        case atStart => exact ⟨x.b, k, x, rfl, rfl, rfl, HX.out, HS2.out, HS1.out, (okT_parts (HOK.out x (List.mem_of_getElem? HX.out))).2.1⟩
        case round =>
          clear HS1 HS2
          obtain ⟨acc, j, y, rfl, rfl, rfl, hA1, hA2, hA3, hacc⟩ := hrel
          have HY := Lib.hid (show l[j]? = some y from hA1)
          have HA2 := Lib.hid (show (ow l y.c).bind (itr (ow l) gk) = none from hA2)
          have HA3 := Lib.hid (show max acc (bdo l gk (ow l y.c)) = bd l x.c from hA3)
          clear hA1 hA2 hA3
          have hj0 : (0 : Int) ≤ (j : Int) := by omega
          have hj1 : (j : Int) < (n : Int) := by have := (List.getElem?_eq_some_iff.1 HY.out).1; have := HN.out; omega
          have c0 := HQW.out wr HB.out j y HY.out
          cases hoy : ow l y.c with
          | none =>
            have e0 : owI l y = 0 := by unfold owI; rw [hoy]; rfl
            rw [e0] at c0
            have HAC : Hid (bd l x.c = acc) := by have h := HA3.out; rw [hoy, bdo_none, Int.max_eq_left hacc] at h; exact h.symm
            clear hoy e0
            go_wp2_with (at_builtin; go_loud (refine wpList_append_own_at _ rfl (.tmp 45) (.tmp 47) 27 rfl wo.heap.size 3 i0 (.int .i64 0) 1 8 Try.underlying27 hi0' hz0 hz1 hz2 rfl (by decide) _ _ _ rfl (World.ownsRow.alloc HW.out _) ⟨_, 0, none⟩ 1 1 [.int .i64 acc] rfl rfl (cell_list_at _ _ [.int .i64 acc] _ rfl) (one_int acc) (by unfold maxLen; have := HKL.out; omega) (by have := HKL.out; omega) (by have := HB.out.size; simp; omega) ?_; intro v3 w4 ho3 hg3 _ _; have HP := Lib.hid (OwI.put ho3); have HQ := Lib.hid (OwI.below2 HB.out (Nat.le_refl _) HB.out.size HW.out hg3).1; clear ho3 hg3))
            go_roundw
            case rel => exact ⟨k + 1, by omega, by go_num, HQ.out, by rw [HTK.out, HAC.out]; exact HP.out⟩
            case measure => simp [intOf]; omega
          | some d =>
            obtain ⟨j2, y2, hj2, rfl, -, hjl2, -⟩ := cl_at HD.out (ow_cl _ _ hoy)
            have e0 : owI l y = y2.c := by unfold owI; rw [hoy]; rfl
            rw [e0] at c0
            obtain ⟨m, hm⟩ : ∃ m, gk = m + 1 := by
              cases gk with
              | zero => have := HA2.out; rw [hoy] at this; simp [itr] at this
              | succ m => exact ⟨m, rfl⟩
            subst hm
            have hcp := (okT_parts (HOK.out y2 (List.mem_of_getElem? hj2)))
            have hd0 : ¬ (y2.c = 0) := by omega
            have e1 : (y2.c == 0) = false := by simpa using hd0
            have HP2 := Lib.hid (HPL.out y2.c wr (HB1.out.trans (HB.out.mono HSZ.out)) (by have := HN.out; omega))
            rw [plc_at (show (cl l)[j2]? = some y2.c by unfold cl; rw [List.getElem?_map, hj2]; rfl) HD.out] at HP2
            obtain ⟨t0, t1, t2, t3, t4, t5⟩ := (HRW.out wr HB.out).get hj2
            have hk0 : (0 : Int) ≤ (j2 : Int) := by omega
            have hk1 : (j2 : Int) < (n : Int) := by have := HN.out; omega
            have HJ2 := Lib.hid hj2
            have HN2 : Hid ((ow l y2.c).bind (itr (ow l) m) = none) := by have h := HA2.out; rw [hoy] at h; exact h
            have HN3 : Hid (max (max acc y2.b) (bdo l m (ow l y2.c)) = bd l x.c) := by
              have h := HA3.out
              rw [hoy] at h
              simp only [bdo] at h
              rw [HD.out.it (List.mem_of_getElem? hj2)] at h
              rw [← h]
              show max (max acc y2.b) _ = max acc (max y2.b _)
              omega
            clear hoy hj2 hjl2 e0 hcp
            by_cases hgt : acc < y2.b
            · rw [Int.max_eq_right (show acc ≤ y2.b by omega)] at HN3
              go_wp2_with fail
              refine HP2.out.mono ?_
              rintro e w2 ⟨rfl, rfl⟩
              go_wp2_with fail
              go_roundg m
              case rel => exact ⟨y2.b, j2, y2, by simp, by simp, by simp, HJ2.out, HN2.out, HN3.out, by omega⟩
              case measure => omega
            · rw [Int.max_eq_left (show y2.b ≤ acc by omega)] at HN3
              go_wp2_with fail
              refine HP2.out.mono ?_
              rintro e w2 ⟨rfl, rfl⟩
              go_wp2_with fail
              go_roundg m
              case rel => exact ⟨acc, j2, y2, by simp, by simp, by simp, HJ2.out, HN2.out, HN3.out, hacc⟩
              case measure => omega
      · obtain rfl : k = n := by omega
        have e : l.take k = l := List.take_of_length_le (by have := HN.out; omega)
        rw [e] at hW
        have HRD := Lib.hid hW.rd
        have HBB := Lib.hid (HB1.out.trans (hB.mono HSZ.out))
        clear e hW
        go_wp2_with fail
        go_ret
        exact ⟨_, _, rfl, HRD.out, HO.out, HBB.out⟩
end Go.Proofs.Ytgioeijdgoogkaa.Od
