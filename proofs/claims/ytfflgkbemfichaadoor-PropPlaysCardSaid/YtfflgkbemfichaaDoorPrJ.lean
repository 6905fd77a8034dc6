/- PropApart, walked. -/
import Derived.Test.YtfflgkbemfichaaDoorPrI
import Derived.Test.YtfflgkbemfichaaDoorPrF
import Derived.Deep.RegionHeld3
namespace Go.Proofs.YtfflgkbemfichaaDoor
open Go.RowKit Go.Maps
theorem tl_inj (a b : ByteArray) : a.toList = b.toList ↔ a = b := by
  rw [ByteArray.toList_eq, ByteArray.toList_eq]
  exact ⟨fun h => bytes_eq h, fun h => by rw [h]⟩
theorem eql_prop (a b c a' b' c' : ByteArray) (w : World) : (binOp .eql 27 (.agg #[.string a, .string b, .string c]) (.agg #[.string a', .string b', .string c'])).run Tryd.prog w = .ok (.bool (decide (a = a' ∧ b = b' ∧ c = c'))) w := by
  by_cases h1 : a = a' <;> by_cases h2 : b = b' <;> by_cases h3 : c = c' <;> simp [go_sem, tl_inj, h1, h2, h3]
theorem Blk.at5 {w : World} {g : Nat} {t : TypeId} {v0 v1 v2 v3 v4 : Value} (h : Blk w g t #[v0, v1, v2, v3, v4]) : w.cell? ⟨g, 0, none⟩ = some v0 ∧ w.cell? ⟨g, 1, none⟩ = some v1 ∧ w.cell? ⟨g, 2, none⟩ = some v2 ∧ w.cell? ⟨g, 3, none⟩ = some v3 ∧ w.cell? ⟨g, 4, none⟩ = some v4 :=
  ⟨h.at_ rfl, h.at_ rfl, h.at_ rfl, h.at_ rfl, h.at_ rfl⟩
attribute [local go_sem ↓] eql_prop
set_option maxRecDepth 100000 in
set_option maxHeartbeats 16000000 in
theorem apart_w (va : Value) (As : List Ac) (A : Ac) (i : Int) (s : ByteArray) (w : World) (hm : MaxL w) (hI : IsActs w.heap.size w va As) (hok : A.ok) (hi : I64 i) (hs : s.size ≤ maxLen) :
    Calls Tryd.prog 7 #[va, .agg ⟨A.cells⟩, .int .i64 i, .string s] w fun e w' => e = .returned (.bool true) ∧ Below w.heap.size w w' := by
  obtain ⟨kk, win, p⟩ := A
  show Calls Tryd.prog 7 #[va, .agg #[.int .i64 kk, .int .i64 win, .string p.name, .string p.typ, .string p.data], .int .i64 i, .string s] w fun e w' => e = .returned (.bool true) ∧ Below w.heap.size w w'
  obtain ⟨wb, hwb⟩ : ∃ wb, wb = w.alloc (.cells #[.int .i64 kk, .int .i64 win, .string p.name, .string p.typ, .string p.data] 29) := ⟨_, rfl⟩
  have hbel : Below w.heap.size w wb := by rw [hwb]; exact (Below.refl _ _).alloc (Nat.le_refl _) _
  have hbx : Blk wb w.heap.size 29 #[.int .i64 kk, .int .i64 win, .string p.name, .string p.typ, .string p.data] := by rw [hwb]; exact Blk.new w _ _
  have HX := Lib.hid (fun W (hW : Below wb.heap.size wb W) => (hbx.next hW).at5)
  have HA := Lib.hid (fun W (hW : Below wb.heap.size wb W) => awake_c W (hm.next (hW.on hbel hbel.size)))
  have HNEW := Lib.hid (tb_new wb)
  have hI' := hI.grow hbel
  obtain ⟨pp, c, rfl, -, hact⟩ := hI'
  have HACT := Lib.hid hact
  obtain ⟨n, hn⟩ : ∃ n, n = As.length := ⟨_, rfl⟩
  rw [← hn]
  have HNN := Lib.hid hn
  have HB := Lib.hid hbel
  have HW := Lib.hid hwb
  have HI := Lib.hid (And.intro hi (And.intro hs hok))
  clear hbel hbx hI hact hn hm hi hs hok
  go_enter Tryd.func7, Tryd.ntmps7
  go_upto_region 1 with fail
  rw [← HW.out]
  clear hwb
  go_upto_region 2 with (go_at_call 9; ((with_reducible refine (HNEW.out).mono ?_); rintro ex w1 ⟨t, rfl, hT1⟩); have HT1 := Lib.hid hT1; clear hT1)
  go_wp2_with fail
  go_loopw [10] (fun z wr => ∃ k : Nat, k ≤ n ∧ k ≤ 60 ∧ z = .int .i64 k ∧ ∃ ms ns, Tb wb.heap.size wb wr t ms ns k) (fun z _ => 60 - (intOf z).toNat)
  case atStart => exact ⟨0, Nat.zero_le _, by omega, rfl, _, _, HT1.out⟩
  case round =>
    obtain ⟨k, hk, hk6, rfl, ms, ns, hT⟩ := hrel
    have HT := Lib.hid hT
    have hk0 : (0 : Int) ≤ (k : Int) := by omega
    clear hT
    by_cases hb : k < n ∧ k < 60
    · have hk1 : (k : Int) < (n : Int) := by omega
      have hk2 : (k : Int) < 60 := by omega
      obtain ⟨Aj, hA⟩ : ∃ Aj, As[k]? = some Aj := ⟨_, List.getElem?_eq_getElem (by rw [← HNN.out]; exact hb.1)⟩
      obtain ⟨b, o, rfl, hbl, hc, hok⟩ := HACT.out k Aj hA
      obtain ⟨kj, wj, pj⟩ := Aj
      have HD := Lib.hid (tb_set (HT.out.next (Below.refl _ wr).drew) (by omega) hok.1 pj hok.2.1 hok.2.2.1)
      have HAC := Lib.hid (fun W (hW : Below wb.heap.size wb W) => (show W.cell? ⟨b, o + k * 5, none⟩ = some (.int .i64 kj) ∧ W.cell? ⟨b, o + k * 5 + 1, none⟩ = some (.int .i64 wj) ∧ W.cell? ⟨b, o + k * 5 + 2, none⟩ = some (.string pj.name) ∧ W.cell? ⟨b, o + k * 5 + 3, none⟩ = some (.string pj.typ) ∧ W.cell? ⟨b, o + k * 5 + 4, none⟩ = some (.string pj.data) from
        ⟨(hW.cell (p := ⟨b, o + k * 5, none⟩) hbl).trans (hc 0 _ rfl), (hW.cell (p := ⟨b, o + k * 5 + 1, none⟩) hbl).trans (hc 1 _ rfl), (hW.cell (p := ⟨b, o + k * 5 + 2, none⟩) hbl).trans (hc 2 _ rfl), (hW.cell (p := ⟨b, o + k * 5 + 3, none⟩) hbl).trans (hc 3 _ rfl), (hW.cell (p := ⟨b, o + k * 5 + 4, none⟩) hbl).trans (hc 4 _ rfl)⟩))
      have HA0 := Lib.hid (fun W (hW : Below wr.heap.size wr W) => HAC.out W (hW.on HT.out.below HT.out.size))
      have HKN := Lib.hid hb
      clear hc hok hA hbl hb
      go_wp2_with fail
      refine wp_region_noPanic ?_
      refine wp_region_held_drew (S := fun wx => wx.cell? ⟨b, o + k * 5, none⟩ = some (.int .i64 kj) ∧ wx.cell? ⟨b, o + k * 5 + 1, none⟩ = some (.int .i64 wj) ∧ wx.cell? ⟨b, o + k * 5 + 2, none⟩ = some (.string pj.name) ∧ wx.cell? ⟨b, o + k * 5 + 3, none⟩ = some (.string pj.typ) ∧ wx.cell? ⟨b, o + k * 5 + 4, none⟩ = some (.string pj.data)) (by kernel_rfl) (by exact HA0.out _ (Below.refl wr.heap.size wr).drew) (fun hHeld => ?_)
      refine wpAnyH_take (i := 0) (v := ?va0) rfl (by kernel_rfl) (by kernel_rfl) (by kernel_rfl) (fun _ _ _ h => h) (Or.inl ⟨by kernel_rfl, ?ya0⟩) (by assumption) ?ra0
      case ya0 => (intro wq hSw; (try dsimp only at hSw); go_simp; (try with_reducible rfl))
      (try simp only [Act.put, List.getElem_toArray, List.getElem_cons_zero, List.setIfInBounds_toArray, List.set_cons_zero, List.set_cons_succ])
      refine wpAnyH_take (i := 1) (v := ?va1) rfl (by kernel_rfl) (by kernel_rfl) (by kernel_rfl) (fun _ _ _ h => h) (Or.inl ⟨by kernel_rfl, ?ya1⟩) (by assumption) ?ra1
      case ya1 => (intro wq hSw; (try dsimp only at hSw); go_simp; (try with_reducible rfl))
      (try simp only [Act.put, List.getElem_toArray, List.getElem_cons_succ, List.getElem_cons_zero, List.setIfInBounds_toArray, List.set_cons_zero, List.set_cons_succ])
      refine wpAnyH_take (i := 2) (v := ?va2) rfl (by kernel_rfl) (by kernel_rfl) (by kernel_rfl) (fun _ _ _ h => h) (Or.inl ⟨by kernel_rfl, ?ya2⟩) (by assumption) ?ra2
      case ya2 => (intro wq hSw; (try dsimp only at hSw); go_simp; (try with_reducible rfl))
      (try simp only [Act.put, List.getElem_toArray, List.getElem_cons_succ, List.getElem_cons_zero, List.setIfInBounds_toArray, List.set_cons_zero, List.set_cons_succ])
      refine wpAnyH_take (i := 3) (v := ?va3) rfl (by kernel_rfl) (by kernel_rfl) (by kernel_rfl) (fun _ _ _ h => h) (Or.inl ⟨by kernel_rfl, ?ya3⟩) (by assumption) ?ra3
      case ya3 => (intro wq hSw; (try dsimp only at hSw); go_simp; (try with_reducible rfl))
      (try simp only [Act.put, List.getElem_toArray, List.getElem_cons_succ, List.getElem_cons_zero, List.setIfInBounds_toArray, List.set_cons_zero, List.set_cons_succ])
      refine wpAnyH_take (i := 4) (v := ?va4) rfl (by kernel_rfl) (by kernel_rfl) (by kernel_rfl) (fun _ _ _ h => h) (Or.inl ⟨by kernel_rfl, ?ya4⟩) (by assumption) ?ra4
      case ya4 => (intro wq hSw; (try dsimp only at hSw); go_simp; (try with_reducible rfl))
      (try simp only [Act.put, List.getElem_toArray, List.getElem_cons_succ, List.getElem_cons_zero, List.setIfInBounds_toArray, List.set_cons_zero, List.set_cons_succ])
      refine wpAnyH_take (i := 5) (v := ?va5) rfl (by kernel_rfl) (by kernel_rfl) (by kernel_rfl) (fun _ _ _ h => h) (Or.inl ⟨by kernel_rfl, ?ya5⟩) (by assumption) ?ra5
      case ya5 => (intro wq hSw; (try dsimp only at hSw); go_simp; (try with_reducible rfl))
      (try simp only [Act.put, List.getElem_toArray, List.getElem_cons_succ, List.getElem_cons_zero, List.setIfInBounds_toArray, List.set_cons_zero, List.set_cons_succ])
      refine wpAnyH_take (i := 6) (v := ?va6) rfl (by kernel_rfl) (by kernel_rfl) (by kernel_rfl) (fun _ _ _ h => h) (Or.inl ⟨by kernel_rfl, ?ya6⟩) (by assumption) ?ra6
      case ya6 => (intro wq hSw; (try dsimp only at hSw); go_simp; (try with_reducible rfl))
      (try simp only [Act.put, List.getElem_toArray, List.getElem_cons_succ, List.getElem_cons_zero, List.setIfInBounds_toArray, List.set_cons_zero, List.set_cons_succ])
      refine wpAnyH_take (i := 7) (v := ?va7) rfl (by kernel_rfl) (by kernel_rfl) (by kernel_rfl) (fun _ _ _ h => h) (Or.inl ⟨by kernel_rfl, ?ya7⟩) (by assumption) ?ra7
      case ya7 => (intro wq hSw; (try dsimp only at hSw); go_simp; (try with_reducible rfl))
      (try simp only [Act.put, List.getElem_toArray, List.getElem_cons_succ, List.getElem_cons_zero, List.setIfInBounds_toArray, List.set_cons_zero, List.set_cons_succ])
      refine wpAnyH_take (i := 8) (v := ?va8) rfl (by kernel_rfl) (by kernel_rfl) (by kernel_rfl) (fun _ _ _ h => h) (Or.inl ⟨by kernel_rfl, ?ya8⟩) (by assumption) ?ra8
      case ya8 => (intro wq hSw; (try dsimp only at hSw); go_simp; (try with_reducible rfl))
      (try simp only [Act.put, List.getElem_toArray, List.getElem_cons_succ, List.getElem_cons_zero, List.setIfInBounds_toArray, List.set_cons_zero, List.set_cons_succ])
      refine wpAnyH_take (i := 9) (v := ?va9) rfl (by kernel_rfl) (by kernel_rfl) (by kernel_rfl) (fun _ _ _ h => h) (Or.inl ⟨by kernel_rfl, ?ya9⟩) (by assumption) ?ra9
      case ya9 => (intro wq hSw; (try dsimp only at hSw); go_simp; (try with_reducible rfl))
      (try simp only [Act.put, List.getElem_toArray, List.getElem_cons_succ, List.getElem_cons_zero, List.setIfInBounds_toArray, List.set_cons_zero, List.set_cons_succ])
      refine wpAnyH_take (i := 10) (v := ?va10) rfl (by kernel_rfl) (by kernel_rfl) (by kernel_rfl) (fun _ _ _ h => h) (Or.inl ⟨by kernel_rfl, ?ya10⟩) (by assumption) ?ra10
      case ya10 => (intro wq hSw; (try dsimp only at hSw); go_simp; (try with_reducible rfl))
      (try simp only [Act.put, List.getElem_toArray, List.getElem_cons_succ, List.getElem_cons_zero, List.setIfInBounds_toArray, List.set_cons_zero, List.set_cons_succ])
      refine wpAnyH_ready (rs := [11]) (by kernel_rfl) (by simp) ?_
      refine AllReadyH.cons rfl (fun K hK => ?_) AllReadyH.nil
      go_simp
      refine (HD.out).mono ?_
      rintro ex w5 ⟨rfl, hT5, -⟩; have HT5 := Lib.hid hT5; clear hT5
      (try dsimp only)
      refine hK.out _ _ (by exact HAC.out _ HT5.out.below) (fun hHeld => ?_)
      clear hK K
      (try simp only [Act.put, List.getElem_toArray, List.getElem_cons_succ, List.getElem_cons_zero, List.setIfInBounds_toArray, List.set_cons_zero, List.set_cons_succ])
      refine wpAnyH_done (by kernel_rfl) ?_ _
      refine NoPanic.normal ?_
      go_wp2_with fail
      go_roundw
      case rel => exact ⟨k + 1, by have := HKN.out; omega, by have := HKN.out; omega, by go_num, _, _, HT5.out⟩
      case measure => have := HKN.out; simp [intOf]; omega
    · have HE := Lib.hid hb
      have HKK := Lib.hid (And.intro hk hk6)
      clear hb hk hk6
      by_cases hkn : k < n
      · have hk1 : (k : Int) < (n : Int) := by omega
        have hk2 : ¬ (k : Int) < 60 := by have := HE.out; omega
        obtain ⟨q1, hq1⟩ : ∃ q, q = (ms i s).getD noP := ⟨_, rfl⟩
        obtain ⟨o1, ho1⟩ : ∃ o, o = (ms i s).isSome := ⟨_, rfl⟩
        have hg6 := tb_get HT.out HI.out.1 HI.out.2.1
        rw [← hq1, ← ho1] at hg6
        have HG6 := Lib.hid hg6
        have HQ1 := Lib.hid (And.intro hq1 ho1)
        clear hg6 hq1 ho1
        go_upto_region 6 with fail
        go_upto_region 7 with (go_at_call 16; ((with_reducible refine (HG6.out).mono ?_); rintro ex w6 ⟨rfl, hb6⟩); have HB6 := Lib.hid hb6; clear hb6)
        have hxw7 := Blk.new w6 27 #[.string q1.name, .string q1.typ, .string q1.data]
        have hbw7 := HB6.out.alloc HB6.out.size (.cells #[.string q1.name, .string q1.typ, .string q1.data] 27)
        obtain ⟨g1, hg1⟩ : ∃ g, g = w6.heap.size := ⟨_, rfl⟩
        rw [← hg1] at hxw7 ⊢
        clear hg1
        generalize w6.alloc (.cells #[.string q1.name, .string q1.typ, .string q1.data] 27) = w7 at hxw7 hbw7 ⊢
        have HT7 := Lib.hid (HT.out.next hbw7)
        have HQ7 := Lib.hid hxw7
        clear hbw7 hxw7
        obtain ⟨x0, x1, x2, x3, x4⟩ := HX.out w7 HT7.out.below
        by_cases h0 : kk = 0
        · subst h0
          have hop := tb_set HT7.out (by have := HKK.out; omega) HI.out.2.2.1 p HI.out.2.2.2.1 HI.out.2.2.2.2.1
          obtain ⟨rr, hrr⟩ : ∃ r, r = setE p (ms win) (ns win) := ⟨_, rfl⟩
          rw [← hrr] at hop
          clear hrr
          have HOP := Lib.hid hop
          clear hop
          go_upto_region 13 with (go_at_call 11; ((with_reducible refine (HOP.out).mono ?_); rintro ex w8 ⟨rfl, hT8, hk8⟩); have HT8 := Lib.hid hT8; have HK8 := Lib.hid (hk8 _ _ _ HQ7.out); clear hT8 hk8)
          obtain ⟨ms8, hms8⟩ : ∃ m, m = setM ms ns win p := ⟨_, rfl⟩
          have HEQ := Lib.hid (show (¬ win = i → ms8 i s = ms i s) ∧ (True → ¬ p.name = s → ms8 i s = ms i s) by
            rw [hms8]
            refine ⟨fun hw => ?_, fun _ hn => ?_⟩
            · unfold setM; split
              · rw [upI_other _ _ (fun e => hw e.symm)]
              · rfl
            · unfold setM; split
              · by_cases hw : i = win
                · rw [hw, upI_same, upS_other _ _ (fun e => hn e.symm)]
                · rw [upI_other _ _ hw]
              · rfl)
          rw [← hms8] at HT8
          clear hms8 x0 x1 x2 x3 x4
          obtain ⟨q2, hq2⟩ : ∃ q, q = (ms8 i s).getD noP := ⟨_, rfl⟩
          obtain ⟨o2, ho2⟩ : ∃ o, o = (ms8 i s).isSome := ⟨_, rfl⟩
          have hg8 := tb_get HT8.out HI.out.1 HI.out.2.1
          rw [← hq2, ← ho2] at hg8
          have HG8 := Lib.hid hg8
          have HQ2 := Lib.hid (And.intro hq2 ho2)
          clear hg8 hq2 ho2
          go_upto_region 14 with (go_at_call 16; ((with_reducible refine (HG8.out).mono ?_); rintro ex w9 ⟨rfl, hb9⟩); have HB9 := Lib.hid hb9; clear hb9)
          have hxw10 := Blk.new w9 27 #[.string q2.name, .string q2.typ, .string q2.data]
          have hbw10 := HB9.out.alloc HB9.out.size (.cells #[.string q2.name, .string q2.typ, .string q2.data] 27)
          obtain ⟨g2, hg2⟩ : ∃ g, g = w9.heap.size := ⟨_, rfl⟩
          rw [← hg2] at hxw10 ⊢
          clear hg2
          generalize w9.alloc (.cells #[.string q2.name, .string q2.typ, .string q2.data] 27) = w10 at hxw10 hbw10 ⊢
          have HB10 := Lib.hid hbw10
          have HBX := Lib.hid (hbw10.on HT8.out.below HT8.out.size)
          obtain ⟨x0, x1, x2, x3, x4⟩ := HX.out w10 HBX.out
          obtain ⟨⟨y0, y1, y2⟩, -⟩ := (HK8.out.next HB10.out).c3
          obtain ⟨⟨z0, z1, z2⟩, -⟩ := hxw10.c3
          clear hbw10 hxw10
          have hfin := HA.out w10 HBX.out
          have HFIN := Lib.hid hfin
          clear hfin
          have HEQ2 := Lib.hid (show ∀ h : ms8 i s = ms i s, q1.name = q2.name ∧ q1.typ = q2.typ ∧ q1.data = q2.data ∧ o1 = o2 from fun h => by rw [HQ1.out.1, HQ1.out.2, HQ2.out.1, HQ2.out.2, h]; exact ⟨rfl, rfl, rfl, rfl⟩)
          have AW := Lib.hid True.intro
          by_cases hw : win = i
          · have hwi : (win == i) = true := by rw [hw]; simp
            by_cases hn : p.name = s
            · have hni : p.name.toList = s.toList := by rw [hn]
              go_wp2_with (go_at_call 23; ((with_reducible refine (HFIN.out).mono ?_); rintro ex w11 ⟨rfl, hb⟩); have HB11 := Lib.hid hb; clear hb)
              go_ret
              exact ⟨rfl, HB11.out.on (HBX.out.on HB.out HB.out.size) (Nat.le_trans HB.out.size HBX.out.size)⟩
            · have hni : ¬ p.name.toList = s.toList := fun e => hn ((tl_inj _ _).1 e)
              obtain ⟨j0, j1, j2, j3⟩ := HEQ2.out (HEQ.out.2 trivial hn)
              go_wp2_with (go_at_call 23; ((with_reducible refine (HFIN.out).mono ?_); rintro ex w11 ⟨rfl, hb⟩); have HB11 := Lib.hid hb; clear hb)
              go_ret
              exact ⟨rfl, HB11.out.on (HBX.out.on HB.out HB.out.size) (Nat.le_trans HB.out.size HBX.out.size)⟩
          · have hwi : (win == i) = false := by simpa using hw
            obtain ⟨j0, j1, j2, j3⟩ := HEQ2.out (HEQ.out.1 hw)
            go_wp2_with (go_at_call 23; ((with_reducible refine (HFIN.out).mono ?_); rintro ex w11 ⟨rfl, hb⟩); have HB11 := Lib.hid hb; clear hb)
            go_ret
            exact ⟨rfl, HB11.out.on (HBX.out.on HB.out HB.out.size) (Nat.le_trans HB.out.size HBX.out.size)⟩
        · by_cases h1 : kk = 1
          · subst h1
            have hop := tb_remove HT7.out HI.out.2.2.1 HI.out.2.2.2.1
            obtain ⟨rr, hrr⟩ : ∃ r, r = (ms win p.name).isSome := ⟨_, rfl⟩
            rw [← hrr] at hop
            clear hrr
            have HOP := Lib.hid hop
            clear hop
            go_upto_region 13 with (go_at_call 13; ((with_reducible refine (HOP.out).mono ?_); rintro ex w8 ⟨rfl, hT8, hk8⟩); have HT8 := Lib.hid hT8; have HK8 := Lib.hid (hk8 _ _ _ HQ7.out); clear hT8 hk8)
            obtain ⟨ms8, hms8⟩ : ∃ m, m = upI ms win (upS (ms win) p.name none) := ⟨_, rfl⟩
            have HEQ := Lib.hid (show (¬ win = i → ms8 i s = ms i s) ∧ (True → ¬ p.name = s → ms8 i s = ms i s) by
              rw [hms8]
              refine ⟨fun hw => ?_, fun _ hn => ?_⟩
              · rw [upI_other _ _ (fun e => hw e.symm)]
              · by_cases hw : i = win
                · rw [hw, upI_same, upS_other _ _ (fun e => hn e.symm)]
                · rw [upI_other _ _ hw])
            rw [← hms8] at HT8
            clear hms8 x0 x1 x2 x3 x4
            obtain ⟨q2, hq2⟩ : ∃ q, q = (ms8 i s).getD noP := ⟨_, rfl⟩
            obtain ⟨o2, ho2⟩ : ∃ o, o = (ms8 i s).isSome := ⟨_, rfl⟩
            have hg8 := tb_get HT8.out HI.out.1 HI.out.2.1
            rw [← hq2, ← ho2] at hg8
            have HG8 := Lib.hid hg8
            have HQ2 := Lib.hid (And.intro hq2 ho2)
            clear hg8 hq2 ho2
            go_upto_region 14 with (go_at_call 16; ((with_reducible refine (HG8.out).mono ?_); rintro ex w9 ⟨rfl, hb9⟩); have HB9 := Lib.hid hb9; clear hb9)
            have hxw10 := Blk.new w9 27 #[.string q2.name, .string q2.typ, .string q2.data]
            have hbw10 := HB9.out.alloc HB9.out.size (.cells #[.string q2.name, .string q2.typ, .string q2.data] 27)
            obtain ⟨g2, hg2⟩ : ∃ g, g = w9.heap.size := ⟨_, rfl⟩
            rw [← hg2] at hxw10 ⊢
            clear hg2
            generalize w9.alloc (.cells #[.string q2.name, .string q2.typ, .string q2.data] 27) = w10 at hxw10 hbw10 ⊢
            have HB10 := Lib.hid hbw10
            have HBX := Lib.hid (hbw10.on HT8.out.below HT8.out.size)
            obtain ⟨x0, x1, x2, x3, x4⟩ := HX.out w10 HBX.out
            obtain ⟨⟨y0, y1, y2⟩, -⟩ := (HK8.out.next HB10.out).c3
            obtain ⟨⟨z0, z1, z2⟩, -⟩ := hxw10.c3
            clear hbw10 hxw10
            have hfin := HA.out w10 HBX.out
            have HFIN := Lib.hid hfin
            clear hfin
            have HEQ2 := Lib.hid (show ∀ h : ms8 i s = ms i s, q1.name = q2.name ∧ q1.typ = q2.typ ∧ q1.data = q2.data ∧ o1 = o2 from fun h => by rw [HQ1.out.1, HQ1.out.2, HQ2.out.1, HQ2.out.2, h]; exact ⟨rfl, rfl, rfl, rfl⟩)
            have AW := Lib.hid True.intro
            by_cases hw : win = i
            · have hwi : (win == i) = true := by rw [hw]; simp
              by_cases hn : p.name = s
              · have hni : p.name.toList = s.toList := by rw [hn]
                go_wp2_with (go_at_call 23; ((with_reducible refine (HFIN.out).mono ?_); rintro ex w11 ⟨rfl, hb⟩); have HB11 := Lib.hid hb; clear hb)
                go_ret
                exact ⟨rfl, HB11.out.on (HBX.out.on HB.out HB.out.size) (Nat.le_trans HB.out.size HBX.out.size)⟩
              · have hni : ¬ p.name.toList = s.toList := fun e => hn ((tl_inj _ _).1 e)
                obtain ⟨j0, j1, j2, j3⟩ := HEQ2.out (HEQ.out.2 trivial hn)
                go_wp2_with (go_at_call 23; ((with_reducible refine (HFIN.out).mono ?_); rintro ex w11 ⟨rfl, hb⟩); have HB11 := Lib.hid hb; clear hb)
                go_ret
                exact ⟨rfl, HB11.out.on (HBX.out.on HB.out HB.out.size) (Nat.le_trans HB.out.size HBX.out.size)⟩
            · have hwi : (win == i) = false := by simpa using hw
              obtain ⟨j0, j1, j2, j3⟩ := HEQ2.out (HEQ.out.1 hw)
              go_wp2_with (go_at_call 23; ((with_reducible refine (HFIN.out).mono ?_); rintro ex w11 ⟨rfl, hb⟩); have HB11 := Lib.hid hb; clear hb)
              go_ret
              exact ⟨rfl, HB11.out.on (HBX.out.on HB.out HB.out.size) (Nat.le_trans HB.out.size HBX.out.size)⟩
          · skip
            have hop := tb_drop HT7.out HI.out.2.2.1
            have HOP := Lib.hid hop
            clear hop
            go_upto_region 13 with (go_at_call 15; ((with_reducible refine (HOP.out).mono ?_); rintro ex w8 ⟨rfl, hT8, hk8⟩); have HT8 := Lib.hid hT8; have HK8 := Lib.hid (hk8 _ _ _ HQ7.out); clear hT8 hk8)
            obtain ⟨ms8, hms8⟩ : ∃ m, m = upI ms win (fun _ => none) := ⟨_, rfl⟩
            have HEQ := Lib.hid (show (¬ win = i → ms8 i s = ms i s) ∧ (False → ¬ p.name = s → ms8 i s = ms i s) by
              rw [hms8]
              refine ⟨fun hw => ?_, fun hf _ => hf.elim⟩
              rw [upI_other _ _ (fun e => hw e.symm)])
            rw [← hms8] at HT8
            clear hms8 x0 x1 x2 x3 x4
            obtain ⟨q2, hq2⟩ : ∃ q, q = (ms8 i s).getD noP := ⟨_, rfl⟩
            obtain ⟨o2, ho2⟩ : ∃ o, o = (ms8 i s).isSome := ⟨_, rfl⟩
            have hg8 := tb_get HT8.out HI.out.1 HI.out.2.1
            rw [← hq2, ← ho2] at hg8
            have HG8 := Lib.hid hg8
            have HQ2 := Lib.hid (And.intro hq2 ho2)
            clear hg8 hq2 ho2
            go_upto_region 14 with (go_at_call 16; ((with_reducible refine (HG8.out).mono ?_); rintro ex w9 ⟨rfl, hb9⟩); have HB9 := Lib.hid hb9; clear hb9)
            have hxw10 := Blk.new w9 27 #[.string q2.name, .string q2.typ, .string q2.data]
            have hbw10 := HB9.out.alloc HB9.out.size (.cells #[.string q2.name, .string q2.typ, .string q2.data] 27)
            obtain ⟨g2, hg2⟩ : ∃ g, g = w9.heap.size := ⟨_, rfl⟩
            rw [← hg2] at hxw10 ⊢
            clear hg2
            generalize w9.alloc (.cells #[.string q2.name, .string q2.typ, .string q2.data] 27) = w10 at hxw10 hbw10 ⊢
            have HB10 := Lib.hid hbw10
            have HBX := Lib.hid (hbw10.on HT8.out.below HT8.out.size)
            obtain ⟨x0, x1, x2, x3, x4⟩ := HX.out w10 HBX.out
            obtain ⟨⟨y0, y1, y2⟩, -⟩ := (HK8.out.next HB10.out).c3
            obtain ⟨⟨z0, z1, z2⟩, -⟩ := hxw10.c3
            clear hbw10 hxw10
            have hfin := HA.out w10 HBX.out
            have HFIN := Lib.hid hfin
            clear hfin
            have HEQ2 := Lib.hid (show ∀ h : ms8 i s = ms i s, q1.name = q2.name ∧ q1.typ = q2.typ ∧ q1.data = q2.data ∧ o1 = o2 from fun h => by rw [HQ1.out.1, HQ1.out.2, HQ2.out.1, HQ2.out.2, h]; exact ⟨rfl, rfl, rfl, rfl⟩)
            have AW := Lib.hid True.intro
            by_cases hw : win = i
            · have hwi : (win == i) = true := by rw [hw]; simp
              by_cases hn : p.name = s
              · have hni : p.name.toList = s.toList := by rw [hn]
                go_wp2_with (go_at_call 23; ((with_reducible refine (HFIN.out).mono ?_); rintro ex w11 ⟨rfl, hb⟩); have HB11 := Lib.hid hb; clear hb)
                go_ret
                exact ⟨rfl, HB11.out.on (HBX.out.on HB.out HB.out.size) (Nat.le_trans HB.out.size HBX.out.size)⟩
              · have hni : ¬ p.name.toList = s.toList := fun e => hn ((tl_inj _ _).1 e)
                go_wp2_with (go_at_call 23; ((with_reducible refine (HFIN.out).mono ?_); rintro ex w11 ⟨rfl, hb⟩); have HB11 := Lib.hid hb; clear hb)
                go_ret
                exact ⟨rfl, HB11.out.on (HBX.out.on HB.out HB.out.size) (Nat.le_trans HB.out.size HBX.out.size)⟩
            · have hwi : (win == i) = false := by simpa using hw
              obtain ⟨j0, j1, j2, j3⟩ := HEQ2.out (HEQ.out.1 hw)
              go_wp2_with (go_at_call 23; ((with_reducible refine (HFIN.out).mono ?_); rintro ex w11 ⟨rfl, hb⟩); have HB11 := Lib.hid hb; clear hb)
              go_ret
              exact ⟨rfl, HB11.out.on (HBX.out.on HB.out HB.out.size) (Nat.le_trans HB.out.size HBX.out.size)⟩
      · have hk1 : ¬ (k : Int) < (n : Int) := by omega
        obtain ⟨q1, hq1⟩ : ∃ q, q = (ms i s).getD noP := ⟨_, rfl⟩
        obtain ⟨o1, ho1⟩ : ∃ o, o = (ms i s).isSome := ⟨_, rfl⟩
        have hg6 := tb_get HT.out HI.out.1 HI.out.2.1
        rw [← hq1, ← ho1] at hg6
        have HG6 := Lib.hid hg6
        have HQ1 := Lib.hid (And.intro hq1 ho1)
        clear hg6 hq1 ho1
        go_upto_region 6 with fail
        go_upto_region 7 with (go_at_call 16; ((with_reducible refine (HG6.out).mono ?_); rintro ex w6 ⟨rfl, hb6⟩); have HB6 := Lib.hid hb6; clear hb6)
        have hxw7 := Blk.new w6 27 #[.string q1.name, .string q1.typ, .string q1.data]
        have hbw7 := HB6.out.alloc HB6.out.size (.cells #[.string q1.name, .string q1.typ, .string q1.data] 27)
        obtain ⟨g1, hg1⟩ : ∃ g, g = w6.heap.size := ⟨_, rfl⟩
        rw [← hg1] at hxw7 ⊢
        clear hg1
        generalize w6.alloc (.cells #[.string q1.name, .string q1.typ, .string q1.data] 27) = w7 at hxw7 hbw7 ⊢
        have HT7 := Lib.hid (HT.out.next hbw7)
        have HQ7 := Lib.hid hxw7
        clear hbw7 hxw7
        obtain ⟨x0, x1, x2, x3, x4⟩ := HX.out w7 HT7.out.below
        by_cases h0 : kk = 0
        · subst h0
          have hop := tb_set HT7.out (by have := HKK.out; omega) HI.out.2.2.1 p HI.out.2.2.2.1 HI.out.2.2.2.2.1
          obtain ⟨rr, hrr⟩ : ∃ r, r = setE p (ms win) (ns win) := ⟨_, rfl⟩
          rw [← hrr] at hop
          clear hrr
          have HOP := Lib.hid hop
          clear hop
          go_upto_region 13 with (go_at_call 11; ((with_reducible refine (HOP.out).mono ?_); rintro ex w8 ⟨rfl, hT8, hk8⟩); have HT8 := Lib.hid hT8; have HK8 := Lib.hid (hk8 _ _ _ HQ7.out); clear hT8 hk8)
          obtain ⟨ms8, hms8⟩ : ∃ m, m = setM ms ns win p := ⟨_, rfl⟩
          have HEQ := Lib.hid (show (¬ win = i → ms8 i s = ms i s) ∧ (True → ¬ p.name = s → ms8 i s = ms i s) by
            rw [hms8]
            refine ⟨fun hw => ?_, fun _ hn => ?_⟩
            · unfold setM; split
              · rw [upI_other _ _ (fun e => hw e.symm)]
              · rfl
            · unfold setM; split
              · by_cases hw : i = win
                · rw [hw, upI_same, upS_other _ _ (fun e => hn e.symm)]
                · rw [upI_other _ _ hw]
              · rfl)
          rw [← hms8] at HT8
          clear hms8 x0 x1 x2 x3 x4
          obtain ⟨q2, hq2⟩ : ∃ q, q = (ms8 i s).getD noP := ⟨_, rfl⟩
          obtain ⟨o2, ho2⟩ : ∃ o, o = (ms8 i s).isSome := ⟨_, rfl⟩
          have hg8 := tb_get HT8.out HI.out.1 HI.out.2.1
          rw [← hq2, ← ho2] at hg8
          have HG8 := Lib.hid hg8
          have HQ2 := Lib.hid (And.intro hq2 ho2)
          clear hg8 hq2 ho2
          go_upto_region 14 with (go_at_call 16; ((with_reducible refine (HG8.out).mono ?_); rintro ex w9 ⟨rfl, hb9⟩); have HB9 := Lib.hid hb9; clear hb9)
          have hxw10 := Blk.new w9 27 #[.string q2.name, .string q2.typ, .string q2.data]
          have hbw10 := HB9.out.alloc HB9.out.size (.cells #[.string q2.name, .string q2.typ, .string q2.data] 27)
          obtain ⟨g2, hg2⟩ : ∃ g, g = w9.heap.size := ⟨_, rfl⟩
          rw [← hg2] at hxw10 ⊢
          clear hg2
          generalize w9.alloc (.cells #[.string q2.name, .string q2.typ, .string q2.data] 27) = w10 at hxw10 hbw10 ⊢
          have HB10 := Lib.hid hbw10
          have HBX := Lib.hid (hbw10.on HT8.out.below HT8.out.size)
          obtain ⟨x0, x1, x2, x3, x4⟩ := HX.out w10 HBX.out
          obtain ⟨⟨y0, y1, y2⟩, -⟩ := (HK8.out.next HB10.out).c3
          obtain ⟨⟨z0, z1, z2⟩, -⟩ := hxw10.c3
          clear hbw10 hxw10
          have hfin := HA.out w10 HBX.out
          have HFIN := Lib.hid hfin
          clear hfin
          have HEQ2 := Lib.hid (show ∀ h : ms8 i s = ms i s, q1.name = q2.name ∧ q1.typ = q2.typ ∧ q1.data = q2.data ∧ o1 = o2 from fun h => by rw [HQ1.out.1, HQ1.out.2, HQ2.out.1, HQ2.out.2, h]; exact ⟨rfl, rfl, rfl, rfl⟩)
          have AW := Lib.hid True.intro
          by_cases hw : win = i
          · have hwi : (win == i) = true := by rw [hw]; simp
            by_cases hn : p.name = s
            · have hni : p.name.toList = s.toList := by rw [hn]
              go_wp2_with (go_at_call 23; ((with_reducible refine (HFIN.out).mono ?_); rintro ex w11 ⟨rfl, hb⟩); have HB11 := Lib.hid hb; clear hb)
              go_ret
              exact ⟨rfl, HB11.out.on (HBX.out.on HB.out HB.out.size) (Nat.le_trans HB.out.size HBX.out.size)⟩
            · have hni : ¬ p.name.toList = s.toList := fun e => hn ((tl_inj _ _).1 e)
              obtain ⟨j0, j1, j2, j3⟩ := HEQ2.out (HEQ.out.2 trivial hn)
              go_wp2_with (go_at_call 23; ((with_reducible refine (HFIN.out).mono ?_); rintro ex w11 ⟨rfl, hb⟩); have HB11 := Lib.hid hb; clear hb)
              go_ret
              exact ⟨rfl, HB11.out.on (HBX.out.on HB.out HB.out.size) (Nat.le_trans HB.out.size HBX.out.size)⟩
          · have hwi : (win == i) = false := by simpa using hw
            obtain ⟨j0, j1, j2, j3⟩ := HEQ2.out (HEQ.out.1 hw)
            go_wp2_with (go_at_call 23; ((with_reducible refine (HFIN.out).mono ?_); rintro ex w11 ⟨rfl, hb⟩); have HB11 := Lib.hid hb; clear hb)
            go_ret
            exact ⟨rfl, HB11.out.on (HBX.out.on HB.out HB.out.size) (Nat.le_trans HB.out.size HBX.out.size)⟩
        · by_cases h1 : kk = 1
          · subst h1
            have hop := tb_remove HT7.out HI.out.2.2.1 HI.out.2.2.2.1
            obtain ⟨rr, hrr⟩ : ∃ r, r = (ms win p.name).isSome := ⟨_, rfl⟩
            rw [← hrr] at hop
            clear hrr
            have HOP := Lib.hid hop
            clear hop
            go_upto_region 13 with (go_at_call 13; ((with_reducible refine (HOP.out).mono ?_); rintro ex w8 ⟨rfl, hT8, hk8⟩); have HT8 := Lib.hid hT8; have HK8 := Lib.hid (hk8 _ _ _ HQ7.out); clear hT8 hk8)
            obtain ⟨ms8, hms8⟩ : ∃ m, m = upI ms win (upS (ms win) p.name none) := ⟨_, rfl⟩
            have HEQ := Lib.hid (show (¬ win = i → ms8 i s = ms i s) ∧ (True → ¬ p.name = s → ms8 i s = ms i s) by
              rw [hms8]
              refine ⟨fun hw => ?_, fun _ hn => ?_⟩
              · rw [upI_other _ _ (fun e => hw e.symm)]
              · by_cases hw : i = win
                · rw [hw, upI_same, upS_other _ _ (fun e => hn e.symm)]
                · rw [upI_other _ _ hw])
            rw [← hms8] at HT8
            clear hms8 x0 x1 x2 x3 x4
            obtain ⟨q2, hq2⟩ : ∃ q, q = (ms8 i s).getD noP := ⟨_, rfl⟩
            obtain ⟨o2, ho2⟩ : ∃ o, o = (ms8 i s).isSome := ⟨_, rfl⟩
            have hg8 := tb_get HT8.out HI.out.1 HI.out.2.1
            rw [← hq2, ← ho2] at hg8
            have HG8 := Lib.hid hg8
            have HQ2 := Lib.hid (And.intro hq2 ho2)
            clear hg8 hq2 ho2
            go_upto_region 14 with (go_at_call 16; ((with_reducible refine (HG8.out).mono ?_); rintro ex w9 ⟨rfl, hb9⟩); have HB9 := Lib.hid hb9; clear hb9)
            have hxw10 := Blk.new w9 27 #[.string q2.name, .string q2.typ, .string q2.data]
            have hbw10 := HB9.out.alloc HB9.out.size (.cells #[.string q2.name, .string q2.typ, .string q2.data] 27)
            obtain ⟨g2, hg2⟩ : ∃ g, g = w9.heap.size := ⟨_, rfl⟩
            rw [← hg2] at hxw10 ⊢
            clear hg2
            generalize w9.alloc (.cells #[.string q2.name, .string q2.typ, .string q2.data] 27) = w10 at hxw10 hbw10 ⊢
            have HB10 := Lib.hid hbw10
            have HBX := Lib.hid (hbw10.on HT8.out.below HT8.out.size)
            obtain ⟨x0, x1, x2, x3, x4⟩ := HX.out w10 HBX.out
            obtain ⟨⟨y0, y1, y2⟩, -⟩ := (HK8.out.next HB10.out).c3
            obtain ⟨⟨z0, z1, z2⟩, -⟩ := hxw10.c3
            clear hbw10 hxw10
            have hfin := HA.out w10 HBX.out
            have HFIN := Lib.hid hfin
            clear hfin
            have HEQ2 := Lib.hid (show ∀ h : ms8 i s = ms i s, q1.name = q2.name ∧ q1.typ = q2.typ ∧ q1.data = q2.data ∧ o1 = o2 from fun h => by rw [HQ1.out.1, HQ1.out.2, HQ2.out.1, HQ2.out.2, h]; exact ⟨rfl, rfl, rfl, rfl⟩)
            have AW := Lib.hid True.intro
            by_cases hw : win = i
            · have hwi : (win == i) = true := by rw [hw]; simp
              by_cases hn : p.name = s
              · have hni : p.name.toList = s.toList := by rw [hn]
                go_wp2_with (go_at_call 23; ((with_reducible refine (HFIN.out).mono ?_); rintro ex w11 ⟨rfl, hb⟩); have HB11 := Lib.hid hb; clear hb)
                go_ret
                exact ⟨rfl, HB11.out.on (HBX.out.on HB.out HB.out.size) (Nat.le_trans HB.out.size HBX.out.size)⟩
              · have hni : ¬ p.name.toList = s.toList := fun e => hn ((tl_inj _ _).1 e)
                obtain ⟨j0, j1, j2, j3⟩ := HEQ2.out (HEQ.out.2 trivial hn)
                go_wp2_with (go_at_call 23; ((with_reducible refine (HFIN.out).mono ?_); rintro ex w11 ⟨rfl, hb⟩); have HB11 := Lib.hid hb; clear hb)
                go_ret
                exact ⟨rfl, HB11.out.on (HBX.out.on HB.out HB.out.size) (Nat.le_trans HB.out.size HBX.out.size)⟩
            · have hwi : (win == i) = false := by simpa using hw
              obtain ⟨j0, j1, j2, j3⟩ := HEQ2.out (HEQ.out.1 hw)
              go_wp2_with (go_at_call 23; ((with_reducible refine (HFIN.out).mono ?_); rintro ex w11 ⟨rfl, hb⟩); have HB11 := Lib.hid hb; clear hb)
              go_ret
              exact ⟨rfl, HB11.out.on (HBX.out.on HB.out HB.out.size) (Nat.le_trans HB.out.size HBX.out.size)⟩
          · skip
            have hop := tb_drop HT7.out HI.out.2.2.1
            have HOP := Lib.hid hop
            clear hop
            go_upto_region 13 with (go_at_call 15; ((with_reducible refine (HOP.out).mono ?_); rintro ex w8 ⟨rfl, hT8, hk8⟩); have HT8 := Lib.hid hT8; have HK8 := Lib.hid (hk8 _ _ _ HQ7.out); clear hT8 hk8)
            obtain ⟨ms8, hms8⟩ : ∃ m, m = upI ms win (fun _ => none) := ⟨_, rfl⟩
            have HEQ := Lib.hid (show (¬ win = i → ms8 i s = ms i s) ∧ (False → ¬ p.name = s → ms8 i s = ms i s) by
              rw [hms8]
              refine ⟨fun hw => ?_, fun hf _ => hf.elim⟩
              rw [upI_other _ _ (fun e => hw e.symm)])
            rw [← hms8] at HT8
            clear hms8 x0 x1 x2 x3 x4
            obtain ⟨q2, hq2⟩ : ∃ q, q = (ms8 i s).getD noP := ⟨_, rfl⟩
            obtain ⟨o2, ho2⟩ : ∃ o, o = (ms8 i s).isSome := ⟨_, rfl⟩
            have hg8 := tb_get HT8.out HI.out.1 HI.out.2.1
            rw [← hq2, ← ho2] at hg8
            have HG8 := Lib.hid hg8
            have HQ2 := Lib.hid (And.intro hq2 ho2)
            clear hg8 hq2 ho2
            go_upto_region 14 with (go_at_call 16; ((with_reducible refine (HG8.out).mono ?_); rintro ex w9 ⟨rfl, hb9⟩); have HB9 := Lib.hid hb9; clear hb9)
            have hxw10 := Blk.new w9 27 #[.string q2.name, .string q2.typ, .string q2.data]
            have hbw10 := HB9.out.alloc HB9.out.size (.cells #[.string q2.name, .string q2.typ, .string q2.data] 27)
            obtain ⟨g2, hg2⟩ : ∃ g, g = w9.heap.size := ⟨_, rfl⟩
            rw [← hg2] at hxw10 ⊢
            clear hg2
            generalize w9.alloc (.cells #[.string q2.name, .string q2.typ, .string q2.data] 27) = w10 at hxw10 hbw10 ⊢
            have HB10 := Lib.hid hbw10
            have HBX := Lib.hid (hbw10.on HT8.out.below HT8.out.size)
            obtain ⟨x0, x1, x2, x3, x4⟩ := HX.out w10 HBX.out
            obtain ⟨⟨y0, y1, y2⟩, -⟩ := (HK8.out.next HB10.out).c3
            obtain ⟨⟨z0, z1, z2⟩, -⟩ := hxw10.c3
            clear hbw10 hxw10
            have hfin := HA.out w10 HBX.out
            have HFIN := Lib.hid hfin
            clear hfin
            have HEQ2 := Lib.hid (show ∀ h : ms8 i s = ms i s, q1.name = q2.name ∧ q1.typ = q2.typ ∧ q1.data = q2.data ∧ o1 = o2 from fun h => by rw [HQ1.out.1, HQ1.out.2, HQ2.out.1, HQ2.out.2, h]; exact ⟨rfl, rfl, rfl, rfl⟩)
            have AW := Lib.hid True.intro
            by_cases hw : win = i
            · have hwi : (win == i) = true := by rw [hw]; simp
              by_cases hn : p.name = s
              · have hni : p.name.toList = s.toList := by rw [hn]
                go_wp2_with (go_at_call 23; ((with_reducible refine (HFIN.out).mono ?_); rintro ex w11 ⟨rfl, hb⟩); have HB11 := Lib.hid hb; clear hb)
                go_ret
                exact ⟨rfl, HB11.out.on (HBX.out.on HB.out HB.out.size) (Nat.le_trans HB.out.size HBX.out.size)⟩
              · have hni : ¬ p.name.toList = s.toList := fun e => hn ((tl_inj _ _).1 e)
                go_wp2_with (go_at_call 23; ((with_reducible refine (HFIN.out).mono ?_); rintro ex w11 ⟨rfl, hb⟩); have HB11 := Lib.hid hb; clear hb)
                go_ret
                exact ⟨rfl, HB11.out.on (HBX.out.on HB.out HB.out.size) (Nat.le_trans HB.out.size HBX.out.size)⟩
            · have hwi : (win == i) = false := by simpa using hw
              obtain ⟨j0, j1, j2, j3⟩ := HEQ2.out (HEQ.out.1 hw)
              go_wp2_with (go_at_call 23; ((with_reducible refine (HFIN.out).mono ?_); rintro ex w11 ⟨rfl, hb⟩); have HB11 := Lib.hid hb; clear hb)
              go_ret
              exact ⟨rfl, HB11.out.on (HBX.out.on HB.out HB.out.size) (Nat.le_trans HB.out.size HBX.out.size)⟩
end Go.Proofs.YtfflgkbemfichaaDoor
