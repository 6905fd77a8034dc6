/- The reference's Split, walked. -/
import Derived.Test.YticfefiiiinadaaSvC
namespace Go.Proofs.Yticfefiiiinadaa
open Go.RowKit Go.Lib Go.Sort

set_option maxHeartbeats 16000000 in
set_option maxRecDepth 1000000 in
theorem rsplit_ok (total : Int) (b off cap : Nat) (zs : List Int) (w : World) (hk : chk zs = 0) (ht0 : 0 ≤ total) (ht1 : total ≤ 65536) (hb : b < w.heap.size) (hc : SI w b off zs) :
    Calls Try.prog 19 #[.int .i64 total, .slice (some ⟨b, off, none⟩) zs.length cap] w fun e w' => ∃ v, e = .returned (.tuple #[v, .int .i64 0]) ∧ One1 w.heap.size w w' v (splitL total zs) := by
  obtain ⟨i0, hi, hz0, hz1, hz2⟩ := info_parts info3
  obtain ⟨hn0, hn64, hz⟩ := chk_zero hk
  have hS1 := sum_pos hn0 hz
  have hS2 : sumI zs ≤ 1048576 * 64 := by
    have h2 := sumI_bound zs 1048576 (fun z h => by have := hz z h; omega)
    have : (zs.length : Int) ≤ 64 := by omega
    have := Int.mul_le_mul_of_nonneg_left this (show (0 : Int) ≤ 1048576 by omega)
    omega
  have hsum : ∀ k : Nat, 0 ≤ sumI (zs.take k) ∧ sumI (zs.take k) ≤ 1048576 * 64 := by
    intro k
    have h1 := sumI_bound (zs.take k) 1048576 (fun z hm => by have := hz z (List.mem_of_mem_take hm); omega)
    have h2 : (zs.take k).length ≤ 64 := by simp; omega
    have h3 : ((zs.take k).length : Int) ≤ 64 := by omega
    have := Int.mul_le_mul_of_nonneg_left h3 (show (0 : Int) ≤ 1048576 by omega)
    omega
  have hcheck := rcheck_c b off cap zs w (by omega) hc
  rw [hk] at hcheck
  obtain ⟨mm, hmm⟩ : ∃ mm : Nat, missing total zs = mm := ⟨(missing total zs).toNat, by have := missing_bounds total zs hS1 hn0; omega⟩
  have hmz : mm < zs.length := by have := missing_bounds total zs hS1 hn0; omega
  have hPl := partsL_length total zs
  have hOl := overL_length total zs
  have hPb := partsL_bound total zs ht0 ht1 hz hS1
  have hO0 := overL_nonneg total zs hS1
  have hsp : splitL total zs = (loopR mm (partsL total zs, overL total zs)).1 := by unfold splitL; rw [hmm, Int.toNat_natCast]
  have hmS : total - sumI (partsL total zs) = (mm : Int) := by rw [← hmm]; unfold missing; rfl
  have hP : Hid (∀ k, k < zs.length → (partsL total zs).take (k + 1) = (partsL total zs).take k ++ [total * zs.getD k 0 / sumI zs]) := fun k hk => map_take_next (fun n => total * n / sumI zs) zs k hk
  have hO : Hid (∀ k, k < zs.length → (overL total zs).take (k + 1) = (overL total zs).take k ++ [total * zs.getD k 0 % sumI zs]) := fun k hk => map_take_next (fun n => total * n % sumI zs) zs k hk
  have hPS : Hid (∀ k, k < zs.length → sumI ((partsL total zs).take (k + 1)) = sumI ((partsL total zs).take k) + total * zs.getD k 0 / sumI zs) := fun k hk => sumI_take_next (fun n => total * n / sumI zs) zs k hk
  have hPB : ∀ k : Nat, 0 ≤ sumI ((partsL total zs).take k) ∧ sumI ((partsL total zs).take k) ≤ 65536 * 1048576 * 64 := by
    intro k
    have h1 := sumI_bound ((partsL total zs).take k) (65536 * 1048576) (fun z hm => hPb z (List.mem_of_mem_take hm))
    have h2 : ((partsL total zs).take k).length ≤ 64 := by simp; omega
    have h3 : (((partsL total zs).take k).length : Int) ≤ 64 := by omega
    have := Int.mul_le_mul_of_nonneg_left h3 (show (0 : Int) ≤ 65536 * 1048576 by omega)
    omega
  have hLb : ∀ (ps : List Nat) x, 0 ≤ (addAll ps (partsL total zs)).getD x 0 ∧ (addAll ps (partsL total zs)).getD x 0 ≤ 65536 * 1048576 + ps.length := fun ps x => addAll_bound ps _ _ (fun x => getD_bound hPb (by omega) x) (by omega) x
  -- the loop's numbers are small
  have hRb : ∀ k, k ≤ mm → ∀ x, 0 ≤ (loopR k (partsL total zs, overL total zs)).1.getD x 0 ∧ (loopR k (partsL total zs, overL total zs)).1.getD x 0 ≤ 65536 * 1048576 + 64 := by
    intro k hk x
    obtain ⟨p, hM, _⟩ := ranks_mf (overL total zs) (by omega)
    rw [(loopR_eq hM hO0 (partsL total zs) k (by omega)).1]
    have := hLb ((List.range k).map p) x
    rw [List.length_map, List.length_range] at this
    omega
  rw [hsp]
  generalize partsL total zs = PL at hPl hmS hP hPS hPB hRb ⊢
  generalize overL total zs = OL at hOl hO hRb ⊢
  have hC := Lib.hid hc
  have hZ := Lib.hid hz
  have hSN : Hid (∀ k, k < zs.length → sumI (zs.take (k + 1)) = sumI (zs.take k) + zs.getD k 0) := fun k hk => sumI_next zs k hk
  have HS := Lib.hid hsum
  have HPB := Lib.hid hPB
  have HPl := Lib.hid hPl
  have HOl := Lib.hid hOl
  have HRb := Lib.hid hRb
  have HMS := Lib.hid hmS
  generalize hALL : sumI zs = all at hS1 hS2 hP hO hPS
  have HALL := Lib.hid hALL
  have hall : all ≠ 0 := by omega
  clear hc hz hk hsum hPb hO0 hLb hRb hsp hmm hPB hPl hOl hmS hALL
  go_enter Try.func19, Try.ntmps19
  go_wp2_with (go_at_call 17; refine hcheck.mono ?_; rintro e w1 ⟨rfl, rfl⟩)
  clear hcheck
  go_loop [6, 7] (fun t i => ∃ k : Nat, k ≤ zs.length ∧ i = .int .i64 k ∧ t = .int .i64 (sumI (zs.take k))) (fun _ i => zs.length - (intOf i).toNat)
  case atStart => exact ⟨0, Nat.zero_le _, rfl, rfl⟩
  case round =>
    obtain ⟨k, hk, rfl, rfl⟩ := hrel
    by_cases hlt : k < zs.length
    · have hcell := hC.out k hlt
      have h1 := HS.out k
      have h2 := hZ.out _ (getD_mem zs k hlt)
      have h3 := Lib.hid (hSN.out k hlt)
      have hlt' : (k : Int) < (zs.length : Int) := by omega
      generalize hzz : zs.getD k 0 = z at hcell h2 h3
      generalize sumI (zs.take k) = s at h1 h3 ⊢
      clear hzz
      go_wp2
      go_round
      case rel => exact ⟨k + 1, by omega, by go_num, by rw [h3.out]⟩
      case measure => simp [intOf]; omega
    · have hlt' : ¬ (k : Int) < (zs.length : Int) := by omega
      obtain rfl : k = zs.length := by omega
      rw [List.take_length, HALL.out]
      clear hlt
      go_wp2
      go_loopw [8, 9, 10, 11] (fun p o l i wr => ∃ k : Nat, k ≤ zs.length ∧ i = .int .i64 k ∧ l = .int .i64 (total - sumI (PL.take k)) ∧ Aside (Two w.heap.size w wr p o (PL.take k) (OL.take k))) (fun _ _ _ i _ => zs.length - (intOf i).toNat)
      case atStart => exact ⟨0, Nat.zero_le _, rfl, by simp [sumI], Two.start w⟩
      case round =>
        obtain ⟨k, hk, rfl, rfl, hT⟩ := hrel
        have hT0 := Lib.hid hT
        clear hT
        by_cases hlt : k < zs.length
        · have hlt' : (k : Int) < (zs.length : Int) := by omega
          have hcell := (SI.below hC.out hT0.out.1 hb) k hlt
          have hzz := hZ.out _ (getD_mem zs k hlt)
          have hPn := hP.out k hlt
          have hOn := hO.out k hlt
          have hSn := hPS.out k hlt
          have hsb := HPB.out k
          have hpl : (PL.take k).length = k := by have := HPl.out; simp; omega
          have hol : (OL.take k).length = k := by have := HOl.out; simp; omega
          generalize hz' : zs.getD k 0 = z at hcell hzz hPn hOn hSn
          clear hz'
          have hprod : 0 ≤ total * z ∧ total * z ≤ 65536 * 1048576 := ⟨Int.mul_nonneg ht0 (by omega), by
            have h1 := Int.mul_le_mul_of_nonneg_right ht1 (show 0 ≤ z by omega)
            have h2 := Int.mul_le_mul_of_nonneg_left hzz.2 (show (0 : Int) ≤ 65536 by omega)
            omega⟩
          have hcell1 : ∀ (w1 : World), RowKit.Below w.heap.size w w1 → w1.cell? ⟨b, off + k, none⟩ = some (.int .i64 z) := fun w1 hB => by
            have h1 := (SI.below hC.out hB hb) k hlt
            have h2 := (SI.below hC.out hT0.out.1 hb) k hlt
            rw [h1, ← h2]; exact hcell
          have HC1 := Lib.hid hcell1
          clear hcell1
          generalize hq : total * z / all = q at hPn hSn
          have hq0 : 0 ≤ q ∧ q ≤ total * z := by rw [← hq]; exact ⟨Int.ediv_nonneg hprod.1 (by omega), Int.ediv_le_self _ hprod.1⟩
          have hrem : total * z - q * all = total * z % all := by
            have := Int.mul_ediv_add_emod (total * z) all
            rw [hq, Int.mul_comm] at this
            omega
          have hqa : 0 ≤ q * all ∧ q * all ≤ 65536 * 1048576 := by
            have h1 := Int.emod_nonneg (total * z) hall
            have h2 : 0 ≤ q * all := Int.mul_nonneg hq0.1 (by omega)
            omega
          have hPN := Lib.hid hPn
          have hON := Lib.hid hOn
          have hSN2 := Lib.hid hSn
          have HREM := Lib.hid hrem
          clear hPn hOn hSn hrem
          have hB : w.heap.size ≤ wr.heap.size := hT0.out.1.size
          generalize sumI (PL.take k) = sp at hsb hSN2 ⊢
          go_wp2_with (first
            | (at_builtin; refine wpList_append_own_at _ rfl (.tmp 54) (.tmp 56) 27 rfl w.heap.size 3 i0 (.int .i64 0) 1 8 Try.underlying27 hi hz0 hz1 hz2 rfl (by decide) _ _ _ rfl (World.ownsRow.alloc hT0.out.2.1 _) ⟨_, 0, none⟩ 1 1 [.int .i64 q] rfl rfl (cell_one_new _ _ _) (by simp [Value.oneCell']) (by rw [hpl]; unfold maxLen; omega) (by rw [hpl]; omega) (by simp; omega) ?_
               intro v' w1 hown' hgrow _ hat
               have hT1 := Lib.hid (Two.push1 hT0.out hB hown' hgrow hat)
               have hB1 : w.heap.size ≤ w1.heap.size := hT1.out.1.size
               have hcell2 := HC1.out w1 hT1.out.1
               clear hown' hgrow hat)
            | (at_builtin; refine wpList_append_own_at _ rfl (.tmp 58) (.tmp 69) 27 rfl w.heap.size 3 i0 (.int .i64 0) 1 8 Try.underlying27 hi hz0 hz1 hz2 rfl (by decide) _ _ _ rfl (World.ownsRow.alloc hT1.out.2.2.1 _) ⟨_, 0, none⟩ 1 1 [.int .i64 (total * z - q * all)] rfl rfl (cell_one_new _ _ _) (by simp [Value.oneCell']) (by rw [hol]; unfold maxLen; omega) (by rw [hol]; omega) (by simp; omega) ?_
               intro v2 w2 hown' hgrow _ hat
               have hT2 := Lib.hid (Two.swap (Two.push1 (Two.swap hT1.out) hB1 hown' hgrow hat))
               clear hown' hgrow hat))
          go_roundw
          case rel => exact ⟨k + 1, by omega, by go_num, by rw [hSN2.out]; congr 1; omega, by rw [hPN.out, hON.out, ← HREM.out]; exact hT2.out⟩
          case measure => simp [intOf]; omega
        · have hlt' : ¬ (k : Int) < (zs.length : Int) := by omega
          obtain rfl : k = zs.length := by omega
          have hpl : PL.take zs.length = PL := List.take_of_length_le (by have := HPl.out; omega)
          have hol : OL.take zs.length = OL := List.take_of_length_le (by have := HOl.out; omega)
          rw [hpl, hol] at hT0
          rw [hpl, HMS.out]
          have hne1 : PL ≠ [] := by intro h; have := HPl.out; rw [h] at this; simp at this; omega
          have hne2 : OL ≠ [] := by intro h; have := HOl.out; rw [h] at this; simp at this; omega
          obtain ⟨gp, cp, rfl, hg1, hg2, _, _⟩ := hT0.out.2.1.form hne1
          obtain ⟨go, co, rfl, hg3, hg4, _, _⟩ := hT0.out.2.2.1.form hne2
          rw [HPl.out, HOl.out] at hT0
          rw [HPl.out, HOl.out]
          have hgne := hT0.out.ne
          clear hlt hpl hol hne1 hne2 hP hO hPS
          go_wp2
          go_loopw [13, 14, 15] (fun i _ _ wq => ∃ k : Nat, k ≤ mm ∧ i = .int .i64 k ∧ Aside (Two w.heap.size w wq (.slice (some ⟨gp, 0, none⟩) zs.length cp) (.slice (some ⟨go, 0, none⟩) zs.length co) (loopR k (PL, OL)).1 (loopR k (PL, OL)).2)) (fun i _ _ _ => mm - (intOf i).toNat)
          case atStart => exact ⟨0, Nat.zero_le _, rfl, hT0.out⟩
          case round =>
            clear hT0
            obtain ⟨k, hk, rfl, hT⟩ := hrel
            have hT0 := Lib.hid hT
            clear hT
            by_cases hlt : k < mm
            · have hlt' : (k : Int) < (mm : Int) := by omega
              have hll := loopR_length k (PL, OL)
              have hl1 : (loopR k (PL, OL)).1.length = zs.length := by rw [hll.1]; exact HPl.out
              have hl2 : (loopR k (PL, OL)).2.length = zs.length := by rw [hll.2]; exact HOl.out
              have hbd := HRb.out k hk
              have hstep : loopR (k + 1) (PL, OL) = stepR (loopR k (PL, OL)) := rfl
              have HST := Lib.hid hstep
              clear hstep hll
              generalize loopR k (PL, OL) = st at hT0 hl1 hl2 hbd HST
              obtain ⟨L1, L2⟩ := st
              have HL1 := Lib.hid hl1
              have HL2 := Lib.hid hl2
              have HBD := Lib.hid hbd
              clear hl1 hl2 hbd
              go_wp2
              go_loopw [14, 15] (fun vb vi wq => ∃ j : Nat, j + 1 ≤ zs.length ∧ vi = .int .i64 ((j : Int) + 1) ∧ vb = .int .i64 (bestUpto L2 j) ∧ Aside (Two w.heap.size w wq (.slice (some ⟨gp, 0, none⟩) zs.length cp) (.slice (some ⟨go, 0, none⟩) zs.length co) L1 L2)) (fun _ i _ => zs.length - (intOf i).toNat)
              case atStart => exact ⟨0, by omega, rfl, rfl, hT0.out⟩
              case round =>
                clear hT0
                obtain ⟨j, hj, rfl, rfl, hT⟩ := hrel
                have hT0 := Lib.hid hT
                clear hT
                have hbl := bestUpto_le L2 j
                by_cases hlt2 : j + 1 < zs.length
                · have hlt2' : (j : Int) + 1 < (zs.length : Int) := by omega
                  obtain ⟨i, hi2⟩ : ∃ i : Nat, i = j + 1 := ⟨_, rfl⟩
                  have hiz : (j : Int) + 1 = (i : Int) := by omega
                  have hin : i < zs.length := by omega
                  have hin' : (i : Int) < (zs.length : Int) := by omega
                  have c1 := (hT0.out.2.2.1.at_ HL2.out hin).1
                  have c2 := (hT0.out.2.2.1.at_ HL2.out (show bestUpto L2 j < zs.length by omega)).1
                  have hnx : bestUpto L2 (j + 1) = if L2.getD i 0 > L2.getD (bestUpto L2 j) 0 then i else bestUpto L2 j := by rw [hi2]; rfl
                  have HI2 := Lib.hid hi2
                  have HNX := Lib.hid hnx
                  clear hi2 hnx
                  generalize hbq : bestUpto L2 j = bq at c2 HNX hbl ⊢
                  have hbn : (bq : Int) < (zs.length : Int) := by omega
                  clear hbq
                  generalize L2.getD i 0 = x at c1 HNX
                  generalize L2.getD bq 0 = y at c2 HNX
                  by_cases hxy : y < x
                  · go_wp2
                    go_quiet (fail)
                    go_wp2
                    go_roundw
                    case rel => exact ⟨j + 1, by omega, by congr 1; omega, by rw [HNX.out, if_pos (by omega)]; congr 1, hT0.out.drewN _⟩
                    case measure => simp [intOf]; omega
                  · go_wp2
                    go_quiet (fail)
                    go_wp2
                    go_roundw
                    case rel => exact ⟨j + 1, by omega, by congr 1; omega, by rw [HNX.out, if_neg (by omega)]; first | done | rfl | (congr 1; omega), hT0.out.drewN _⟩
                    case measure => simp [intOf]; omega
                · have hlt2' : ¬ (j : Int) + 1 < (zs.length : Int) := by omega
                  have hjl : j = L2.length - 1 := by have := HL2.out; omega
                  have hbN : bestUpto L2 j < zs.length := by omega
                  have c1 := hT0.out.2.1.at_ HL1.out hbN
                  obtain ⟨c1, f1⟩ := c1
                  have hTs := Two.store (x := bestUpto L2 j) hT0.out hg1 HL1.out (L1.getD (bestUpto L2 j) 0 + 1)
                  have c2 := hTs.2.2.1.at_ HL2.out hbN
                  obtain ⟨c2, f2⟩ := c2
                  have hTt := Two.swap (Two.store (x := bestUpto L2 j) (Two.swap hTs) hg3 HL2.out (-1))
                  have hfin : loopR (k + 1) (PL, OL) = (L1.set (bestUpto L2 j) (L1.getD (bestUpto L2 j) 0 + 1), L2.set (bestUpto L2 j) (-1)) := by
                    rw [HST.out]; simp only [stepR, addAt, ← hjl]
                  have HFIN := Lib.hid hfin
                  have HTT := Lib.hid hTt
                  have hyb := HBD.out (bestUpto L2 j)
                  clear hTs hTt hfin hjl
                  generalize bestUpto L2 j = bq at c1 c2 f1 f2 HFIN HTT hyb hbN hbl ⊢
                  have hbn : (bq : Int) < (zs.length : Int) := by omega
                  (try dsimp only at hyb)
                  generalize L1.getD bq 0 = y at c1 HFIN HTT hyb c2 f2
                  generalize L2.getD bq 0 = y2 at c2
                  go_wp2
                  go_roundw
                  case rel => exact ⟨k + 1, by omega, by go_num, by rw [HFIN.out]; exact HTT.out⟩
                  case measure => simp [intOf]; omega
            · have hlt' : ¬ (k : Int) < (mm : Int) := by omega
              obtain rfl : k = mm := by omega
              go_wp2
              go_ret2
              exact ⟨_, rfl, hT0.out.1, hT0.out.2.1⟩
end Go.Proofs.Yticfefiiiinadaa
