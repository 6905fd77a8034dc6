/- cons.Remove's closure, walked. -/
import Derived.Test.YtjeabkcbaielhaaCpD
namespace Go.Proofs.Ytjeabkcbaielhaa.Co
open Go.RowKit Go.Shelf
theorem enters_remove : ∀ args w, (callFunc 70 args).run Try.prog w = .ok (.enter 70 args) w := enters_of Try.func70 (by kernel_rfl) rfl
theorem StepR.trans {N r : Nat} {t t1 t2 : ATr} {w w1 w2 : World} (h : StepR N r t w t1 w1) (k : StepR N r t1 w1 t2 w2) : StepR N r t w t2 w2 := ⟨k.1, h.2.trans k.2⟩
theorem StepR.drewN {N r : Nat} {t t1 : ATr} {w w1 : World} (h : StepR N r t w t1 w1) (n : Nat) : StepR N r t w t1 (w1.drewN n) := ⟨h.1.drewN n, h.2.trans (Turn.of_below (below_drewN (Below.refl _ _) n))⟩
theorem Own.typ {w : World} : ∀ {t : ATr}, Own w t → ∀ b ∈ blks t, ∃ cur, w.heap[b]? = some (.cells cur 24 (0, 0)) := by
  intro t
  induction t using Tr.ind with
  | h a ks ih =>
    intro h b hb
    rcases blks_kids b hb with ⟨h0, rfl⟩ | hb
    · rcases h.1.2 with ⟨_, h1⟩ | ⟨g, cap, cur, h1, _, h2, _⟩
      · exact absurd h1 h0
      · unfold slV at h1
        rw [if_neg h0] at h1
        obtain ⟨e, -, -⟩ := Value.slice.inj h1
        have e := Option.some.inj e
        injection e with e
        subst e
        exact ⟨cur, h2⟩
    · rw [blksL_eq, List.mem_flatMap] at hb
      obtain ⟨x, hx, hb⟩ := hb
      exact ih x hx (OwnL_mem.1 h.2 x hx) b hb
/-- A way is none of a tree's blocks. -/
theorem WV.step {N r : Nat} {t t' : ATr} {w w' : World} {way : List Nat} {v : Value} (h : WV w (fun _ => True) way v) (hR : Root N w r t) (hs : StepR N r t w t' w') : WV w' (fun _ => True) way v :=
  WayO.same (o := some way) h hs.2.size fun b _ hl ⟨cs, hcs⟩ => ⟨hs.2.block b hl fun hb => by
    obtain ⟨cur, hc⟩ := hR.own.typ b hb
    rw [hcs] at hc
    injection hc with hc
    injection hc with _ hc
    exact absurd hc (by decide), trivial⟩
/-- So many splits are tidied. -/
def TdR (N r : Nat) (t : ATr) (w : World) (way : List Nat) (u : List Nat) (j m : Nat) (wr : World) : Prop := ∃ t', StepR N r t w t' wr ∧ era t' = tds way m (delK (era t) u j)
set_option maxHeartbeats 4000000 in
theorem how_remove : HowC 70 #[] (fun _ => True) removeF := by
  intro N w r t u j p y v hK hN hR hW hp hy hfi hlen
  have HC := Lib.hid (cut_c (fun _ => True) t p r 0 u j v w hR.held hW hp)
  obtain ⟨q, c, rfl, hwc⟩ : ∃ q c, v = .slice q (u ++ [j]).length c ∧ (u ++ [j]).length ≤ c := by obtain ⟨q, c, h1, _, h2, _⟩ := hW; exact ⟨q, c, h1, h2⟩
  have hh := hR.held.get hp
  have h4 := hh.cells 4 _ rfl
  rw [slA_some hy] at h4
  have hf4 := hh.free ((loc r 0 t u).2 + 4)
  have hjl := (List.getElem?_eq_some_iff.1 hy).1
  have hcl : p.ks.length ≤ p.a.cap := by obtain ⟨a, ks⟩ := p; exact hh.own.cap_le (by have : j < ks.length := hjl; omega)
  have hpl : p.ks.length ≤ 100000 := by
    have := (hfi u (era p) (by rw [era_get, hp]; rfl)).2
    rw [era_ks, List.length_map] at this; exact this
  obtain ⟨way, hway⟩ : ∃ way, way = u ++ [j] := ⟨_, rfl⟩
  obtain ⟨n, hn⟩ : ∃ n, n = way.length := ⟨_, rfl⟩
  rw [← hway, ← hn] at HC hlen hwc ⊢
  rw [← hway] at hW
  rw [← hn] at hW
  have hun : u.length + 1 = n := by rw [hn, hway]; simp
  have hX : removeF (era t) way = (tds way (n - 1) (delK (era t) u j), 0) := by
    unfold removeF
    rw [hn, hway, List.dropLast_concat, show (u ++ [j]).length - 1 = u.length by simp, List.getElem?_append_right (Nat.le_refl _)]
    simp
  have hth : There (delK (era t) u j) u := by
    have := there_delK (x := era t) (v := u) (w := []) (i := j) (by unfold There; rw [era_get, hp]; rfl)
    rwa [List.append_nil] at this
  obtain ⟨R, hRR⟩ : ∃ R, R = fun (e : Ending) (w' : World) => e = .returned (.int .i64 (removeF (era t) way).2) ∧ Turn (fun b => b ∈ blks (topT r t)) (fun _ => False) w w' ∧ ((removeF (era t) way).2 = 0 → ∃ t', Root N w' r t' ∧ era t' = (removeF (era t) way).1) := ⟨_, rfl⟩
  rw [← hRR]
  obtain ⟨L, hL⟩ : ∃ L, L = loc r 0 t u := ⟨_, rfl⟩
  rw [← hL] at HC h4 hf4
  obtain ⟨lb, lo⟩ := L
  obtain ⟨np, hnp⟩ : ∃ np, np = p.ks.length := ⟨_, rfl⟩
  rw [← hnp] at h4 hjl hpl hcl
  have HRR := Lib.hid hRR
  have HX := Lib.hid hX
  have HTH := Lib.hid hth
  have HL := Lib.hid hL
  have HR := Lib.hid hR
  have HP := Lib.hid hp
  have HNP := Lib.hid hnp
  have HNN := Lib.hid hN
  have HJL := Lib.hid hjl
  have HFI := Lib.hid hfi
  have HWV := Lib.hid hW
  have HN := Lib.hid hn
  have HWAY := Lib.hid hway
  have HUN := Lib.hid hun
  have hn1 : (1 : Int) ≤ (n : Int) := by omega
  have HWO := Lib.hid (fun (W : World) (h : Below w.heap.size w W) => without_c p.a.g np p.a.cap j (rowOf p.ks) W (by
    have ho := (HR.out.held.get HP.out).own.next h
    obtain ⟨a, ks⟩ := p
    exact ho.rds (by have := HJL.out; have := HNP.out; simp only [Tr.ks_mk] at *; omega)) (by rw [rowOf_len, HNP.out]) (rowOf_one _) HJL.out hpl hcl)
  clear hRR hX hth hL hR hp hnp hN hW hn hway hun hK hy hfi hh
  show Calls Try.prog 70 #[.pointer (some ⟨r, 0, none⟩), .slice q n c] w R
  have hlbl := block_of_cell' h4
  go_enter Try.func70, Try.ntmps70
  go_wp2_with fail
  refine HC.out.mono ?_
  rintro e w1 ⟨rfl, k1, hk1⟩
  have HB1 : Hid (Below w.heap.size w w1) := by rw [hk1]; exact below_drewN (Below.refl _ _) k1
  have HR1 : Hid (Root N w1 r t) := by rw [hk1]; exact HR.out.drewN k1
  have h41 : w1.cell? ⟨lb, lo + 4, none⟩ = some (.slice (some ⟨p.a.g, 0, none⟩) np p.a.cap) := by rw [hk1]; exact h4
  have hf41 : w1.frozen? ⟨lb, lo + 4, none⟩ = false := by rw [hk1]; exact hf4
  have hlbl1 := block_of_cell' h41
  clear hk1 h4 hf4 HC
  go_wp2_with fail
  refine (HWO.out w1 HB1.out).mono ?_
  rintro e w2 ⟨v, rfl, ho, hz, hb⟩
  have hpm : p = .mk p.a p.ks := (Tr.eta p).symm
  have hps : get t u = some (.mk p.a p.ks) := by rw [← hpm]; exact HP.out
  obtain ⟨⟨pv, cv, hvs⟩, t1, hst, het⟩ := erase_step HR1.out hps (i := j) (by have := HJL.out; have := HNP.out; omega) (v := v) (w1 := w2) ⟨v, rfl, by rw [← HNP.out]; exact ho, by rw [← HNP.out]; exact hz, hb⟩ (Nat.le_trans HNN.out HB1.out.size)
  rw [← HL.out] at hst
  subst hvs
  have e4 : w2.cell? ⟨lb, lo + 4, none⟩ = some (.slice (some ⟨p.a.g, 0, none⟩) np p.a.cap) := by rw [cell_same (hb.block lb hlbl1)]; exact h41
  have e5 : w2.frozen? ⟨lb, lo + 4, none⟩ = false := by
    have h1 := hb.block lb hlbl1
    have h3 := hf41
    unfold World.frozen? at h3 ⊢
    simp only [h1]; exact h3
  obtain ⟨w3, hw3⟩ : ∃ w3, w3 = w2.setCell ⟨lb, lo + 4, none⟩ (.slice pv (p.ks.eraseIdx j).length cv) := ⟨_, rfl⟩
  rw [← hw3] at hst
  have HTD := Lib.hid (show TdR N r t w way u j 0 w3 from ⟨t1, ⟨hst.1, (Turn.of_below HB1.out).trans hst.2⟩, het⟩)
  have HW3 := Lib.hid hw3
  clear hst het ho hz hb h41 hf41 hw3 hpm hps hlbl hlbl1
  go_wp2_with fail
  rw [← HW3.out]
  clear e4 e5
  go_loopw [7] (fun z wr => ∃ m : Nat, m ≤ n - 1 ∧ z = .int .i64 ((n - 1 - m : Nat) : Int) ∧ TdR N r t w way u j m wr) (fun z _ => (intOf z).toNat)
  case atStart => exact ⟨0, Nat.zero_le _, by congr 1; omega, HTD.out⟩
  case round =>
    obtain ⟨m, hm, rfl, htd⟩ := hrel
    have HT := Lib.hid (show TdR N r t w way u j m wr from htd)
    clear htd
    obtain ⟨d, hd⟩ : ∃ d, d = n - 1 - m := ⟨_, rfl⟩
    rw [← hd]
    have HD := Lib.hid hd
    have HM := Lib.hid hm
    clear hd hm
    by_cases hd0 : d = 0
    · have hnm0 : m = n - 1 := by have := HD.out; have := HM.out; omega
      have HNM := Lib.hid hnm0
      clear hnm0
      subst hd0
      go_wp2_with fail
      show R (.returned (.int .i64 0)) _
      rw [HRR.out]
      obtain ⟨t', hs, he⟩ := HT.out
      refine ⟨by rw [HX.out], ⟨hs.2.os, hs.2.tape, hs.2.output, hs.2.size, hs.2.block, fun _ h => h.elim⟩, fun _ => ⟨t', hs.1, by rw [HX.out, he, HNM.out]⟩⟩
    · obtain ⟨t', hs, he⟩ := HT.out
      have hdn : d < n := by have := HD.out; omega
      have hwv := HWV.out
      rw [HN.out] at hwv
      have hfr := hwv.front d (by rw [← HN.out]; omega)
      have hdl : d ≤ way.length := by rw [← HN.out]; omega
      obtain ⟨i', hi'⟩ : ∃ i', way[d - 1]? = some i' := ⟨_, List.getElem?_eq_getElem (by rw [← HN.out]; omega)⟩
      have hsp : way.take d = way.take (d - 1) ++ [i'] := by have := take_snoc hi'; rwa [show d - 1 + 1 = d by omega] at this
      have hthd : There (era t') (way.take d) := by
        rw [he]
        refine there_tds m d (by rw [← HN.out]; have := HD.out; have := HM.out; omega) ?_
        have hu : There (delK (era t) u j) u := HTH.out
        unfold There at hu ⊢
        obtain ⟨s0, hs0⟩ := Option.isSome_iff_exists.1 hu
        obtain ⟨s1, hs1, _⟩ := get_take hs0 d
        have e : way.take d = u.take d := by rw [HWAY.out, List.take_append_of_le_length (by have := HUN.out; omega)]
        rw [e, hs1]; rfl
      obtain ⟨s0, hs0⟩ := Option.isSome_iff_exists.1 hthd
      rw [hsp] at hs0
      obtain ⟨a0, ha0, hb0⟩ := get_prefix hs0
      obtain ⟨p', hp', hpe⟩ : ∃ p', get t' (way.take (d - 1)) = some p' ∧ era p' = a0 := by
        rw [era_get] at ha0
        cases hg : get t' (way.take (d - 1)) with
        | none => rw [hg] at ha0; cases ha0
        | some p1 => rw [hg] at ha0; exact ⟨p1, rfl, Option.some.inj ha0⟩
      obtain ⟨y', hy'⟩ : ∃ y', p'.ks[i']? = some y' := by
        rw [← hpe] at hb0
        obtain ⟨pa, pk⟩ := p'
        rw [era_mk] at hb0
        obtain ⟨y1, hy1, _⟩ := get_cons hb0
        rw [List.getElem?_map] at hy1
        cases hg : pk[i']? with
        | none => rw [hg] at hy1; cases hy1
        | some y2 => exact ⟨y2, hg⟩
      have hfin : fine (era t') := by rw [he]; exact fine_tds (fine_delK HFI.out) m
      have hpl' : p'.ks.length ≤ 100000 := by
        have := (hfin _ (era p') (by rw [era_get, hp']; rfl)).2
        rw [era_ks, List.length_map] at this; exact this
      have hyl' : y'.ks.length ≤ 100000 := by
        have hgy : get t' (way.take (d - 1) ++ [i']) = some y' := by rw [get_append _ hp']; obtain ⟨a, ks⟩ := p'; simp only [get]; rw [show ks[i']? = some y' from hy']
        have := (hfin _ (era y') (by rw [era_get, hgy]; rfl)).2
        rw [era_ks, List.length_map] at this; exact this
      have hwN : N ≤ wr.heap.size := Nat.le_trans HNN.out hs.2.size
      have hlp : WV wr (fun _ => True) (way.take (d - 1) ++ [i']) (.slice q d c) := by
        rw [← hsp]
        exact hfr.step HR.out hs
      have HCU := Lib.hid (cut_c (fun _ => True) t' p' r 0 (way.take (d - 1)) i' (.slice q d c) wr hs.1.held hlp hp')
      have HTI := Lib.hid (fun k => tidy_c N r i' t' p' y' (way.take (d - 1)) (wr.drewN k) (hs.1.drewN k) hp' hy' hwN hpl' hyl')
      have HS := Lib.hid hs
      have HE := Lib.hid he
      have HI' := Lib.hid hi'
      have hdc : d ≤ c := by omega
      have hdu : (d : Int) ≤ 1000000 := by omega
      clear hs he hdn hwv hfr hdl hi' hsp hthd hs0 ha0 hb0 hp' hpe hy' hfin hpl' hyl' hwN hlp
      obtain ⟨L2, hL2⟩ : ∃ L2, L2 = loc r 0 t' (way.take (d - 1)) := ⟨_, rfl⟩
      rw [← hL2] at HCU HTI
      clear hL2
      have hdp : (0 : Int) < (d : Int) := by omega
      have HD0 := Lib.hid hd0
      clear hd0
      go_wp2_with fail
      have hcu := HCU.out
      refine hcu.mono ?_
      rintro e w4 ⟨rfl, k2, hk2⟩
      have HTJ := Lib.hid (HTI.out k2)
      rw [← hk2] at HTJ
      have HK2 := Lib.hid hk2
      clear hcu hk2 HTI
      go_wp2_with fail
      refine HTJ.out.mono ?_
      rintro e w5 ⟨rfl, t2, hs2, he2⟩
      have htd : TdR N r t w way u j (m + 1) w5 := by
        refine ⟨t2, HS.out.trans ?_, ?_⟩
        · have := hs2
          rw [HK2.out] at this
          exact ⟨this.1, (Turn.of_below (below_drewN (Below.refl _ _) k2)).trans this.2⟩
        · rw [he2, HE.out]
          have e1 : way.length - 1 - m - 1 = d - 1 := by have := HD.out; have := HN.out; omega
          show _ = tidyK (tds way m (delK (era t) u j)) (way.take (way.length - 1 - m - 1)) ((way[way.length - 1 - m - 1]?).getD 0)
          rw [e1, HI'.out]; rfl
      have HTD2 := Lib.hid htd
      have e2 : Hid ((d : Int) - 1 = ((n - 1 - (m + 1) : Nat) : Int)) := by show (d : Int) - 1 = _; have := HD.out; have := HM.out; have := HD0.out; omega
      clear htd hs2 he2
      go_wp2_with fail
      refine ⟨⟨m + 1, by have := HD.out; have := HM.out; have := HD0.out; omega, by rw [e2.out], HTD2.out⟩, by have := HD0.out; simp [intOf]; omega⟩
end Go.Proofs.Ytjeabkcbaielhaa.Co
