/- order.owners, Owners, walked. -/
import Derived.Test.YtgioeijdgoogkaaOdE
namespace Go.Proofs.Ytgioeijdgoogkaa.Od
open Go.RowKit Go.Maps
set_option maxHeartbeats 4000000 in
set_option maxRecDepth 100000 in
theorem owners_c (v0 : Value) (l : List It) (w : World) (hR : RdT w v0 l) (hd : Dis l) (hn : l.length ≤ 128) (hs : ∀ (j : Nat) (t : It), l[j]? = some t → I64 t.c ∧ I64 t.o) :
    Calls Try.prog 24 #[v0] w fun e w' => ∃ g, e = .returned (.slice (some ⟨g, 0, none⟩) l.length l.length) ∧ Blk w' g 3 (arrI (ofL l (ow l))) ∧ w.heap.size ≤ g ∧ Below w.heap.size w w' := by
  have hR0 := hR
  obtain ⟨p, c, rfl, hcell⟩ := hR
  have HP := Lib.hid (places_c _ l w hR0 hn fun j t ht => (hs j t ht).1)
  have HER := Lib.hid (fun b o c n g n2 i f x W => endsRing_c b o c n g n2 i l f x W hd)
  have HFE := Lib.hid (fk_end hd)
  have HR := Lib.hid hR0
  have HD := Lib.hid hd
  have HS := Lib.hid hs
  obtain ⟨n, hln⟩ : ∃ n, n = l.length := ⟨_, rfl⟩
  rw [← hln] at hn ⊢ HP HR HFE
  have hmk := fun W => make_c n hn W
  have HN := Lib.hid hln
  clear hcell hR0 hd hs hln
  go_enter Try.func24, Try.ntmps24
  go_wp2_with fail
  refine HP.out.mono ?_
  rintro e w1 ⟨b, f, m, rfl, hM, hP, hbs, hb⟩
  obtain ⟨w2, hw2⟩ : ∃ w2, w2 = w1.alloc (.cells (arrI (List.replicate n 0)) 3) := ⟨_, rfl⟩
  have hQ2 : Blk w2 w1.heap.size 3 (arrI (List.replicate n 0)) := by rw [hw2]; exact Blk.new _ _ _
  have hM2 : MapP w2 b f m := by rw [hw2]; exact hM.alloc _
  have hB2 : Below w.heap.size w w2 := by rw [hw2]; exact hb.alloc hb.size _
  obtain ⟨g, hg⟩ : ∃ g, g = w1.heap.size := ⟨_, rfl⟩
  have HGW : Hid (w.heap.size ≤ g) := by rw [hg]; exact hb.size
  have hbg : b ≠ g := by rw [hg]; exact Nat.ne_of_lt hM.lt
  have HBG := Lib.hid hbg
  rw [← hg] at hQ2
  have HPL : Hid (Pls l l.length f m) := by have := HN.out; rw [← this]; exact hP
  have HW2 := Lib.hid hw2
  have HG := Lib.hid hg
  clear hM hP hbs hb hbg hw2 hg
  go_upto_region 4 with fail
  rewrite [← HW2.out, ← HG.out]
  clear HW2 HG
  go_loopw [17] (fun z wr => ∃ (k : Nat) (zs : List Int), k ≤ n ∧ z = .int .i64 k ∧ Below w.heap.size w wr ∧ MapP wr b f m ∧ Blk wr g 3 (arrI zs) ∧ Asd (zs.length = n ∧ ∀ (j : Nat) (x : It), j < k → l[j]? = some x → zs[j]? = some (encp l (nx l x.c)))) (fun z _ => n - (intOf z).toNat)
  case atStart => exact ⟨0, _, Nat.zero_le _, rfl, hB2, hM2, hQ2, by simp, fun j _ hj => absurd hj (Nat.not_lt_zero j)⟩
  case round =>
    clear hB2 hM2 hQ2
    obtain ⟨k, zs, hk, rfl, hB, hM, hQ, hA⟩ := hrel
    have HA := Lib.hid (show zs.length = n ∧ ∀ (j : Nat) (x : It), j < k → l[j]? = some x → zs[j]? = some (encp l (nx l x.c)) from hA)
    clear hA
    by_cases hlt : k < n
    · obtain ⟨x, hx⟩ : ∃ x, l[k]? = some x := ⟨_, List.getElem?_eq_getElem (by rw [← HN.out]; exact hlt)⟩
      obtain ⟨bb, o, rfl, hRB⟩ := HR.out.open hx
      obtain ⟨y0, y1, y2, y3, y4, y5⟩ := (hRB.below hB).get hx
      have hi0 : (0 : Int) ≤ (k : Int) := by omega
      have hi1 : (k : Int) < (n : Int) := by omega
      have HX := Lib.hid hx
      have hI := (HS.out k x hx).2
      obtain ⟨wa, hwa⟩ : ∃ u, u = wr.alloc (ItB x) := ⟨_, rfl⟩
      have hQa : Blk wa g 3 (arrI zs) := by rw [hwa]; exact hQ.alloc _
      have hXa : Blk wa wr.heap.size 38 (ItC x) := by rw [hwa]; exact Blk.new _ _ _
      have hMa : MapP wa b f m := by rw [hwa]; exact hM.alloc _
      have hBa : Below w.heap.size w wa := by rw [hwa]; exact hB.alloc hB.size _
      obtain ⟨gx, hgx⟩ : ∃ gx, gx = wr.heap.size := ⟨_, rfl⟩
      have hgg : g ≠ gx := by rw [hgx]; exact Nat.ne_of_lt hQ.lt
      rw [← hgx] at hXa
      have hkz : k < zs.length := by rw [HA.out.1]; exact hlt
      obtain ⟨z0, hz0⟩ : ∃ z, zs[k]? = some z := ⟨_, List.getElem?_eq_getElem hkz⟩
      have cg := hQa.at_ (arrI_at hz0)
      have fg := hQa.frozen k
      obtain ⟨wb, hwb⟩ : ∃ u, u = wa.setCell ⟨g, k, none⟩ (.int .i64 (-1)) := ⟨_, rfl⟩
      have hQb : Blk wb g 3 (arrI (zs.set k (-1))) := by rw [hwb, ← arrI_set]; exact hQa.set_ k _
      have hXb : Blk wb gx 38 (ItC x) := by rw [hwb]; exact hXa.far (p := ⟨g, k, none⟩) hgg.symm _
      have hMb : MapP wb b f m := by rw [hwb]; exact hMa.far (p := ⟨g, k, none⟩) HBG.out _
      have hBb : Below w.heap.size w wb := by rw [hwb]; exact Below.setCell hBa HGW.out _
      have hlk := hMb.look2 hI
      have x2 := hXb.at_ (i := 2) rfl
      have cg2 := hQb.at_ (arrI_at (show (zs.set k (-1))[k]? = some (-1) from List.getElem?_set_self hkz))
      have fg2 := hQb.frozen k
      have HPO := Lib.hid (pls_own HD.out HPL.out hx)
      have HNX : Hid (∀ z, z = encp l (nx l x.c) → ((zs.set k z).length = n ∧ ∀ (j : Nat) (y : It), j < k + 1 → l[j]? = some y → (zs.set k z)[j]? = some (encp l (nx l y.c)))) := fun z hz => by
        refine ⟨by rw [List.length_set]; exact HA.out.1, fun j y hj hy => ?_⟩
        rcases Nat.lt_or_ge j k with h | h
        · rw [List.getElem?_set_ne (by omega)]; exact HA.out.2 j y h hy
        · obtain rfl : j = k := by omega
          rw [HX.out] at hy; injection hy with hy; subst hy
          rw [List.getElem?_set_self hkz, hz]
      have HWA := Lib.hid hwa
      have HWB := Lib.hid hwb
      have HGX := Lib.hid hgx
      have HQb := Lib.hid hQb
      have HMb := Lib.hid hMb
      have HBb := Lib.hid hBb
      clear hRB hx hI hQa hXa hMa hBa hgg hQb hXb hMb hBb hwa hwb hgx hB hM hQ hkz hz0
      go_upto_region 6 with fail
      rewrite [← HWA.out, ← HGX.out]
      clear y0 y1 y2 y3 y4 y5
      go_upto_region 7 with fail
      rewrite [← HWB.out]
      rcases HPO.out with ⟨h1, h2⟩ | ⟨j, h1, hjn, ⟨h2, h3⟩ | ⟨h2, h3⟩⟩
      · rw [h1] at hlk
        have HZ := Lib.hid (HNX.out (-1) (by rw [h2]; rfl))
        have hlk : (Instr.lookup 41 (.map (some b)) (.int .i64 x.o) true).run Try.prog wb = .ok (.tuple #[.int .i64 0, .bool false]) wb := hlk
        clear h1 h2 cg fg cg2 fg2
        go_wp2_with fail
        go_roundw
        case rel => exact ⟨k + 1, _, by omega, by go_num, HBb.out, HMb.out, HQb.out, HZ.out⟩
        case measure => simp [intOf]; omega
      · rw [h1] at hlk
        subst h2
        have HZ := Lib.hid (HNX.out (-1) (by rw [h3]; rfl))
        have hlk : (Instr.lookup 41 (.map (some b)) (.int .i64 x.o) true).run Try.prog wb = .ok (.tuple #[.int .i64 j, .bool true]) wb := hlk
        have e6 : ((j : Int) == (j : Int)) = true := by simp
        clear h1 h3 cg fg cg2 fg2
        go_wp2_with fail
        go_roundw
        case rel => exact ⟨j + 1, _, by omega, by go_num, HBb.out, HMb.out, HQb.out, HZ.out⟩
        case measure => simp [intOf]; omega
      · rw [h1] at hlk
        have HZ := Lib.hid (HNX.out (j : Int) h3.symm)
        have hlk : (Instr.lookup 41 (.map (some b)) (.int .i64 x.o) true).run Try.prog wb = .ok (.tuple #[.int .i64 j, .bool true]) wb := hlk
        have e5 : ¬ ((j : Int) = (k : Int)) := by omega
        have e6 : ((j : Int) == (k : Int)) = false := by simpa using e5
        have HQ9 : Hid (Blk (wb.setCell ⟨g, k, none⟩ (.int .i64 j)) g 3 (arrI (zs.set k (j : Int)))) := by
          have := HQb.out.set_ k (.int .i64 j)
          rw [arrI_set, List.set_set] at this; exact this
        have HM9 := Lib.hid (HMb.out.far (p := ⟨g, k, none⟩) HBG.out (.int .i64 j))
        have HB9 := Lib.hid (Below.setCell (p := ⟨g, k, none⟩) HBb.out HGW.out (.int .i64 j))
        clear h1 h2 h3 cg fg
        go_wp2_with fail
        go_roundw
        case rel => exact ⟨k + 1, _, by omega, by go_num, HB9.out, HM9.out, HQ9.out, HZ.out⟩
        case measure => simp [intOf]; omega
    · obtain rfl : k = n := by omega
      have hzs : zs = ofL l (nx l) := of_all (by rw [HA.out.1, HN.out]) fun j x hx => HA.out.2 j x (by have := (List.getElem?_eq_some_iff.1 hx).1; have := HN.out; omega) hx
      have hQ1 : Blk wr g 3 (arrI (ofL l (fk l 0))) := by rw [fk_zero, ← hzs]; exact hQ
      have HB1 := Lib.hid hB
      have HQ1 := Lib.hid hQ1
      clear hB hM hQ hQ1 hzs HA
      obtain ⟨wo, hwo⟩ : ∃ wo, wo = wr := ⟨_, rfl⟩
      subst hwo
      go_upto_region 12 with fail
      go_loopw [45] (fun z wr => ∃ i : Nat, i ≤ k ∧ z = .int .i64 i ∧ Below w.heap.size w wr ∧ Blk wr g 3 (arrI (ofL l (fk l i)))) (fun z _ => k - (intOf z).toNat)
      case atStart => exact ⟨0, Nat.zero_le _, rfl, HB1.out, HQ1.out⟩
      case round =>
        clear HB1 HQ1
        obtain ⟨i, hi, rfl, hB, hQ⟩ := hrel
        by_cases hlt : i < k
        · obtain ⟨x, hx⟩ : ∃ x, l[i]? = some x := ⟨_, List.getElem?_eq_getElem (by rw [← HN.out]; exact hlt)⟩
          obtain ⟨bb, o, rfl, hRB⟩ := HR.out.open hx
          have hi0 : (0 : Int) ≤ (i : Int) := by omega
          have hi1 : (i : Int) < (k : Int) := by omega
          have HC := Lib.hid (HER.out bb o c k g k i (fk l i) x wr (hRB.below hB) HN.out hn hQ fk_cl hx)
          have HFN := Lib.hid (fk_next HD.out hx)
          rw [fk_cut HD.out hx] at HC
          obtain ⟨cb, hcb⟩ : ∃ cb, cb = cutB l x.c := ⟨_, rfl⟩
          rw [← hcb] at HC HFN
          have HBh := Lib.hid hB
          have HQh := Lib.hid hQ
          have hkz : i < (ofL l (fk l i)).length := by rw [ofL_len, ← HN.out]; exact hlt
          clear hRB hx hcb hB hQ
          go_wp2_with fail
          refine HC.out.mono ?_
          rintro e w3 ⟨rfl, hb⟩
          have hB3 := HBh.out.trans (hb.mono HBh.out.size)
          have hQ3 := HQh.out.next hb
          obtain ⟨z0, hz0⟩ : ∃ z, (ofL l (fk l i))[i]? = some z := ⟨_, List.getElem?_eq_getElem hkz⟩
          have c0 := hQ3.at_ (arrI_at hz0)
          have f0 := hQ3.frozen i
          cases cb
          · have HQ4 : Hid (Blk w3 g 3 (arrI (ofL l (fk l (i + 1))))) := by rw [HFN.out]; exact hQ3
            have HB3 := Lib.hid hB3
            clear hb hB3 hQ3 hkz hz0
            go_wp2_with fail
            go_roundw
            case rel => exact ⟨i + 1, by omega, by go_num, HB3.out, HQ4.out⟩
            case measure => simp [intOf]; omega
          · have HQ4 : Hid (Blk (w3.setCell ⟨g, i, none⟩ (.int .i64 (-1))) g 3 (arrI (ofL l (fk l (i + 1))))) := by
              rw [HFN.out, if_pos rfl, ← arrI_set]; exact hQ3.set_ i _
            have HB3 := Lib.hid (Below.setCell (p := ⟨g, i, none⟩) hB3 HGW.out (.int .i64 (-1)))
            clear hb hB3 hQ3 hkz hz0
            go_wp2_with fail
            go_roundw
            case rel => exact ⟨i + 1, by omega, by go_num, HB3.out, HQ4.out⟩
            case measure => simp [intOf]; omega
        · obtain rfl : i = k := by omega
          rw [HFE.out] at hQ
          go_wp2_with fail
          go_ret
          exact ⟨g, rfl, hQ, HGW.out, hB⟩
end Go.Proofs.Ytgioeijdgoogkaa.Od
