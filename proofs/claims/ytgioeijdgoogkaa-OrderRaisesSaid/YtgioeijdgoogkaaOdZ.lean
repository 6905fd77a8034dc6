/- OrderRaises, walked. -/
import Derived.Test.YtgioeijdgoogkaaOdX
import Derived.Test.YtgioeijdgoogkaaOdY
namespace Go.Proofs.Ytgioeijdgoogkaa.Od
open Go.RowKit Go.Maps Go.Shelf
set_option linter.unusedVariables false
set_option linter.unusedSimpArgs false
/-- One is raised. -/
def upI (x : It) : It := ⟨x.c, x.b, x.o, x.m, 1099511627777, x.n⟩
theorem cl_up {l : List It} {k : Nat} {x : It} (hx : l[k]? = some x) : cl (l.set k (upI x)) = cl l := by
  unfold cl
  rw [List.map_set]
  apply List.ext_getElem?
  intro j
  by_cases hj : k = j
  · subst hj
    rw [List.getElem?_set_self (by simpa using (List.getElem?_eq_some_iff.1 hx).1), List.getElem?_map, hx]; rfl
  · rw [List.getElem?_set_ne hj]
theorem RdB.up {w : World} {b o k : Nat} {l : List It} {x : It} (h : RdB w b o l) (hx : l[k]? = some x) : RdB (w.setCell ⟨b, o + k * 6 + 4, none⟩ (.int .i64 1099511627777)) b o (l.set k (upI x)) := by
  refine ⟨by simpa [World.setCell] using h.1, fun j y hy i u hu => ?_⟩
  have hi : i < 6 := by have := (List.getElem?_eq_some_iff.1 hu).1; simpa [encT] using this
  have hk := (List.getElem?_eq_some_iff.1 hx).1
  by_cases hjk : k = j
  · subst hjk
    rw [List.getElem?_set_self hk] at hy
    have hy := Option.some.inj hy
    subst hy
    by_cases h4 : i = 4
    · subst h4
      have : u = .int .i64 1099511627777 := by simp [encT, upI] at hu; exact hu.symm
      subst this
      exact World.cell?_setCell_same' _ _ _ (by rw [h.2 k x hx 4 (.int .i64 x.r) rfl]; rfl)
    · rw [World.cell?_setCell_other _ _ _ _ (by intro e; simp only [Addr.mk.injEq] at e; omega)]
      refine h.2 k x hx i u ?_
      rw [← hu]
      match i, hi with
      | 0, _ => rfl
      | 1, _ => rfl
      | 2, _ => rfl
      | 3, _ => rfl
      | 4, _ => exact absurd rfl h4
      | 5, _ => rfl
  · rw [List.getElem?_set_ne hjk] at hy
    rw [World.cell?_setCell_other _ _ _ _ (by intro e; simp only [Addr.mk.injEq] at e; omega)]
    exact h.2 j y hy i u hu
theorem chk_up {l : List It} {k : Nat} {x : It} (hx : l[k]? = some x) (h : ChkR l 0) : ChkR (l.set k (upI x)) 0 := by
  obtain ⟨h1, h2, h3⟩ := h.good rfl
  refine .inr (.inl ⟨by rw [List.length_set]; omega, ⟨by unfold Dis; rw [cl_up hx]; exact h2, fun t ht => ?_⟩, rfl⟩)
  rcases List.mem_or_eq_of_mem_set ht with ht | rfl
  · exact h3 t ht
  · have := okT_parts (h3 x (List.mem_of_getElem? hx))
    unfold okT upI; simp; omega
theorem ok_up {l : List It} {k : Nat} {x : It} (hx : l[k]? = some x) (h : OkI l) : OkI (l.set k (upI x)) := fun j t ht => by
  rcases List.mem_or_eq_of_mem_set (List.mem_of_getElem? ht) with hm | rfl
  · obtain ⟨i, hi⟩ := List.getElem?_of_mem hm
    exact h i t hi
  · exact h k x hx
/-- The first time that one comes there. -/
theorem itr_first {f : Int → Option Int} {c a : Int} {j : Nat} (h : itr f j c = some a) : ∃ J, itr f J c = some a ∧ ∀ q, q < J → itr f q c ≠ some a := by
  induction j using Nat.strongRecOn with
  | ind j ih =>
    by_cases hq : ∃ q, q < j ∧ itr f q c = some a
    · obtain ⟨q, hq, e⟩ := hq
      exact ih q hq e
    · exact ⟨j, h, fun q hqj e => hq ⟨q, hqj, e⟩⟩
set_option maxHeartbeats 1000000 in
set_option maxRecDepth 100000 in
theorem raises_w (v0 : Value) (l : List It) (a : Int) (w : World) (hR : RdT w v0 l) (hn : l.length ≤ 9223372036854775807) (hs : OkI l) (hcap : ∀ (p : Option Addr) (n c : Nat), v0 = .slice p n c → n ≤ c) (ha : (Lit.int .u64 a).wf = true) :
    Calls Try.prog 7 #[v0, .int .u64 a] w fun e w' => e = .returned (.bool true) ∧ Below w.heap.size w w' := by
  have HO := Lib.hid (fun v (m : List It) (W : World) (h : RdT W v m) (hk : OkI m) => Order_c v m W h hk)
  have HOW := Lib.hid (fun v (m : List It) (W : World) (h : RdT W v m) (hk : OkI m) => Owners_c v m W h hk)
  have HBS := Lib.hid (fun v (m : List It) (W : World) (h : RdT W v m) (hk : OkI m) => Bands_c v m W h hk)
  have HPL := Lib.hid (fun v (m : List It) c (W : World) (h : RdT W v m) hn => place_c v m c W h hn)
  have HK := Lib.hid (Check_c v0 l w hR fun j t h => (hs j t h).1)
  have HAW := Lib.hid (fun W => awake_c W)
  have HR0 := Lib.hid hR
  have HS := Lib.hid hs
  have ha0 : 0 ≤ a ∧ a ≤ 18446744073709551615 := by simp [Lit.wf, IntKind.min, IntKind.max, IntKind.signed, IntKind.bits] at ha; omega
  obtain ⟨p, c, rfl, -⟩ := hR
  obtain ⟨n, hln⟩ : ∃ n, n = l.length := ⟨_, rfl⟩
  rw [← hln] at HR0 hn hcap HK ⊢
  have hcap := hcap p n c rfl
  have HN := Lib.hid hln
  clear hs hln ha
  by_cases h0 : n = 0
  · subst h0
    go_enter Try.func7, Try.ntmps7
    go_wp2_with fail
    refine (HAW.out w).mono ?_
    rintro e w4 ⟨rfl, hb⟩
    go_wp2_with fail
    go_ret
    exact ⟨rfl, hb⟩
  · have e1 : ¬ ((n : Int) = 0) := by omega
    have e2 : ((n : Int) == 0) = false := by simpa using h0
    go_enter Try.func7, Try.ntmps7
    go_wp2_with fail
    refine HK.out.mono ?_
    rintro e w1 ⟨z, rfl, hz, hb⟩
    have HB1 := Lib.hid hb
    have HZ := Lib.hid hz
    clear hz hb HK
    by_cases hz0 : z = 0
    rotate_left
    · have g1 : (z == 0) = false := by simpa using hz0
      go_wp2_with fail
      refine (HAW.out w1).mono ?_
      rintro e w4 ⟨rfl, hb⟩
      have HB4 := Lib.hid (HB1.out.trans (hb.mono HB1.out.size))
      clear hb
      go_wp2_with fail
      go_ret
      exact ⟨rfl, HB4.out⟩
    · have HG := Lib.hid (HZ.out.good hz0)
      have HZ0 := Lib.hid (show ChkR l 0 from hz0 ▸ HZ.out)
      subst hz0
      have hn3 : n ≤ 128 := by have := HN.out; have := HG.out.1; omega
      obtain ⟨k, hk⟩ : ∃ k : Nat, (k : Int) = a % (n : Int) := ⟨(a % (n : Int)).toNat, by have := Int.emod_nonneg a (show (n : Int) ≠ 0 by omega); omega⟩
      have hkn : (k : Int) < (n : Int) := by rw [hk]; exact Int.emod_lt_of_pos _ (by omega)
      have hk0 : (0 : Int) ≤ (k : Int) := by omega
      have f1 : IntKind.u64.wrap (n : Int) = (n : Int) := by simp [IntKind.wrap, IntKind.bits, IntKind.signed]; omega
      have f2 : a % (n : Int) = (k : Int) := hk.symm
      have f2' : a.tmod (n : Int) = (k : Int) := by rw [Int.tmod_eq_emod_of_nonneg ha0.1]; exact hk.symm
      have f3 : IntKind.i64.wrap (k : Int) = (k : Int) := IntWalk.i64_in _ (by omega)
      have f4 : IntKind.u64.wrap (k : Int) = (k : Int) := by simp [IntKind.wrap, IntKind.bits, IntKind.signed]; omega
      obtain ⟨xk, hxk⟩ : ∃ x, l[k]? = some x := ⟨_, List.getElem?_eq_getElem (by rw [← HN.out]; omega)⟩
      obtain ⟨b, o, rfl, hRB⟩ := HR0.out.open hxk
      have HXK := Lib.hid hxk
      obtain ⟨wd, hwd⟩ : ∃ u, u = w1.alloc (.cells #[] 38) := ⟨_, rfl⟩
      have HOE := Lib.hid (show OwT wd w.heap.size (.slice (some ⟨w1.heap.size, 0, none⟩) 0 0) [] from OwT.none (by rw [hwd]; exact Blk.new _ _ _) HB1.out.size)
      have hbd : Below w.heap.size w wd := by rw [hwd]; exact HB1.out.alloc HB1.out.size _
      have HBd := Lib.hid hbd
      have HRd := Lib.hid (show RdT wd (.slice (some ⟨b, o, none⟩) n c) l from HR0.out.below hbd)
      have HWD := Lib.hid hwd
      clear hwd hbd hk hxk hRB
      go_upto_region 4 with fail
      go_wp2_with (at_builtin; go_loud (rewrite [← HWD.out]; refine list_read rfl (.tmp 30) (.tmp 31) rfl w.heap.size _ [] rfl HOE.out _ l rfl HRd.out (fun _ _ e => by cases e) (by rw [List.length_nil, Nat.zero_add, ← HN.out]; omega) HBd.out.size ?_; intro v2 w2 ho2 hg2; have HB2 := Lib.hid (OwT.below HBd.out (Nat.le_refl _) HBd.out.size HOE.out hg2); have HO2 := Lib.hid (show OwT w2 w.heap.size v2 l from ho2); clear ho2 hg2))
      have HRo := Lib.hid HO2.out.reads
      obtain ⟨g, cap, hv2, hgw, hfz⟩ : ∃ g cap, v2 = .slice (some ⟨g, 0, none⟩) n cap ∧ w.heap.size ≤ g ∧ ∀ i, w2.frozen? ⟨g, i, none⟩ = false := by
        obtain ⟨hl, h1⟩ := HO2.out
        rcases h1 with ⟨_, hz⟩ | ⟨g, cap, cur, hv, hb, hg, _⟩
        · have := HN.out; omega
        · exact ⟨g, cap, by rw [hv, HN.out], hb, fun i => Blk.frozen (show Blk w2 g _ cur from hg) i⟩
      subst hv2
      obtain ⟨g', o', hg', hRB⟩ := HRo.out.open HXK.out
      injection hg' with hg'
      injection hg' with e3 e4
      subst e3 e4
      have HRB := Lib.hid hRB
      have HGW := Lib.hid hgw
      have HFZ := Lib.hid hfz
      clear hRB hgw hfz HRo HOE HRd HWD HBd
      go_loopw [7] (fun z wr => ∃ i : Nat, i ≤ n ∧ z = .int .i64 i ∧ wr = w2 ∧ Asd (∀ (j : Nat) (y : It), j < i → l[j]? = some y → y.r ≤ 1099511627776)) (fun z _ => n - (intOf z).toNat)
      case atStart => exact ⟨0, Nat.zero_le _, rfl, rfl, fun j y hj => absurd hj (Nat.not_lt_zero j)⟩
      case round =>
        obtain ⟨i, hi, rfl, hwr, hA⟩ := hrel
        subst hwr
        have HA := Lib.hid (show ∀ (j : Nat) (y : It), j < i → l[j]? = some y → y.r ≤ 1099511627776 from hA)
        clear hA
        by_cases hlt : i < n
        · obtain ⟨y, hy⟩ : ∃ x, l[i]? = some x := ⟨_, List.getElem?_eq_getElem (by rw [← HN.out]; exact hlt)⟩
          have tt := HRB.out.get hy
          simp only [Nat.zero_add] at tt
          obtain ⟨t0, t1, t2, t3, t4, t5⟩ := tt
          have hi0 : (0 : Int) ≤ (i : Int) := by omega
          have hi1 : (i : Int) < (n : Int) := by omega
          by_cases hr : 1099511627776 < y.r
          · clear hy
            go_wp2_with fail
            refine (HAW.out _).mono ?_
            rintro e w4 ⟨rfl, hb⟩
            have HB4 := Lib.hid (HB2.out.1.trans (hb.mono HB2.out.1.size))
            clear hb
            go_wp2_with fail
            go_ret
            exact ⟨rfl, HB4.out⟩
          · have HA2 : Hid (∀ (j : Nat) (u : It), j < i + 1 → l[j]? = some u → u.r ≤ 1099511627776) := fun j u hj hu => by
              rcases Nat.lt_or_ge j i with h | h
              · exact HA.out j u h hu
              · obtain rfl : j = i := by omega
                rw [hy] at hu; injection hu with hu; subst hu; omega
            clear hy
            go_wp2_with fail
            go_roundw
            case rel => exact ⟨i + 1, by omega, by go_num, by simp, HA2.out⟩
            case measure => simp [intOf]; omega
        · obtain rfl : i = n := by omega
          have HMAX := Lib.hid (show ∀ t ∈ l, t.r ≤ 1099511627776 from fun t ht => by
            obtain ⟨j, hj⟩ := List.getElem?_of_mem ht
            exact HA.out j t (by have := (List.getElem?_eq_some_iff.1 hj).1; have := HN.out; omega) hj)
          have tt := HRB.out.get HXK.out
          simp only [Nat.zero_add] at tt
          obtain ⟨t0, t1, t2, t3, t4, t5⟩ := tt
          have ff := HFZ.out (k * 6 + 4)
          obtain ⟨M, hM⟩ : ∃ M, M = l.set k (upI xk) := ⟨_, rfl⟩
          obtain ⟨w3, hw3⟩ : ∃ u, u = wr.setCell ⟨g, k * 6 + 4, none⟩ (.int .i64 1099511627777) := ⟨_, rfl⟩
          have HRM := Lib.hid (show RdB w3 g 0 M by rw [hw3, hM]; have := HRB.out.up HXK.out; rwa [Nat.zero_add] at this)
          have HB3 := Lib.hid (show Below w.heap.size w w3 by rw [hw3]; exact Below.setCell (p := ⟨g, k * 6 + 4, none⟩) HB2.out.1 HGW.out _)
          have HCM := Lib.hid (show ChkR M 0 by rw [hM]; exact chk_up HXK.out HZ0.out)
          have HSM := Lib.hid (show OkI M by rw [hM]; exact ok_up HXK.out HS.out)
          have HMK := Lib.hid (show M[k]? = some (upI xk) by rw [hM]; exact List.getElem?_set_self (by have := (List.getElem?_eq_some_iff.1 HXK.out).1; exact this))
          have HNM := Lib.hid (show i = M.length by rw [hM, List.length_set]; exact HN.out)
          have HRR := Lib.hid (show ∀ y ∈ M, y.c ≠ xk.c → y.r < 1099511627777 from fun y hy hne => by
            rw [hM] at hy
            rcases List.mem_or_eq_of_mem_set hy with h | rfl
            · have := HMAX.out y h; omega
            · exact absurd rfl hne)
          have HW3 := Lib.hid hw3
          have HRT := Lib.hid (show RdT w3 (.slice (some ⟨g, 0, none⟩) i cap) M from ⟨_, cap, by rw [← HNM.out], fun j y hy => ⟨g, 0, rfl, HRM.out.1, HRM.out.2 j y hy⟩⟩)
          have HC1 := Lib.hid (HO.out _ M w3 HRT.out HSM.out)
          clear hM hw3
          go_upto_region 11 with fail
          rewrite [← HW3.out]
          clear HW3 t0 t1 t2 t3 t4 t5 ff HRB HFZ HMAX
          go_wp2_with fail
          with_reducible refine HC1.out.mono ?_
          rintro e w4 ⟨v4, al, z4, rfl, hr4, ho4, hb⟩
          have HB4 := Lib.hid (HB3.out.trans (hb.mono HB3.out.size))
          have HR4 := Lib.hid hr4
          have HT4 := Lib.hid (HRT.out.below hb)
          have HM4 := Lib.hid (HRM.out.below hb)
          obtain ⟨hz4, hor⟩ : z4 = 0 ∧ Ord M al := by
            obtain ⟨y1, y2⟩ := ho4
            obtain rfl := y1.one HCM.out
            rcases y2 with ⟨y2, _⟩ | ⟨_, y3⟩
            · exact absurd rfl y2
            · exact ⟨rfl, y3⟩
          subst hz4
          have HOR := Lib.hid hor
          obtain ⟨qa, ca, rfl, -⟩ := hr4
          rw [hor.1, ← HNM.out] at HR4 ⊢
          have HC2 := Lib.hid (HOW.out _ M w4 HT4.out HSM.out)
          clear hb ho4 hor HC1
          go_wp2_with fail
          with_reducible refine HC2.out.mono ?_
          rintro e w5 ⟨v5, zs5, rfl, hr5, ho5, hb⟩
          obtain rfl : zs5 = M.map (owI M) := ho5.one ⟨0, HCM.out, .inr ⟨rfl, rfl⟩⟩
          have HB5 := Lib.hid (HB4.out.trans (hb.mono HB4.out.size))
          have HR5 := Lib.hid hr5
          have HA5 := Lib.hid (HR4.out.below hb)
          have HT5 := Lib.hid (HT4.out.below hb)
          have HM5 := Lib.hid (HM4.out.below hb)
          have HC3 := Lib.hid (HBS.out _ M w5 HT5.out HSM.out)
          clear hb ho5 hr5 HC2 HR4 HT4 HM4
          go_wp2_with fail
          with_reducible refine HC3.out.mono ?_
          rintro e w6 ⟨v6, zs6, rfl, hr6, ho6, hb⟩
          obtain rfl : zs6 = M.map (fun x => bd M x.c) := ho6.one ⟨0, HCM.out, .inr ⟨rfl, rfl⟩⟩
          have HB6 := Lib.hid (HB5.out.trans (hb.mono HB5.out.size))
          have HO6 := Lib.hid (HR5.out.below hb)
          have HA6 := Lib.hid (HA5.out.below hb)
          have HT6 := Lib.hid (HT5.out.below hb)
          have HM6 := Lib.hid (HM5.out.below hb)
          have HV6 := Lib.hid hr6
          obtain ⟨q5, c5, rfl, -⟩ := HO6.out
          obtain ⟨q6, c6, rfl, -⟩ := hr6
          rw [List.length_map, ← HNM.out] at HO6 HV6
          simp only [List.length_map, ← HNM.out]
          clear hb ho6 HC3 HR5 HA5 HT5 HM5
          have HGM := Lib.hid (HCM.out.good rfl)
          obtain ⟨pk, hpk⟩ := List.getElem?_of_mem (HOR.out.all (List.mem_map.2 ⟨upI xk, List.mem_of_getElem? HMK.out, rfl⟩))
          have hpn : pk < i := by have := (List.getElem?_eq_some_iff.1 hpk).1; rw [HOR.out.1, ← HNM.out] at this; exact this
          have HPK := Lib.hid (show al[pk]? = some xk.c from hpk)
          obtain ⟨ab, ao, rfl, ha1, ha2⟩ := HA6.out.open hpk
          obtain ⟨qb, qo, rfl, hq1, hq2⟩ := HO6.out.open (show (M.map (owI M))[k]? = some (owI M (upI xk)) by rw [List.getElem?_map, HMK.out]; rfl)
          obtain ⟨bb, bo, rfl, hp1, hp2⟩ := HV6.out.open (show (M.map (fun x => bd M x.c))[k]? = some (bd M xk.c) by rw [List.getElem?_map, HMK.out]; rfl)
          have HWH := Lib.hid (where_c _ al xk.c pk w6 HA6.out HPK.out (fun jj hjj e => by have := HOR.out.inj e HPK.out; omega) (by rw [HOR.out.1]; have := HGM.out.1; omega))
          have HRW : Hid (∀ (W : World), Below w6.heap.size w6 W → (∀ (j : Nat) (cc : Int), al[j]? = some cc → W.cell? ⟨ab, ao + j, none⟩ = some (.int .i64 cc)) ∧ (∀ (j : Nat) (y : It), M[j]? = some y → W.cell? ⟨qb, qo + j, none⟩ = some (.int .i64 (owI M y)) ∧ W.cell? ⟨bb, bo + j, none⟩ = some (.int .i64 (bd M y.c)))) := fun W h =>
            ⟨fun j cc hc => (h.cell (p := ⟨ab, ao + j, none⟩) ha1).trans (ha2 j cc hc), fun j y hy => ⟨(h.cell (p := ⟨qb, qo + j, none⟩) hq1).trans (hq2 j _ (by rw [List.getElem?_map, hy]; rfl)), (h.cell (p := ⟨bb, bo + j, none⟩) hp1).trans (hp2 j _ (by rw [List.getElem?_map, hy]; rfl))⟩⟩
          have tt := HM6.out.get HMK.out
          simp only [Nat.zero_add] at tt
          obtain ⟨t9, -⟩ := tt
          have t0 : w6.cell? ⟨g, k * 6, none⟩ = some (.int .i64 xk.c) := t9
          clear t9
          have hwr : IntKind.i64.wrap ((pk : Int) + 1) = (pk : Int) + 1 := IntWalk.i64_in _ (by omega)
          have g1 : ((i : Int) == (i : Int)) = true := by simp
          have HKN := Lib.hid hkn
          clear ha1 ha2 hq1 hq2 hp1 hp2 hpk
          go_wp2_with fail
          with_reducible refine HWH.out.mono ?_
          rintro e w7 ⟨rfl, rfl⟩
          obtain ⟨wo, hwo⟩ : ∃ wo, wo = w7 := ⟨_, rfl⟩
          subst hwo
          clear t0
          go_wp2_with fail
          go_loopw [12] (fun z wr => ∃ q : Nat, pk < q ∧ q ≤ i ∧ z = .int .i64 q ∧ Below wo.heap.size wo wr) (fun z _ => i - (intOf z).toNat)
          case atStart => exact ⟨pk + 1, by omega, by omega, by simp, Below.refl _ _⟩
          case round =>
            obtain ⟨q, hpq, hqi, rfl, hB⟩ := hrel
            have HB := Lib.hid hB
            have HBB := Lib.hid (HB6.out.trans (hB.mono HB6.out.size))
            clear hB
            by_cases hlt2 : q < i
            rotate_left
            · obtain rfl : q = i := by omega
              go_wp2_with fail
              refine (HAW.out wr).mono ?_
              rintro e w8 ⟨rfl, hb⟩
              have HB8 := Lib.hid (HBB.out.trans (hb.mono HBB.out.size))
              clear hb
              go_wp2_with fail
              go_ret
              exact ⟨rfl, HB8.out⟩
            · obtain ⟨ci, hci⟩ : ∃ x, al[q]? = some x := ⟨_, List.getElem?_eq_getElem (by rw [HOR.out.1, ← HNM.out]; exact hlt2)⟩
              obtain ⟨j, y, hj, rfl, -, hjl, -⟩ := cl_at HGM.out.2.1 (HOR.out.mem (List.mem_of_getElem? hci))
              have hi0 : (0 : Int) ≤ (q : Int) := by omega
              have hi1 : (q : Int) < (i : Int) := by omega
              have hj0 : (0 : Int) ≤ (j : Int) := by omega
              have hj1 : (j : Int) < (i : Int) := by have := HNM.out; omega
              have x1 := (HRW.out wr HB.out).1 q y.c hci
              have HP := Lib.hid (HPL.out _ M y.c wr (HT6.out.below HB.out) (by have := HNM.out; omega))
              rw [plc_at (show (cl M)[j]? = some y.c by unfold cl; rw [List.getElem?_map, hj]; rfl) HGM.out.2.1] at HP
              have HJ := Lib.hid hj
              have HCI := Lib.hid hci
              have HBd := Lib.hid HB.out.drew
              obtain ⟨bx, hbx⟩ : ∃ z, z = bd M y.c := ⟨_, rfl⟩
              obtain ⟨bk, hbk⟩ : ∃ z, z = bd M xk.c := ⟨_, rfl⟩
              have HS2 : Hid (wr.drew.cell? ⟨bb, bo + j, none⟩ = some (.int .i64 bx) ∧ wr.drew.cell? ⟨bb, bo + k, none⟩ = some (.int .i64 bk)) := ⟨by rw [hbx]; exact ((HRW.out _ HBd.out).2 j y hj).2, by rw [hbk]; exact ((HRW.out _ HBd.out).2 k _ HMK.out).2⟩
              have HTP := Lib.hid (show ¬ bk < bx → ∃ jj, itr (ow M) jj y.c = some xk.c from fun h => by
                refine HOR.out.top HPK.out HCI.out hpq (by omega) fun u hu hne => ?_
                obtain ⟨ut, hut, rfl⟩ := List.mem_map.1 hu
                have e1 := HGM.out.2.1.it hut
                have e2 : it M xk.c = upI xk := HGM.out.2.1.it (List.mem_of_getElem? HMK.out)
                rw [e1, e2]
                exact HRR.out ut hut hne)
              clear hci hj hjl hbx hbk
              go_wp2_with fail
              refine HP.out.mono ?_
              rintro e w8 ⟨rfl, rfl⟩
              go_upto_region 19 with fail
              refine wp_region_noPanic ?_
              refine wp_region_held_drew (S := fun wx => wx.cell? ⟨bb, bo + j, none⟩ = some (.int .i64 bx) ∧ wx.cell? ⟨bb, bo + k, none⟩ = some (.int .i64 bk)) (by kernel_rfl) (by exact HS2.out) (fun hHeld => ?_)
              refine wpAnyH_take (i := 0) (v := ?v0) rfl (by kernel_rfl) (by kernel_rfl) (by kernel_rfl) (fun _ _ _ h => h) (Or.inl ⟨by kernel_rfl, ?y0⟩) (by assumption) ?r0
              case y0 => (intro wq hSw; (try dsimp only at hSw); go_simp; (try with_reducible rfl))
              (try simp only [Act.put, List.getElem_toArray, List.getElem_cons_zero, List.setIfInBounds_toArray, List.set_cons_zero, List.set_cons_succ])
              refine wpAnyH_take (i := 1) (v := ?v1) rfl (by kernel_rfl) (by kernel_rfl) (by kernel_rfl) (fun _ _ _ h => h) (Or.inl ⟨by kernel_rfl, ?y1⟩) (by assumption) ?r1
              case y1 => (intro wq hSw; (try dsimp only at hSw); go_simp; (try with_reducible rfl))
              (try simp only [Act.put, List.getElem_toArray, List.getElem_cons_succ, List.getElem_cons_zero, List.setIfInBounds_toArray, List.set_cons_zero, List.set_cons_succ])
              refine wpAnyH_take (i := 2) (v := ?v2) rfl (by kernel_rfl) (by kernel_rfl) (by kernel_rfl) (fun _ _ _ h => h) (Or.inl ⟨by kernel_rfl, ?y2⟩) (by assumption) ?r2
              case y2 => (intro wq hSw; (try dsimp only at hSw); go_simp; (try with_reducible rfl))
              (try simp only [Act.put, List.getElem_toArray, List.getElem_cons_succ, List.getElem_cons_zero, List.setIfInBounds_toArray, List.set_cons_zero, List.set_cons_succ])
              refine wpAnyH_take (i := 3) (v := ?v3) rfl (by kernel_rfl) (by kernel_rfl) (by kernel_rfl) (fun _ _ _ h => h) (Or.inl ⟨by kernel_rfl, ?y3⟩) (by assumption) ?r3
              case y3 => (intro wq hSw; (try dsimp only at hSw); go_simp; (try with_reducible rfl))
              (try simp only [Act.put, List.getElem_toArray, List.getElem_cons_succ, List.getElem_cons_zero, List.setIfInBounds_toArray, List.set_cons_zero, List.set_cons_succ])
              refine wpAnyH_take (i := 4) (v := ?v4) rfl (by kernel_rfl) (by kernel_rfl) (by kernel_rfl) (fun _ _ _ h => h) (Or.inl ⟨by kernel_rfl, ?y4⟩) (by assumption) ?r4
              case y4 => (intro wq hSw; (try dsimp only at hSw); go_simp; (try with_reducible rfl))
              (try simp only [Act.put, List.getElem_toArray, List.getElem_cons_succ, List.getElem_cons_zero, List.setIfInBounds_toArray, List.set_cons_zero, List.set_cons_succ])
              refine wpAnyH_take (i := 5) (v := ?v5) rfl (by kernel_rfl) (by kernel_rfl) (by kernel_rfl) (fun _ _ _ h => h) (Or.inl ⟨by kernel_rfl, ?y5⟩) (by assumption) ?r5
              case y5 => (intro wq hSw; (try dsimp only at hSw); go_simp; (try with_reducible rfl))
              (try simp only [Act.put, List.getElem_toArray, List.getElem_cons_succ, List.getElem_cons_zero, List.setIfInBounds_toArray, List.set_cons_zero, List.set_cons_succ])
              refine wpAnyH_take (i := 6) (v := ?v6) rfl (by kernel_rfl) (by kernel_rfl) (by kernel_rfl) (fun _ _ _ h => h) (Or.inl ⟨by kernel_rfl, ?y6⟩) (by assumption) ?r6
              case y6 => (intro wq hSw; (try dsimp only at hSw); go_simp; (try with_reducible rfl))
              (try simp only [Act.put, List.getElem_toArray, List.getElem_cons_succ, List.getElem_cons_zero, List.setIfInBounds_toArray, List.set_cons_zero, List.set_cons_succ])
              refine wpAnyH_take (i := 7) (v := ?v7) rfl (by kernel_rfl) (by kernel_rfl) (by kernel_rfl) (fun _ _ _ h => h) (Or.inl ⟨by kernel_rfl, ?y7⟩) (by assumption) ?r7
              case y7 => (intro wq hSw; (try dsimp only at hSw); go_simp; (try with_reducible rfl))
              (try simp only [Act.put, List.getElem_toArray, List.getElem_cons_succ, List.getElem_cons_zero, List.setIfInBounds_toArray, List.set_cons_zero, List.set_cons_succ])
              refine wpAnyH_take (i := 8) (v := ?v8) rfl (by kernel_rfl) (by kernel_rfl) (by kernel_rfl) (fun _ _ _ h => h) (Or.inl ⟨by kernel_rfl, ?y8⟩) (by assumption) ?r8
              case y8 => (intro wq hSw; (try dsimp only at hSw); go_simp; (try with_reducible rfl))
              (try simp only [Act.put, List.getElem_toArray, List.getElem_cons_succ, List.getElem_cons_zero, List.setIfInBounds_toArray, List.set_cons_zero, List.set_cons_succ])
              refine wpAnyH_done (by kernel_rfl) ?_ _
              refine NoPanic.normal ?_
              clear hHeld HS2 x1
              by_cases hgt : bk < bx
              · go_wp2_with fail
                go_roundw
                case rel => exact ⟨q + 1, by omega, by omega, by go_num, HBd.out⟩
                case measure => simp [intOf]; omega
              · obtain ⟨jj, hjj⟩ := HTP.out (by omega)
                obtain ⟨J, hJ, hJm⟩ := itr_first hjj
                have hJn : J < i := by
                  have he := ow_ends (HOR.out.mem (List.mem_of_getElem? HCI.out))
                  rw [← HNM.out] at he
                  rcases Nat.lt_or_ge J i with h | h
                  · exact h
                  · have := itr_le he h; rw [hJ] at this; cases this
                have HJJ := Lib.hid hJ
                have HJM := Lib.hid hJm
                have hgt2 : ¬ (bk < bx) := hgt
                obtain ⟨wp, hwp⟩ : ∃ wp, wp = w8.drew := ⟨_, rfl⟩
                have HBp := Lib.hid (show Below wo.heap.size wo wp from hwp ▸ HBd.out)
                rewrite [← hwp]
                clear hwp hjj hJ hJm HTP HBd HB HBB HP
                go_upto_region 21 with fail
                go_loopw [13, 14] (fun u z wr => ∃ (m j2 : Nat) (y2 : It), m ≤ J ∧ u = .int .i64 j2 ∧ z = .int .i64 m ∧ wr = wp ∧ Asd (M[j2]? = some y2) ∧ Asd (itr (ow M) m y.c = some y2.c)) (fun _ z _ => J + 1 - (intOf z).toNat)
                case atStart => exact ⟨0, j, y, Nat.zero_le _, rfl, rfl, rfl, HJ.out, rfl⟩
                case round =>
                  obtain ⟨m, j2, y2, hmJ, rfl, rfl, hwr9, hA1, hA2⟩ := hrel
                  subst hwr9
                  have HY := Lib.hid (show M[j2]? = some y2 from hA1)
                  have HI := Lib.hid (show itr (ow M) m y.c = some y2.c from hA2)
                  clear hA1 hA2
                  have hk2 : (0 : Int) ≤ (j2 : Int) := by omega
                  have hk3 : (j2 : Int) < (i : Int) := by have := (List.getElem?_eq_some_iff.1 HY.out).1; have := HNM.out; omega
                  have hmi : (m : Int) < (i : Int) := by omega
                  have c0 := ((HRW.out wr HBp.out).2 j2 y2 HY.out).1
                  by_cases hmJ2 : m = J
                  · have hc : y2.c = xk.c := by have h1 := HI.out; rw [hmJ2, HJJ.out] at h1; exact (Option.some.inj h1).symm
                    have hjk : j2 = k := HGM.out.2.1.inj HY.out HMK.out hc
                    subst hjk
                    have g2 : ((j2 : Int) == (j2 : Int)) = true := by simp
                    obtain ⟨oz, hoz⟩ : ∃ z, z = owI M y2 := ⟨_, rfl⟩
                    rw [← hoz] at c0
                    clear hc hoz hmJ2
                    by_cases hz : oz = 0
                    · subst hz
                      go_wp2_with fail
                      go_roundw
                      case rel => exact ⟨q + 1, by omega, by omega, by go_num, HBp.out⟩
                      case measure => simp [intOf]; omega
                    · have g3 : (oz == 0) = false := by simpa using hz
                      go_wp2_with fail
                      go_roundw
                      case rel => exact ⟨q + 1, by omega, by omega, by go_num, HBp.out⟩
                      case measure => simp [intOf]; omega
                  · obtain ⟨d, hd⟩ := itr_some HJJ.out (show m + 1 ≤ J by omega)
                    have hoy : ow M y2.c = some d := by rw [itr_succ HI.out] at hd; exact hd
                    obtain ⟨j3, y3, hj3, rfl, -, hjl3, -⟩ := cl_at HGM.out.2.1 (ow_cl _ _ hoy)
                    have e0 : owI M y2 = y3.c := by unfold owI; rw [hoy]; rfl
                    rw [e0] at c0
                    have hcp := (okT_parts (HGM.out.2.2 y3 (List.mem_of_getElem? hj3)))
                    have hd0 : ¬ (y3.c = 0) := by omega
                    have g3 : (y3.c == 0) = false := by simpa using hd0
                    have hjk : ¬ ((j2 : Int) = (k : Int)) := fun e => by
                      have e : j2 = k := by omega
                      have h1 := HY.out
                      rw [e, HMK.out] at h1
                      have h2 := Option.some.inj h1
                      exact HJM.out m (by omega) (by rw [HI.out, ← h2]; rfl)
                    have g4 : ((j2 : Int) == (k : Int)) = false := beq_eq_false_iff_ne.2 hjk
                    have hjkN : ¬ (j2 = k) := by omega
                    have g5 : (j2 == k) = false := beq_eq_false_iff_ne.2 hjkN
                    have g6 : ((j2 : Int) != (k : Int)) = true := by simp [bne, g4]
                    have g7 : (y3.c != 0) = true := by simp [bne, g3]
                    have HP2 := Lib.hid (HPL.out _ M y3.c wr (HT6.out.below HBp.out) (by have := HNM.out; omega))
                    rw [plc_at (show (cl M)[j3]? = some y3.c by unfold cl; rw [List.getElem?_map, hj3]; rfl) HGM.out.2.1] at HP2
                    have HJ3 := Lib.hid hj3
                    have HI3 := Lib.hid hd
                    clear hd hoy hj3 hjl3 e0 hcp
                    go_wp2_with fail
                    refine HP2.out.mono ?_
                    rintro e w9 ⟨rfl, hw9⟩
                    subst hw9
                    go_wp2_with fail
                    go_roundw
                    case rel => exact ⟨m + 1, j3, y3, by omega, by simp, by go_num, by simp, HJ3.out, HI3.out⟩
                    case measure => simp [intOf]; omega
end Go.Proofs.Ytgioeijdgoogkaa.Od
