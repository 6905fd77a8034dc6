/- OrderSound, walked. -/
import Derived.Test.YtgioeijdgoogkaaOdV
namespace Go.Proofs.Ytgioeijdgoogkaa.Od
open Go.RowKit Go.Maps Go.Shelf
set_option linter.unusedVariables false
set_option linter.unusedSimpArgs false
set_option maxHeartbeats 1000000 in
theorem where_c (v : Value) (xs : List Int) (c : Int) (m : Nat) (w : World) (hR : RdI w v xs) (hm : xs[m]? = some c) (hno : ∀ j, j < m → xs[j]? ≠ some c) (hn : xs.length ≤ 9223372036854775807) :
    Calls Try.prog 20 #[v, .int .i64 c] w fun e w' => e = .returned (.int .i64 m) ∧ w' = w := by
  have hR0 := hR
  obtain ⟨p, cc, rfl, -⟩ := hR
  obtain ⟨b, o, rfl, hb1, hb2⟩ := hR0.open hm
  have HC := Lib.hid hb2
  have HM := Lib.hid hm
  have HNO := Lib.hid hno
  obtain ⟨n, hln⟩ : ∃ n, n = xs.length := ⟨_, rfl⟩
  rw [← hln] at hn ⊢
  have hmn : m < n := by rw [hln]; exact (List.getElem?_eq_some_iff.1 hm).1
  have HN := Lib.hid hln
  clear hR0 hb1 hb2 hm hno hln
  go_enter Try.func20, Try.ntmps20
  go_wp2_with fail
  go_loopw [5] (fun z wr => ∃ k : Nat, k ≤ m ∧ z = .int .i64 k ∧ wr = w) (fun z _ => m + 1 - (intOf z).toNat)
  case atStart => exact ⟨0, Nat.zero_le _, rfl, rfl⟩
  case round =>
    obtain ⟨k, hk, rfl, rfl⟩ := hrel
    have hi0 : (0 : Int) ≤ (k : Int) := by omega
    have hi1 : (k : Int) < (n : Int) := by omega
    obtain ⟨x, hx⟩ : ∃ x, xs[k]? = some x := ⟨_, List.getElem?_eq_getElem (by rw [← HN.out]; omega)⟩
    have c0 := HC.out k x hx
    by_cases hkm : k < m
    · have hxc : ¬ (x = c) := fun e => HNO.out k hkm (by rw [hx, e])
      have e1 : (x == c) = false := by simpa using hxc
      clear hx
      go_wp2_with fail
      go_roundw
      case rel => exact ⟨k + 1, by omega, by go_num, by simp⟩
      case measure => simp [intOf]; omega
    · obtain rfl : k = m := by omega
      rw [HM.out] at hx
      injection hx with hx
      subst hx
      have e1 : (c == c) = true := by simp
      go_wp2_with fail
      go_ret
      exact ⟨rfl, rfl⟩
set_option maxHeartbeats 1000000 in
set_option maxRecDepth 100000 in
theorem sound_w (v0 : Value) (l : List It) (w : World) (hR : RdT w v0 l) (hn : l.length ≤ 9223372036854775807) (hs : OkI l) (hcap : ∀ (p : Option Addr) (n c : Nat), v0 = .slice p n c → n ≤ c) :
    Calls Try.prog 5 #[v0] w fun e w' => e = .returned (.bool true) ∧ Below w.heap.size w w' := by
  have HO1 := Lib.hid (Order_c v0 l w hR hs)
  have HO2 := Lib.hid (fun (W : World) (h : Below w.heap.size w W) => Owners_c v0 l W (hR.below h) hs)
  have HO3 := Lib.hid (fun (W : World) (h : Below w.heap.size w W) => Bands_c v0 l W (hR.below h) hs)
  have HPL := Lib.hid (fun c (W : World) (h : Below w.heap.size w W) hn => place_c v0 l c W (hR.below h) hn)
  have HAW := Lib.hid (fun W => awake_c W)
  have HR0 := Lib.hid hR
  obtain ⟨p, c, rfl, -⟩ := hR
  obtain ⟨n, hln⟩ : ∃ n, n = l.length := ⟨_, rfl⟩
  rw [← hln] at HO1 HO2 HO3 HPL HR0 hn ⊢
  have HN := Lib.hid hln
  clear hs hcap hln hn
  go_enter Try.func5, Try.ntmps5
  go_wp2_with fail
  refine HO1.out.mono ?_
  rintro e w1 ⟨v1, a, z, rfl, hr1, ⟨hz, ho1⟩, hb⟩
  have HB1 := Lib.hid hb
  have HR1 := Lib.hid hr1
  have HZ := Lib.hid hz
  obtain ⟨q, cq, rfl, -⟩ := hr1
  clear hb hz HO1
  rcases ho1 with ⟨hz0, rfl⟩ | ⟨hz0, hor⟩
  · have e1 : (z == 0) = false := by simpa using hz0
    go_wp2_with fail
    refine (HAW.out w1).mono ?_
    rintro e w3 ⟨rfl, hb⟩
    have HB3 := Lib.hid (HB1.out.trans (hb.mono HB1.out.size))
    clear hb
    go_wp2_with fail
    go_ret
    exact ⟨rfl, HB3.out⟩
  · have HG := Lib.hid (HZ.out.good hz0)
    subst hz0
    have HOR := Lib.hid hor
    have HN128 := Lib.hid (show n ≤ 128 by have := HN.out; have := HG.out.1; omega)
    rw [hor.1, ← HN.out] at HR1 ⊢
    have HC2 := Lib.hid (HO2.out w1 HB1.out)
    clear hor HO2
    go_wp2_with fail
    refine HC2.out.mono ?_
    rintro e w2 ⟨v2, zs2, rfl, hr2, ho2, hb⟩
    obtain rfl : zs2 = l.map (owI l) := ho2.one ⟨0, HZ.out, .inr ⟨rfl, rfl⟩⟩
    have HB2 := Lib.hid (HB1.out.trans (hb.mono HB1.out.size))
    have HR2 := Lib.hid hr2
    have HA2 := Lib.hid (HR1.out.below hb)
    have HC3 := Lib.hid (HO3.out w2 HB2.out)
    clear hb hr2 ho2 HO3 HC2 HR1
    go_wp2_with fail
    refine HC3.out.mono ?_
    rintro e w3 ⟨v3, zs3, rfl, hr3, ho3, hb⟩
    obtain rfl : zs3 = l.map (fun x => bd l x.c) := ho3.one ⟨0, HZ.out, .inr ⟨rfl, rfl⟩⟩
    have HB3 := Lib.hid (HB2.out.trans (hb.mono HB2.out.size))
    have HW3 := Lib.hid (HR2.out.below hb)
    have HA3 := Lib.hid (HA2.out.below hb)
    have HV3 := Lib.hid hr3
    obtain ⟨q2, cq2, rfl, -⟩ := HW3.out
    obtain ⟨q3, cq3, rfl, -⟩ := hr3
    rw [List.length_map, ← HN.out] at HW3 HV3
    simp only [List.length_map, ← HN.out]
    clear hb ho3 HC3 HR2 HA2
    have e1 : ((n : Int) == (n : Int)) = true := by simp
    go_wp2_with fail
    obtain ⟨wo, hwo⟩ : ∃ wo, wo = w3 := ⟨_, rfl⟩
    subst hwo
    go_loopw [7, 8] (fun u z wr => ∃ (i : Nat) (la : Int), i ≤ n ∧ u = .int .i64 la ∧ z = .int .i64 i ∧ Below wo.heap.size wo wr ∧ Asd (∀ c, a[i]? = some c → la ≤ bd l c)) (fun _ z _ => n - (intOf z).toNat)
    case atStart => exact ⟨0, 0, Nat.zero_le _, rfl, rfl, Below.refl _ _, fun c _ => bdo_nn l _ _⟩
    case round =>
      obtain ⟨i, la, hi, rfl, rfl, hB, hA⟩ := hrel
      have HA := Lib.hid (show ∀ c, a[i]? = some c → la ≤ bd l c from hA)
      have HB := Lib.hid hB
      have HBB := Lib.hid (HB3.out.trans (hB.mono HB3.out.size))
      have hn3 : n ≤ 128 := HN128.out
      clear hA hB
      by_cases hlt : i < n
      rotate_left
      · obtain rfl : i = n := by omega
        go_wp2_with fail
        refine (HAW.out wr).mono ?_
        rintro e w4 ⟨rfl, hb⟩
        have HB4 := Lib.hid (HBB.out.trans (hb.mono HBB.out.size))
        clear hb
        go_wp2_with fail
        go_ret
        exact ⟨rfl, HB4.out⟩
      · obtain ⟨ci, hci⟩ : ∃ x, a[i]? = some x := ⟨_, List.getElem?_eq_getElem (by rw [HOR.out.1, ← HN.out]; exact hlt)⟩
        obtain ⟨j, y, hj, rfl, -, hjl, -⟩ := cl_at HG.out.2.1 (HOR.out.mem (List.mem_of_getElem? hci))
        obtain ⟨b, o, rfl, hRB⟩ := HR0.out.open hj
        obtain ⟨ab, ao, rfl, ha1, ha2⟩ := HA3.out.open hci
        obtain ⟨qb, qo, rfl, hq1, hq2⟩ := HW3.out.open (show (l.map (owI l))[j]? = some (owI l y) by rw [List.getElem?_map, hj]; rfl)
        obtain ⟨bb, bo, rfl, hp1, hp2⟩ := HV3.out.open (show (l.map (fun x => bd l x.c))[j]? = some (bd l y.c) by rw [List.getElem?_map, hj]; rfl)
        have hla := HA.out y.c hci
        have hlb : y.b ≤ bd l y.c := by
          have h := bd_le (l := l) (List.mem_map.2 ⟨y, List.mem_of_getElem? hj, rfl⟩)
          rwa [HG.out.2.1.it (List.mem_of_getElem? hj)] at h
        have HNX : Hid (∀ c, a[i + 1]? = some c → bd l y.c ≤ bd l c) := fun c hc => HOR.out.rise1 hci hc
        have hi0 : (0 : Int) ≤ (i : Int) := by omega
        have hi1 : (i : Int) < (n : Int) := by omega
        have hj0 : (0 : Int) ≤ (j : Int) := by omega
        have hj1 : (j : Int) < (n : Int) := by have := HN.out; omega
        have HWH := Lib.hid (fun (m : Nat) (c : Int) (hm : a[m]? = some c) (W : World) (h : Below wo.heap.size wo W) => where_c _ a c m W (HA3.out.below h) hm (fun jj hjj e => by have := HOR.out.inj e hm; omega) (by rw [HOR.out.1]; have := HG.out.1; omega))
        have HP := Lib.hid (HPL.out y.c wr HBB.out (by omega))
        rw [plc_at (show (cl l)[j]? = some y.c by unfold cl; rw [List.getElem?_map, hj]; rfl) HG.out.2.1] at HP
        have HOW : Hid (∀ d, ow l y.c = some d → ∃ m, m < i ∧ a[m]? = some d) := fun d hd => HOR.out.above hci hd
        obtain ⟨bdy, hbdy⟩ : ∃ z, z = bd l y.c := ⟨_, rfl⟩
        rw [← hbdy] at hla hlb HNX
        have HSS : Hid (∀ W, Below wo.heap.size wo W → W.cell? ⟨ab, ao + i, none⟩ = some (.int .i64 y.c) ∧ W.cell? ⟨bb, bo + j, none⟩ = some (.int .i64 bdy) ∧ W.cell? ⟨b, o + j * 6 + 1, none⟩ = some (.int .i64 y.b) ∧ W.cell? ⟨qb, qo + j, none⟩ = some (.int .i64 (owI l y))) := fun W h =>
          ⟨(h.cell (p := ⟨ab, ao + i, none⟩) ha1).trans (ha2 i _ hci), by rw [hbdy]; exact (h.cell (p := ⟨bb, bo + j, none⟩) hp1).trans (hp2 j _ (by rw [List.getElem?_map, hj]; rfl)), ((hRB.below (HB3.out.trans (h.mono HB3.out.size))).get hj).2.1, (h.cell (p := ⟨qb, qo + j, none⟩) hq1).trans (hq2 j _ (by rw [List.getElem?_map, hj]; rfl))⟩
        have HBd := Lib.hid HB.out.drew
        have HW1 := Lib.hid (HWH.out i y.c hci wr.drew HBd.out)
        have HCI := Lib.hid hci
        have d1 : decide ((j : Int) < 0) = false := decide_eq_false (by omega)
        have d2 : decide (bdy < la) = false := decide_eq_false (by omega)
        have d3 : decide (bdy < y.b) = false := decide_eq_false (by omega)
        have d4 : ((i : Int) == (i : Int)) = true := by simp
        have d5 : ¬ (j : Int) < 0 := by omega
        have d6 : ¬ bdy < la := by omega
        have d7 : ¬ bdy < y.b := by omega
        obtain ⟨x1, x2, x3, x4⟩ := HSS.out wr HB.out
        have HS3 : Hid (wr.drew.cell? ⟨ab, ao + i, none⟩ = some (.int .i64 y.c) ∧ wr.drew.cell? ⟨bb, bo + j, none⟩ = some (.int .i64 bdy) ∧ wr.drew.cell? ⟨b, o + j * 6 + 1, none⟩ = some (.int .i64 y.b)) := ⟨x1, x2, x3⟩
        have HJ := Lib.hid hj
        clear hci hj hjl hRB ha1 ha2 hq1 hq2 hp1 hp2 hla hlb hbdy x2 x3 x4
        go_wp2_with fail
        refine HP.out.mono ?_
        rintro e w5 ⟨rfl, rfl⟩
        clear x1
        go_upto_region 12 with fail
        refine wp_region_noPanic ?_
        refine wp_region_held_drew (S := fun wx => wx.cell? ⟨ab, ao + i, none⟩ = some (.int .i64 y.c) ∧ wx.cell? ⟨bb, bo + j, none⟩ = some (.int .i64 bdy) ∧ wx.cell? ⟨b, o + j * 6 + 1, none⟩ = some (.int .i64 y.b)) (by kernel_rfl) (by exact HS3.out) (fun hHeld => ?_)
        refine wpAnyH_take (i := 0) (v := ?v0) rfl (by kernel_rfl) (by kernel_rfl) (by kernel_rfl) (fun _ _ _ h => h) (Or.inl ⟨by kernel_rfl, ?y0⟩) (by assumption) ?r0
        case y0 => (intro wq hSw; (try dsimp only at hSw); go_simp; (try with_reducible rfl))
        (try simp only [Act.put, List.getElem_toArray, List.getElem_cons_zero, List.setIfInBounds_toArray, List.set_cons_zero, List.set_cons_succ])
        refine wpAnyH_take (i := 1) (v := ?v1) rfl (by kernel_rfl) (by kernel_rfl) (by kernel_rfl) (fun _ _ _ h => h) (Or.inl ⟨by kernel_rfl, ?y1⟩) (by assumption) ?r1
        case y1 => (intro wq hSw; (try dsimp only at hSw); go_simp; (try with_reducible rfl))
        (try simp only [Act.put, List.getElem_toArray, List.getElem_cons_succ, List.getElem_cons_zero, List.setIfInBounds_toArray, List.set_cons_zero, List.set_cons_succ])
        refine wpAnyH_take (i := 2) (v := ?v2) rfl (by kernel_rfl) (by kernel_rfl) (by kernel_rfl) (fun _ _ _ h => h) (Or.inl ⟨by kernel_rfl, ?y2⟩) (by assumption) ?r2
        case y2 => (intro wq hSw; (try dsimp only at hSw); go_simp; (try with_reducible rfl))
        (try simp only [Act.put, List.getElem_toArray, List.getElem_cons_succ, List.getElem_cons_zero, List.setIfInBounds_toArray, List.set_cons_zero, List.set_cons_succ])
        refine wpAnyH_take (i := 3) (v := ?v3) rfl (by kernel_rfl) (by kernel_rfl) (by kernel_rfl) (fun _ _ _ h => h) (Or.inl ⟨by kernel_rfl, ?y3⟩) (by assumption) ?r3
        case y3 => (intro wq hSw; (try dsimp only at hSw); go_simp; (try with_reducible rfl))
        (try simp only [Act.put, List.getElem_toArray, List.getElem_cons_succ, List.getElem_cons_zero, List.setIfInBounds_toArray, List.set_cons_zero, List.set_cons_succ])
        refine wpAnyH_take (i := 4) (v := ?v4) rfl (by kernel_rfl) (by kernel_rfl) (by kernel_rfl) (fun _ _ _ h => h) (Or.inl ⟨by kernel_rfl, ?y4⟩) (by assumption) ?r4
        case y4 => (intro wq hSw; (try dsimp only at hSw); go_simp; (try with_reducible rfl))
        (try simp only [Act.put, List.getElem_toArray, List.getElem_cons_succ, List.getElem_cons_zero, List.setIfInBounds_toArray, List.set_cons_zero, List.set_cons_succ])
        refine wpAnyH_take (i := 5) (v := ?v5) rfl (by kernel_rfl) (by kernel_rfl) (by kernel_rfl) (fun _ _ _ h => h) (Or.inl ⟨by kernel_rfl, ?y5⟩) (by assumption) ?r5
        case y5 => (intro wq hSw; (try dsimp only at hSw); go_simp; (try with_reducible rfl))
        (try simp only [Act.put, List.getElem_toArray, List.getElem_cons_succ, List.getElem_cons_zero, List.setIfInBounds_toArray, List.set_cons_zero, List.set_cons_succ])
        refine wpAnyH_take (i := 6) (v := ?v6) rfl (by kernel_rfl) (by kernel_rfl) (by kernel_rfl) (fun _ _ _ h => h) (Or.inl ⟨by kernel_rfl, ?y6⟩) (by assumption) ?r6
        case y6 => (intro wq hSw; (try dsimp only at hSw); go_simp; (try with_reducible rfl))
        (try simp only [Act.put, List.getElem_toArray, List.getElem_cons_succ, List.getElem_cons_zero, List.setIfInBounds_toArray, List.set_cons_zero, List.set_cons_succ])
        refine wpAnyH_take (i := 7) (v := ?v7) rfl (by kernel_rfl) (by kernel_rfl) (by kernel_rfl) (fun _ _ _ h => h) (Or.inl ⟨by kernel_rfl, ?y7⟩) (by assumption) ?r7
        case y7 => (intro wq hSw; (try dsimp only at hSw); go_simp; (try with_reducible rfl))
        (try simp only [Act.put, List.getElem_toArray, List.getElem_cons_succ, List.getElem_cons_zero, List.setIfInBounds_toArray, List.set_cons_zero, List.set_cons_succ])
        refine wpAnyH_take (i := 9) (v := ?v9) rfl (by kernel_rfl) (by kernel_rfl) (by kernel_rfl) (fun _ _ _ h => h) (Or.inl ⟨by kernel_rfl, ?y9⟩) (by assumption) ?r9
        case y9 => (intro wq hSw; (try dsimp only at hSw); go_simp; (try with_reducible rfl))
        (try simp only [Act.put, List.getElem_toArray, List.getElem_cons_succ, List.getElem_cons_zero, List.setIfInBounds_toArray, List.set_cons_zero, List.set_cons_succ])
        refine wpAnyH_ready (rs := [8]) (by kernel_rfl) (by simp) ?_
        refine AllReadyH.cons rfl (fun K hK => ?_) AllReadyH.nil
        go_simp
        refine (HW1.out).mono ?_
        rintro e w6 ⟨rfl, rfl⟩
        (try dsimp only)
        refine hK.out _ _ (by exact HS3.out) (fun hHeld => ?_)
        clear hK K
        (try simp only [Act.put, List.getElem_toArray, List.getElem_cons_succ, List.getElem_cons_zero, List.setIfInBounds_toArray, List.set_cons_zero, List.set_cons_succ])
        refine wpAnyH_take (i := 10) (v := ?v10) rfl (by kernel_rfl) (by kernel_rfl) (by kernel_rfl) (fun _ _ _ h => h) (Or.inl ⟨by kernel_rfl, ?y10⟩) (by assumption) ?r10
        case y10 => (intro wq hSw; (try dsimp only at hSw); go_simp; (try with_reducible rfl))
        (try simp only [Act.put, List.getElem_toArray, List.getElem_cons_succ, List.getElem_cons_zero, List.setIfInBounds_toArray, List.set_cons_zero, List.set_cons_succ])
        refine wpAnyH_take (i := 11) (v := ?v11) rfl (by kernel_rfl) (by kernel_rfl) (by kernel_rfl) (fun _ _ _ h => h) (Or.inl ⟨by kernel_rfl, ?y11⟩) (by assumption) ?r11
        case y11 => (intro wq hSw; (try dsimp only at hSw); go_simp; (try with_reducible rfl))
        (try simp only [Act.put, List.getElem_toArray, List.getElem_cons_succ, List.getElem_cons_zero, List.setIfInBounds_toArray, List.set_cons_zero, List.set_cons_succ])
        refine wpAnyH_take (i := 12) (v := ?v12) rfl (by kernel_rfl) (by kernel_rfl) (by kernel_rfl) (fun _ _ _ h => h) (Or.inl ⟨by kernel_rfl, ?y12⟩) (by assumption) ?r12
        case y12 => (intro wq hSw; (try dsimp only at hSw); go_simp; (try with_reducible rfl))
        (try simp only [Act.put, List.getElem_toArray, List.getElem_cons_succ, List.getElem_cons_zero, List.setIfInBounds_toArray, List.set_cons_zero, List.set_cons_succ])
        refine wpAnyH_take (i := 13) (v := ?v13) rfl (by kernel_rfl) (by kernel_rfl) (by kernel_rfl) (fun _ _ _ h => h) (Or.inl ⟨by kernel_rfl, ?y13⟩) (by assumption) ?r13
        case y13 => (intro wq hSw; (try dsimp only at hSw); go_simp; (try with_reducible rfl))
        (try simp only [Act.put, List.getElem_toArray, List.getElem_cons_succ, List.getElem_cons_zero, List.setIfInBounds_toArray, List.set_cons_zero, List.set_cons_succ])
        refine wpAnyH_take (i := 14) (v := ?v14) rfl (by kernel_rfl) (by kernel_rfl) (by kernel_rfl) (fun _ _ _ h => h) (Or.inl ⟨by kernel_rfl, ?y14⟩) (by assumption) ?r14
        case y14 => (intro wq hSw; (try dsimp only at hSw); go_simp; (try with_reducible rfl))
        (try simp only [Act.put, List.getElem_toArray, List.getElem_cons_succ, List.getElem_cons_zero, List.setIfInBounds_toArray, List.set_cons_zero, List.set_cons_succ])
        refine wpAnyH_take (i := 15) (v := ?v15) rfl (by kernel_rfl) (by kernel_rfl) (by kernel_rfl) (fun _ _ _ h => h) (Or.inl ⟨by kernel_rfl, ?y15⟩) (by assumption) ?r15
        case y15 => (intro wq hSw; (try dsimp only at hSw); go_simp; (try with_reducible rfl))
        (try simp only [Act.put, List.getElem_toArray, List.getElem_cons_succ, List.getElem_cons_zero, List.setIfInBounds_toArray, List.set_cons_zero, List.set_cons_succ])
        refine wpAnyH_take (i := 16) (v := ?v16) rfl (by kernel_rfl) (by kernel_rfl) (by kernel_rfl) (fun _ _ _ h => h) (Or.inl ⟨by kernel_rfl, ?y16⟩) (by assumption) ?r16
        case y16 => (intro wq hSw; (try dsimp only at hSw); go_simp; (try with_reducible rfl))
        (try simp only [Act.put, List.getElem_toArray, List.getElem_cons_succ, List.getElem_cons_zero, List.setIfInBounds_toArray, List.set_cons_zero, List.set_cons_succ])
        refine wpAnyH_take (i := 17) (v := ?v17) rfl (by kernel_rfl) (by kernel_rfl) (by kernel_rfl) (fun _ _ _ h => h) (Or.inl ⟨by kernel_rfl, ?y17⟩) (by assumption) ?r17
        case y17 => (intro wq hSw; (try dsimp only at hSw); go_simp; (try with_reducible rfl))
        (try simp only [Act.put, List.getElem_toArray, List.getElem_cons_succ, List.getElem_cons_zero, List.setIfInBounds_toArray, List.set_cons_zero, List.set_cons_succ])
        refine wpAnyH_take (i := 18) (v := ?v18) rfl (by kernel_rfl) (by kernel_rfl) (by kernel_rfl) (fun _ _ _ h => h) (Or.inl ⟨by kernel_rfl, ?y18⟩) (by assumption) ?r18
        case y18 => (intro wq hSw; (try dsimp only at hSw); go_simp; (try with_reducible rfl))
        (try simp only [Act.put, List.getElem_toArray, List.getElem_cons_succ, List.getElem_cons_zero, List.setIfInBounds_toArray, List.set_cons_zero, List.set_cons_succ])
        refine wpAnyH_take (i := 19) (v := ?v19) rfl (by kernel_rfl) (by kernel_rfl) (by kernel_rfl) (fun _ _ _ h => h) (Or.inl ⟨by kernel_rfl, ?y19⟩) (by assumption) ?r19
        case y19 => (intro wq hSw; (try dsimp only at hSw); go_simp; (try with_reducible rfl))
        (try simp only [Act.put, List.getElem_toArray, List.getElem_cons_succ, List.getElem_cons_zero, List.setIfInBounds_toArray, List.set_cons_zero, List.set_cons_succ])
        refine wpAnyH_take (i := 20) (v := ?v20) rfl (by kernel_rfl) (by kernel_rfl) (by kernel_rfl) (fun _ _ _ h => h) (Or.inl ⟨by kernel_rfl, ?y20⟩) (by assumption) ?r20
        case y20 => (intro wq hSw; (try dsimp only at hSw); go_simp; (try with_reducible rfl))
        (try simp only [Act.put, List.getElem_toArray, List.getElem_cons_succ, List.getElem_cons_zero, List.setIfInBounds_toArray, List.set_cons_zero, List.set_cons_succ])
        refine wpAnyH_take (i := 21) (v := ?v21) rfl (by kernel_rfl) (by kernel_rfl) (by kernel_rfl) (fun _ _ _ h => h) (Or.inl ⟨by kernel_rfl, ?y21⟩) (by assumption) ?r21
        case y21 => (intro wq hSw; (try dsimp only at hSw); go_simp; (try with_reducible rfl))
        (try simp only [Act.put, List.getElem_toArray, List.getElem_cons_succ, List.getElem_cons_zero, List.setIfInBounds_toArray, List.set_cons_zero, List.set_cons_succ])
        refine wpAnyH_take (i := 22) (v := ?v22) rfl (by kernel_rfl) (by kernel_rfl) (by kernel_rfl) (fun _ _ _ h => h) (Or.inl ⟨by kernel_rfl, ?y22⟩) (by assumption) ?r22
        case y22 => (intro wq hSw; (try dsimp only at hSw); go_simp; (try with_reducible rfl))
        (try simp only [Act.put, List.getElem_toArray, List.getElem_cons_succ, List.getElem_cons_zero, List.setIfInBounds_toArray, List.set_cons_zero, List.set_cons_succ])
        refine wpAnyH_take (i := 23) (v := ?v23) rfl (by kernel_rfl) (by kernel_rfl) (by kernel_rfl) (fun _ _ _ h => h) (Or.inl ⟨by kernel_rfl, ?y23⟩) (by assumption) ?r23
        case y23 => (intro wq hSw; (try dsimp only at hSw); go_simp; (try with_reducible rfl))
        (try simp only [Act.put, List.getElem_toArray, List.getElem_cons_succ, List.getElem_cons_zero, List.setIfInBounds_toArray, List.set_cons_zero, List.set_cons_succ])
        refine wpAnyH_take (i := 24) (v := ?v24) rfl (by kernel_rfl) (by kernel_rfl) (by kernel_rfl) (fun _ _ _ h => h) (Or.inl ⟨by kernel_rfl, ?y24⟩) (by assumption) ?r24
        case y24 => (intro wq hSw; (try dsimp only at hSw); go_simp; (try with_reducible rfl))
        (try simp only [Act.put, List.getElem_toArray, List.getElem_cons_succ, List.getElem_cons_zero, List.setIfInBounds_toArray, List.set_cons_zero, List.set_cons_succ])
        refine wpAnyH_take (i := 25) (v := ?v25) rfl (by kernel_rfl) (by kernel_rfl) (by kernel_rfl) (fun _ _ _ h => h) (Or.inl ⟨by kernel_rfl, ?y25⟩) (by assumption) ?r25
        case y25 => (intro wq hSw; (try dsimp only at hSw); go_simp; (try with_reducible rfl))
        (try simp only [Act.put, List.getElem_toArray, List.getElem_cons_succ, List.getElem_cons_zero, List.setIfInBounds_toArray, List.set_cons_zero, List.set_cons_succ])
        refine wpAnyH_take (i := 26) (v := ?v26) rfl (by kernel_rfl) (by kernel_rfl) (by kernel_rfl) (fun _ _ _ h => h) (Or.inl ⟨by kernel_rfl, ?y26⟩) (by assumption) ?r26
        case y26 => (intro wq hSw; (try dsimp only at hSw); go_simp; (try with_reducible rfl))
        (try simp only [Act.put, List.getElem_toArray, List.getElem_cons_succ, List.getElem_cons_zero, List.setIfInBounds_toArray, List.set_cons_zero, List.set_cons_succ])
        refine wpAnyH_take (i := 27) (v := ?v27) rfl (by kernel_rfl) (by kernel_rfl) (by kernel_rfl) (fun _ _ _ h => h) (Or.inl ⟨by kernel_rfl, ?y27⟩) (by assumption) ?r27
        case y27 => (intro wq hSw; (try dsimp only at hSw); go_simp; (try with_reducible rfl))
        (try simp only [Act.put, List.getElem_toArray, List.getElem_cons_succ, List.getElem_cons_zero, List.setIfInBounds_toArray, List.set_cons_zero, List.set_cons_succ])
        refine wpAnyH_take (i := 28) (v := ?v28) rfl (by kernel_rfl) (by kernel_rfl) (by kernel_rfl) (fun _ _ _ h => h) (Or.inl ⟨by kernel_rfl, ?y28⟩) (by assumption) ?r28
        case y28 => (intro wq hSw; (try dsimp only at hSw); go_simp; (try with_reducible rfl))
        (try simp only [Act.put, List.getElem_toArray, List.getElem_cons_succ, List.getElem_cons_zero, List.setIfInBounds_toArray, List.set_cons_zero, List.set_cons_succ])
        refine wpAnyH_take (i := 29) (v := ?v29) rfl (by kernel_rfl) (by kernel_rfl) (by kernel_rfl) (fun _ _ _ h => h) (Or.inl ⟨by kernel_rfl, ?y29⟩) (by assumption) ?r29
        case y29 => (intro wq hSw; (try dsimp only at hSw); go_simp; (try with_reducible rfl))
        (try simp only [Act.put, List.getElem_toArray, List.getElem_cons_succ, List.getElem_cons_zero, List.setIfInBounds_toArray, List.set_cons_zero, List.set_cons_succ])
        refine wpAnyH_take (i := 30) (v := ?v30) rfl (by kernel_rfl) (by kernel_rfl) (by kernel_rfl) (fun _ _ _ h => h) (Or.inl ⟨by kernel_rfl, ?y30⟩) (by assumption) ?r30
        case y30 => (intro wq hSw; (try dsimp only at hSw); go_simp; (try with_reducible rfl))
        (try simp only [Act.put, List.getElem_toArray, List.getElem_cons_succ, List.getElem_cons_zero, List.setIfInBounds_toArray, List.set_cons_zero, List.set_cons_succ])
        refine wpAnyH_take (i := 31) (v := ?v31) rfl (by kernel_rfl) (by kernel_rfl) (by kernel_rfl) (fun _ _ _ h => h) (Or.inl ⟨by kernel_rfl, ?y31⟩) (by assumption) ?r31
        case y31 => (intro wq hSw; (try dsimp only at hSw); go_simp; (try with_reducible rfl))
        (try simp only [Act.put, List.getElem_toArray, List.getElem_cons_succ, List.getElem_cons_zero, List.setIfInBounds_toArray, List.set_cons_zero, List.set_cons_succ])
        refine wpAnyH_done (by kernel_rfl) ?_ _
        refine NoPanic.normal ?_
        clear hHeld
        obtain ⟨x1, x2, x3, x4⟩ := HSS.out w5.drew HBd.out
        clear x1 x3
        cases hoy : ow l y.c with
        | none =>
          have e0 : owI l y = 0 := by unfold owI; rw [hoy]; rfl
          rw [e0] at x4
          clear hoy e0 HSS
          go_wp2_with fail
          go_roundw
          case rel => exact ⟨i + 1, bdy, by omega, by simp, by go_num, HBd.out, HNX.out⟩
          case measure => simp [intOf]; omega
        | some d =>
          obtain ⟨m, hmi, hma⟩ := HOW.out d hoy
          have e0 : owI l y = d := by unfold owI; rw [hoy]; rfl
          rw [e0] at x4
          have hdc := ow_cl _ _ hoy
          obtain ⟨dt, hdt, hdc2⟩ := List.mem_map.1 hdc
          have hcp := okT_parts (HG.out.2.2 dt hdt)
          have hd0 : ¬ (d = 0) := by omega
          have f1 : (d == 0) = false := by simpa using hd0
          have f2 : ¬ ((i : Int) ≤ (m : Int)) := by omega
          have f3 : ¬ ((m : Int) < 0) := by omega
          have HW2 := Lib.hid (HWH.out m d hma w5.drew HBd.out)
          clear hoy e0 hdc hdt hdc2 hcp hma hmi HSS
          go_wp2_with fail
          refine HW2.out.mono ?_
          rintro e w6 ⟨rfl, rfl⟩
          go_wp2_with fail
          refine HW2.out.mono ?_
          rintro e w7 ⟨rfl, rfl⟩
          go_wp2_with fail
          go_roundw
          case rel => exact ⟨i + 1, bdy, by omega, by simp, by go_num, HBd.out, HNX.out⟩
          case measure => simp [intOf]; omega
end Go.Proofs.Ytgioeijdgoogkaa.Od
