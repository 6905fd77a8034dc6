/- AreaOne, walked. -/
import Derived.Test.YteaeccmlibmmmaaArS
import Derived.Test.YteaeccmlibmmmaaArR
namespace Go.Proofs.Yteaeccmlibmmmaa.Ar
open Go.RowKit Go.Shelf
theorem ChkR.good {l : List Out} {z : Int} (h : ChkR l z) (hz : z = 0) : goodL l := by
  subst hz
  rcases h with ⟨_, h⟩ | ⟨_, h, _⟩ | ⟨_, _, h⟩
  · exact absurd h (by omega)
  · exact h
  · exact absurd h (by omega)
/-- How many screens are counted so far: none with the place, or one. -/
def CntO (p q : Int) (l : List Out) (k n : Nat) : Prop := (n = 0 ∧ ∀ (j : Nat) (x : Out), j < k → l[j]? = some x → hasO p q x = false) ∨ (n = 1 ∧ ∃ (j : Nat) (x : Out), j < k ∧ l[j]? = some x ∧ hasO p q x = true)
theorem CntO.le {p q : Int} {l : List Out} {k n : Nat} (h : CntO p q l k n) : n ≤ 1 := by
  rcases h with ⟨h, _⟩ | ⟨h, _⟩ <;> omega
theorem CntO.start {p q : Int} {l : List Out} : CntO p q l 0 0 := .inl ⟨rfl, fun j _ hj => absurd hj (Nat.not_lt_zero j)⟩
theorem CntO.no {p q : Int} {l : List Out} {k n : Nat} {x : Out} (h : CntO p q l k n) (hx : l[k]? = some x) (hf : hasO p q x = false) : CntO p q l (k + 1) n := by
  rcases h with ⟨h, h2⟩ | ⟨h, j, y, h2, h3, h4⟩
  · refine .inl ⟨h, fun j y hj hy => ?_⟩
    rcases Nat.lt_or_ge j k with h | h
    · exact h2 j y h hy
    · obtain rfl : j = k := by omega
      rw [hx] at hy; injection hy with hy; subst hy; exact hf
  · exact .inr ⟨h, j, y, by omega, h3, h4⟩
theorem CntO.yes {p q : Int} {l : List Out} {k n : Nat} {x : Out} (h : CntO p q l k n) (hg : goodL l) (hx : l[k]? = some x) (hf : hasO p q x = true) : n = 0 ∧ CntO p q l (k + 1) 1 := by
  rcases h with ⟨h, h2⟩ | ⟨h, j, y, h2, h3, h4⟩
  · exact ⟨h, .inr ⟨rfl, k, x, by omega, hx, hf⟩⟩
  · have := good_one hg h3 hx h4 hf; omega
set_option maxHeartbeats 4000000 in
set_option maxRecDepth 100000 in
theorem one_w (v : Value) (l : List Out) (p q : Int) (w : World) (hR : RdK encO 5 w v l) (hn : l.length ≤ 9223372036854775807) (hs : ∀ (j : Nat) (t : Out), l[j]? = some t → t.n.size ≤ maxLen) (hcap : ∀ (p : Option Addr) (n c : Nat), v = .slice p n c → n ≤ c) :
    Calls Try.prog 7 #[v, .agg #[.int .i64 p, .int .i64 q]] w fun e w' => e = .returned (.bool true) ∧ Below w.heap.size w w' := by
  have hQ0 := Blk.new w 36 #[.int .i64 p, .int .i64 q]
  have hB0 := (Below.refl w.heap.size w).alloc (Nat.le_refl _) (.cells #[.int .i64 p, .int .i64 q] 36)
  have HK := Lib.hid (Check_c v l _ (hR.below hB0) hn hs hcap)
  have HNR := Lib.hid (fun (r : Rc) (W : World) (h : Below w.heap.size w W) => Nearest_c v l r W (hR.below h) hn)
  have HAT := Lib.hid (fun (W : World) (h : Below w.heap.size w W) => at_c v l p q W (hR.below h) hn)
  have HFD := Lib.hid (fun (s : ByteArray) (W : World) (h : Below w.heap.size w W) => find_c v l s W (hR.below h) hn)
  have HB0 := Lib.hid hB0
  have HQ0 := Lib.hid hQ0
  obtain ⟨pp, c, rfl, hcell⟩ := hR
  have HC := Lib.hid hcell
  obtain ⟨n, hln⟩ : ∃ n, n = l.length := ⟨_, rfl⟩
  rw [← hln] at hn HK HNR HAT HFD ⊢
  have HN := Lib.hid hln
  have hn2 : 0 ≤ (n : Int) := by omega
  clear hcell hln hB0 hQ0 hs hcap
  go_enter Try.func7, Try.ntmps7
  go_wp2_with fail
  refine HK.out.mono ?_
  rintro e w1 ⟨z, rfl, hz, hb⟩
  have HB1 := Lib.hid (HB0.out.trans (hb.mono HB0.out.size))
  have HQ1 := Lib.hid (HQ0.out.next hb)
  have HZ := Lib.hid hz
  clear hb hz HK HB0 HQ0
  by_cases hz0 : z = 0
  rotate_left
  · go_wp2_with fail
    refine (awake_c w1).mono ?_
    rintro e w2 ⟨rfl, hb⟩
    have HB2 := Lib.hid (HB1.out.trans (hb.mono HB1.out.size))
    clear hb
    go_wp2_with fail
    go_ret
    exact ⟨rfl, HB2.out⟩
  · have HG := Lib.hid (HZ.out.good hz0)
    clear HZ
    subst hz0
    obtain ⟨wo, hwo⟩ : ∃ wo, wo = w1 := ⟨_, rfl⟩
    subst hwo
    go_upto_region 5 with fail
    have hB1 := HB1.out
    have hQ1 := HQ1.out
    go_loopw [5, 6] (fun u z wr => ∃ m k : Nat, k ≤ n ∧ u = .int .i64 m ∧ z = .int .i64 k ∧ Below w.heap.size w wr ∧ Blk wr w.heap.size 36 #[.int .i64 p, .int .i64 q] ∧ Asd (CntO p q l k m)) (fun u z _ => n - (intOf z).toNat)
    case atStart => exact ⟨0, 0, Nat.zero_le _, rfl, rfl, hB1, hQ1, CntO.start⟩
    case round =>
      clear hB1 hQ1 HB1 HQ1
      obtain ⟨m, k, hk, rfl, rfl, hB, hQ, hA⟩ := hrel
      have HA := Lib.hid (show CntO p q l k m from hA)
      clear hA
      by_cases hlt : k < n
      · obtain ⟨x, hx⟩ : ∃ x, l[k]? = some x := ⟨_, List.getElem?_eq_getElem (by rw [← HN.out]; exact hlt)⟩
        obtain ⟨b, o, rfl, hb1, hb2⟩ := HC.out k x hx
        have HX := Lib.hid hx
        have hi0 : (0 : Int) ≤ (k : Int) := by omega
        have hi1 : (k : Int) < (n : Int) := by omega
        have HSS : Hid (∀ W, Below wr.heap.size wr W → W.cell? ⟨w.heap.size, 0, none⟩ = some (.int .i64 p) ∧ W.cell? ⟨w.heap.size, 1, none⟩ = some (.int .i64 q) ∧ W.cell? ⟨b, o + k * 5, none⟩ = some (.string x.n) ∧ W.cell? ⟨b, o + k * 5 + 1, none⟩ = some (.int .i64 x.x) ∧ W.cell? ⟨b, o + k * 5 + 2, none⟩ = some (.int .i64 x.y) ∧ W.cell? ⟨b, o + k * 5 + 3, none⟩ = some (.int .i64 x.w) ∧ W.cell? ⟨b, o + k * 5 + 4, none⟩ = some (.int .i64 x.h)) := fun W h => by
          obtain ⟨⟨a0, a1⟩, -⟩ := (hQ.next h).c2
          obtain ⟨y0, y1, y2, y3, y4⟩ := RdK.out (w := W) (fun i u hu => ((hB.trans (h.mono hB.size)).cell (p := ⟨b, o + k * 5 + i, none⟩) hb1).trans (hb2 i u hu))
          exact ⟨a0, a1, y0, y1, y2, y3, y4⟩
        have HBd := Lib.hid (Below.refl wr.heap.size wr).drew
        have HH := Lib.hid (fun W => has_c x.x x.y x.w x.h p q W)
        obtain ⟨hf, hfe⟩ : ∃ b, b = hasB x.x x.y x.w x.h p q := ⟨_, rfl⟩
        have HFE : Hid (hasO p q x = hf) := hfe.symm
        rw [← hfe] at HH
        have HBB := Lib.hid hB
        have HQQ := Lib.hid hQ
        have HSC : Hid (∀ W, Below wr.heap.size wr W → Below w.heap.size w W ∧ Blk W w.heap.size 36 #[.int .i64 p, .int .i64 q]) := fun W h => ⟨hB.trans (h.mono hB.size), hQ.next h⟩
        clear hb1 hb2 hx hfe hB hQ
        go_upto_region 7 with fail
        refine wp_region_noPanic ?_
        refine wp_region_held_drew (S := fun wx => wx.cell? ⟨w.heap.size, 0, none⟩ = some (.int .i64 p) ∧ wx.cell? ⟨w.heap.size, 1, none⟩ = some (.int .i64 q) ∧ wx.cell? ⟨b, o + k * 5, none⟩ = some (.string x.n) ∧ wx.cell? ⟨b, o + k * 5 + 1, none⟩ = some (.int .i64 x.x) ∧ wx.cell? ⟨b, o + k * 5 + 2, none⟩ = some (.int .i64 x.y) ∧ wx.cell? ⟨b, o + k * 5 + 3, none⟩ = some (.int .i64 x.w) ∧ wx.cell? ⟨b, o + k * 5 + 4, none⟩ = some (.int .i64 x.h)) (by kernel_rfl) (by exact HSS.out _ HBd.out) (fun hHeld => ?_)
        refine wpAnyH_take (i := 0) (v := ?v0) rfl (by kernel_rfl) (by kernel_rfl) (by kernel_rfl) (fun _ _ _ h => h) (Or.inl ⟨by kernel_rfl, ?y0⟩) (by assumption) ?r0
        case y0 => (intro wq hSw; (try dsimp only at hSw); go_simp; (try with_reducible rfl))
        (try simp only [Act.put, List.getElem_toArray, List.getElem_cons_zero, List.setIfInBounds_toArray, List.set_cons_zero, List.set_cons_succ])
        refine wpAnyH_take (i := 1) (v := ?v1) rfl (by kernel_rfl) (by kernel_rfl) (by kernel_rfl) (fun _ _ _ h => h) (Or.inl ⟨by kernel_rfl, ?y1⟩) (by assumption) ?r1
        case y1 => (intro wq hSw; (try dsimp only at hSw); go_simp; (try with_reducible rfl))
        (try simp only [Act.put, List.getElem_toArray, List.getElem_cons_succ, List.getElem_cons_zero, List.setIfInBounds_toArray, List.set_cons_zero, List.set_cons_succ])
        refine wpAnyH_take (i := 2) (v := ?v2) rfl (by kernel_rfl) (by kernel_rfl) (by kernel_rfl) (fun _ _ _ h => h) (Or.inl ⟨by kernel_rfl, ?y2⟩) (by assumption) ?r2
        case y2 => (intro wq hSw; (try dsimp only at hSw); go_simp; (try with_reducible rfl))
        (try simp only [Act.put, List.getElem_toArray, List.getElem_cons_succ, List.getElem_cons_zero, List.setIfInBounds_toArray, List.set_cons_zero, List.set_cons_succ])
        refine wpAnyH_take (i := 3) (v := ?v3) rfl (by kernel_rfl) (by kernel_rfl) (by kernel_rfl) (fun _ _ _ h => h) (Or.inl ⟨by kernel_rfl, ?y3⟩) (by assumption) ?r3
        case y3 => (intro wq hSw; (try dsimp only at hSw); go_simp; (try with_reducible rfl))
        (try simp only [Act.put, List.getElem_toArray, List.getElem_cons_succ, List.getElem_cons_zero, List.setIfInBounds_toArray, List.set_cons_zero, List.set_cons_succ])
        refine wpAnyH_take (i := 4) (v := ?v4) rfl (by kernel_rfl) (by kernel_rfl) (by kernel_rfl) (fun _ _ _ h => h) (Or.inl ⟨by kernel_rfl, ?y4⟩) (by assumption) ?r4
        case y4 => (intro wq hSw; (try dsimp only at hSw); go_simp; (try with_reducible rfl))
        (try simp only [Act.put, List.getElem_toArray, List.getElem_cons_succ, List.getElem_cons_zero, List.setIfInBounds_toArray, List.set_cons_zero, List.set_cons_succ])
        refine wpAnyH_take (i := 5) (v := ?v5) rfl (by kernel_rfl) (by kernel_rfl) (by kernel_rfl) (fun _ _ _ h => h) (Or.inl ⟨by kernel_rfl, ?y5⟩) (by assumption) ?r5
        case y5 => (intro wq hSw; (try dsimp only at hSw); go_simp; (try with_reducible rfl))
        (try simp only [Act.put, List.getElem_toArray, List.getElem_cons_succ, List.getElem_cons_zero, List.setIfInBounds_toArray, List.set_cons_zero, List.set_cons_succ])
        refine wpAnyH_ready (rs := [6]) (by kernel_rfl) (by simp) ?_
        refine AllReadyH.cons rfl (fun K hK => ?_) AllReadyH.nil
        go_simp
        refine (HH.out _).mono ?_
        rintro ex w3 ⟨rfl, hb⟩; have HB3 := Lib.hid (HBd.out.trans (hb.mono HBd.out.size)); have hS3 : w3.cell? ⟨w.heap.size, 0, none⟩ = some (.int .i64 p) ∧ w3.cell? ⟨w.heap.size, 1, none⟩ = some (.int .i64 q) ∧ w3.cell? ⟨b, o + k * 5, none⟩ = some (.string x.n) ∧ w3.cell? ⟨b, o + k * 5 + 1, none⟩ = some (.int .i64 x.x) ∧ w3.cell? ⟨b, o + k * 5 + 2, none⟩ = some (.int .i64 x.y) ∧ w3.cell? ⟨b, o + k * 5 + 3, none⟩ = some (.int .i64 x.w) ∧ w3.cell? ⟨b, o + k * 5 + 4, none⟩ = some (.int .i64 x.h) := HSS.out _ HB3.out; clear hb
        (try dsimp only)
        refine hK.out _ _ (by exact hS3) (fun hHeld => ?_)
        clear hK K
        (try simp only [Act.put, List.getElem_toArray, List.getElem_cons_succ, List.getElem_cons_zero, List.setIfInBounds_toArray, List.set_cons_zero, List.set_cons_succ])
        refine wpAnyH_done (by kernel_rfl) ?_ _
        refine NoPanic.normal ?_
        have HB4 := Lib.hid (HBB.out.trans (HB3.out.mono HBB.out.size))
        have HQ4 := Lib.hid (HQQ.out.next HB3.out)
        cases hf
        · clear hS3 hHeld HSS
          have HA2 := Lib.hid (HA.out.no HX.out HFE.out)
          go_wp2_with fail
          go_roundw
          case rel => exact ⟨m, k + 1, by omega, rfl, by go_num, HB4.out, HQ4.out, HA2.out⟩
          case measure => simp [intOf]; omega
        · obtain ⟨hm0, hA2⟩ := HA.out.yes HG.out HX.out HFE.out
          have HA2 := Lib.hid hA2
          subst hm0
          have e1 : nearI l ⟨p, q, 1, 1⟩ = (k : Int) := good_near HG.out HX.out HFE.out
          have e2 : firI (hasO p q) l = (k : Int) := good_at HG.out HX.out HFE.out
          have e3 : firI (namedO x.n) l = (k : Int) := good_named HG.out HX.out
          have emx : max (k : Int) 0 = (k : Int) := Int.max_eq_left (by omega)
          have edc : decide (0 ≤ (k : Int)) = true := decide_eq_true (by omega)
          have HNR' := Lib.hid (HNR.out ⟨p, q, 1, 1⟩)
          have HFD' := Lib.hid (HFD.out x.n)
          rw [e1, emx, edc] at HNR'
          rw [e2, emx, edc] at HAT
          rw [e3, emx, edc] at HFD'
          obtain ⟨a0, a1, y0, -⟩ := hS3
          clear hHeld e1 e2 e3 emx edc hA2 HH
          obtain ⟨wa, hwa⟩ : ∃ wa, wa = w3 := ⟨_, rfl⟩
          subst hwa
          go_wp2_with fail
          refine (HNR'.out _ HB4.out).mono ?_
          rintro e w4 ⟨rfl, hb⟩
          have HB5 := Lib.hid (HB3.out.trans (hb.mono HB3.out.size))
          clear hb a0 a1 y0
          obtain ⟨a0, a1, y0, -⟩ := HSS.out _ HB5.out
          go_wp2_with fail
          refine (HAT.out _ (HSC.out _ HB5.out).1).mono ?_
          rintro e w5 ⟨rfl, hb⟩
          have HB6 := Lib.hid (HB5.out.trans (hb.mono HB5.out.size))
          clear hb a0 a1 y0
          obtain ⟨a0, a1, y0, -⟩ := HSS.out _ HB6.out
          go_wp2_with fail
          refine (HFD'.out _ (HSC.out _ HB6.out).1).mono ?_
          rintro e w6 ⟨rfl, hb⟩
          have HB7 := Lib.hid (HB6.out.trans (hb.mono HB6.out.size))
          clear hb a0 a1 y0
          obtain ⟨hB9, hQ9⟩ := HSC.out _ HB7.out
          have HB9 := Lib.hid hB9
          have HQ9 := Lib.hid hQ9
          clear hB9 hQ9
          go_wp2_with fail
          go_roundw
          case rel => exact ⟨1, k + 1, by omega, by go_num, by go_num, HB9.out, HQ9.out, HA2.out⟩
          case measure => simp [intOf]; omega
      · have hm := HA.out.le
        have hm1 : (m : Int) ≤ 1 := by omega
        have HB2 := Lib.hid hB
        clear hB hQ
        go_wp2_with fail
        refine (awake_c wr).mono ?_
        rintro e w2 ⟨rfl, hb⟩
        have HB3 := Lib.hid (HB2.out.trans (hb.mono HB2.out.size))
        clear hb
        go_wp2_with fail
        go_ret
        exact ⟨rfl, HB3.out⟩
end Go.Proofs.Yteaeccmlibmmmaa.Ar
