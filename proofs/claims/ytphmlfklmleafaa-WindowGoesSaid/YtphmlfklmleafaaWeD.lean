/- WindowSound, walked. -/
import Derived.Test.YtphmlfklmleafaaWeB
import Derived.Test.YtphmlfklmleafaaWeC
namespace Go.Proofs.Ytphmlfklmleafaa
open Go.RowKit Go.Shelf Go.Maps
/-- Two rows of numbers apart: the first one grows. -/
def Twin (w wr : World) (y v : Value) (xs ks : List Int) : Prop := GiS w wr y xs ∧ wr.ownsRow w.heap.size 3 1 v ks.length (ks.map (Value.int .i64)) ∧ ∀ b, v.ownBlock = some b → y.ownBlock ≠ some b
theorem GiS.next {w wr w' : World} {v : Value} {xs : List Int} (h : GiS w wr v xs) (hb : Below wr.heap.size wr w') : GiS w w' v xs := ⟨own_next h.1 hb, hb.on h.2 h.2.size⟩
theorem Twin.next {w wr w' : World} {y v : Value} {xs ks : List Int} (h : Twin w wr y v xs ks) (hb : Below wr.heap.size wr w') : Twin w w' y v xs ks := ⟨h.1.next hb, own_next h.2.1 hb, h.2.2⟩
theorem Twin.of {w wr w' : World} {y v : Value} {xs ks : List Int} (h : GiS w wr y xs) (hk : w'.ownsRow wr.heap.size 3 1 v ks.length (ks.map (Value.int .i64))) (hb : Below wr.heap.size wr w') : Twin w w' y v xs ks :=
  ⟨h.next hb, row_less hk h.2.size, fun b hv hy => by have h1 := (World.ownsRow.lt h.1 b hy).2; have h2 := (World.ownsRow.lt hk b hv).1; omega⟩
theorem Twin.put {w wr w1 : World} {y y' v : Value} {xs ks : List Int} {u : Int} {o : Obj} (h : Twin w wr y v xs ks) (ho : w1.ownsRow w.heap.size 3 1 y' (xs.length + 1) (xs.map (Value.int .i64) ++ [.int .i64 u])) (hg : (wr.alloc o).grownBy w1 y.ownBlock) (hw : y'.ownBlock = y.ownBlock ∨ y'.ownBlock = some (wr.alloc o).heap.size) : Twin w w1 y' v (xs ++ [u]) ks := by
  refine ⟨h.1.put ho hg, (World.ownsRow.alloc h.2.1 o).kept hg ?_, fun b hv hy => ?_⟩
  · cases hv : v.ownBlock with
    | none => exact .inl rfl
    | some b => exact .inr (fun e => h.2.2 b hv e.symm)
  · rcases hw with hw | hw
    · exact h.2.2 b hv (hw.symm.trans hy)
    · rw [hw] at hy
      injection hy with hy
      have h1 := (World.ownsRow.lt h.2.1 b hv).2
      simp at hy
      omega
theorem GiS.get {w wr : World} {v : Value} {xs : List Int} (h : GiS w wr v xs) : ∃ p c, v = .slice p xs.length c ∧ ∀ (j : Nat) (x : Int), xs[j]? = some x → ∃ g, p = some ⟨g, 0, none⟩ ∧ g < wr.heap.size ∧ wr.cell? ⟨g, j, none⟩ = some (.int .i64 x) := row_reads (row_less h.1 (Nat.zero_le _))
theorem Twin.get {w wr : World} {y v : Value} {xs ks : List Int} (h : Twin w wr y v xs ks) : ∃ p c, v = .slice p ks.length c ∧ ∀ (j : Nat) (x : Int), ks[j]? = some x → ∃ g, p = some ⟨g, 0, none⟩ ∧ g < wr.heap.size ∧ wr.cell? ⟨g, j, none⟩ = some (.int .i64 x) := row_reads (row_less h.2.1 (Nat.zero_le _))
theorem Twin.at {w wr : World} {g m cx gk q ck : Nat} {xs ks : List Int} (h : Twin w wr (.slice (some ⟨g, 0, none⟩) m cx) (.slice (some ⟨gk, 0, none⟩) q ck) xs ks) :
    (∀ (j : Nat) (x : Int), xs[j]? = some x → wr.cell? ⟨g, j, none⟩ = some (.int .i64 x)) ∧ ∀ (j : Nat) (x : Int), ks[j]? = some x → wr.cell? ⟨gk, j, none⟩ = some (.int .i64 x) := by
  obtain ⟨p, c, e, h1⟩ := h.1.get
  obtain ⟨p', c', e', h2⟩ := h.get
  injection e with e _ _
  injection e' with e' _ _
  subst e; subst e'
  refine ⟨fun j x hx => ?_, fun j x hx => ?_⟩
  · obtain ⟨g', e1, -, h3⟩ := h1 j x hx
    injection e1 with e1; injection e1 with e1 _ _
    subst e1; exact h3
  · obtain ⟨g', e1, -, h3⟩ := h2 j x hx
    injection e1 with e1; injection e1 with e1 _ _
    subst e1; exact h3
theorem Co.kids2 {R : RT} {L : List Win} {k : Nat} {w0 w : World} {t : Nat} (S : Sane R L k) (hB : Co w0 t R L w) {i : Int} (hi : I64 i) {d : Nd} (hd : ndL R L i = some d) : Calls Try.prog 18 #[treeP t, .int .i64 i] w fun e w' => ∃ v', e = .returned v' ∧ w'.ownsRow w.heap.size 3 1 v' (kidsL L i).length ((kidsL L i).map (Value.int .i64)) ∧ Below w.heap.size w w' := by
  obtain ⟨l, h, -⟩ := hB
  have h1 := kids_c h hi hd (by have := S.kids _ _ hd; omega)
  rw [(ndL_some hd).2] at h1
  exact h1
set_option maxRecDepth 100000 in
set_option maxHeartbeats 4000000 in
theorem sound_w (w : World) (va : Value) (As : List Ac) (hI : IsActs w.heap.size w va As) : Calls Try.prog 4 #[va] w fun e w' => e = .returned (.bool true) ∧ Below w.heap.size w w' := by
  obtain ⟨i0, hi0, hz0, hz1, hz2⟩ := info_parts intInfo
  have HF := Lib.hid (filled_c w va As hI)
  have HA := Lib.hid (fun W => awake_c W)
  clear hI
  go_enter Try.func4, Try.ntmps4
  go_upto_region 2 with (go_at_call 17; ((with_reducible refine (HF.out).mono ?_); rintro e w1 ⟨t, rb, rfl, R, L, hR, hS, hB⟩); have HS := Lib.hid hS; have HB := Lib.hid hB; clear hR hS hB)
  go_wp2_with fail
  obtain ⟨n0, hn0⟩ : ∃ n, n = L.length := ⟨_, rfl⟩
  have HN := Lib.hid hn0
  clear hn0
  go_loopw [5, 6, 7] (fun y5 y6 y7 wr => ∃ (xs : List Int) (n m i : Nat), i ≤ m ∧ y5 = .int .i64 n ∧ y7 = .int .i64 i ∧ Asd (m = n + 1 ∧ xs.length = m) ∧ GiS w1 wr y6 xs ∧ Asd (Out R L xs i)) (fun _ _ y7 _ => 100 - (intOf y7).toNat)
  case atStart => exact ⟨[0], 0, 1, 0, by omega, rfl, rfl, ⟨rfl, rfl⟩, ⟨World.ownsRow_lit w1 #[.int .i64 0] 1 (Nat.le_refl _) (by decide) rfl, (Below.refl _ _).alloc (Nat.le_refl _) _⟩, Out.start⟩
  case round =>
    obtain ⟨xs, n, m, i, him, rfl, rfl, ⟨hmn, hxs⟩, hG, hO⟩ := hrel
    have HO := Lib.hid (show Out R L xs i from hO)
    have HX := Lib.hid (And.intro hmn hxs)
    have hlen := met_len HS.out.toGood HO.out.nodup HO.out.there
    have hmax := HS.out.len
    have hn40 : n ≤ 40 := by omega
    have hm41 : m ≤ 41 := by omega
    obtain ⟨px, cx, rfl, hget⟩ := hG.get
    rw [hxs] at hG ⊢
    have HG := Lib.hid hG
    have HGB := Lib.hid (show Below w1.heap.size w1 wr from hG.2)
    have HGET := Lib.hid hget
    have i0' : (0 : Int) ≤ (i : Int) := by omega
    clear hO hG hxs hlen hmax hget hmn
    by_cases hlt : i < m
    · obtain ⟨y, hy⟩ : ∃ y, xs[i]? = some y := ⟨_, List.getElem?_eq_getElem (by rw [HX.out.2]; exact hlt)⟩
      have i1 : (i : Int) < (m : Int) := by omega
      have i2 : (i : Int) < 100 := by omega
      obtain ⟨g, rfl, hg1, hc1⟩ := HGET.out i y hy
      obtain ⟨d, hd⟩ := HO.out.there y (List.mem_of_getElem? hy)
      have hyn := HS.out.nums hd
      obtain ⟨ks, hks⟩ : ∃ ks, ks = kidsL L y := ⟨_, rfl⟩
      have HK := Lib.hid (fun (W : World) (hW : Below w1.heap.size w1 W) => Co.kids2 HS.out (HB.out.co.next hW) ⟨by omega, by omega⟩ hd)
      rw [← hks] at HK
      have hkl := HS.out.kids _ _ hd
      rw [(ndL_some hd).2, ← hks] at hkl
      obtain ⟨q, hq⟩ : ∃ q, q = ks.length := ⟨_, rfl⟩
      rw [← hq] at HK hkl
      have HKS := Lib.hid (And.intro hks hq)
      have HM := Lib.hid (HO.out.ask hy)
      clear hy hd hyn hks hq hg1
      go_upto_region 10 with (go_at_call 18; go_loud ((with_reducible refine (HK.out wr HGB.out).mono ?_); rintro e w2 ⟨vk, rfl, hok, hbk⟩; rw [HKS.out.2] at hok; have HW := Lib.hid (Twin.of HG.out hok hbk); clear hok hbk))
      clear hc1
      go_wp2_with fail
      go_loopw [5, 6, 9] (fun y5 y6 y9 wr => ∃ (xs : List Int) (n m j : Nat), j ≤ q ∧ y5 = .int .i64 n ∧ y9 = .int .i64 j ∧ Asd (m = n + 1 ∧ xs.length = m) ∧ Twin w1 wr y6 vk xs ks ∧ Asd (Met R L xs i y j)) (fun _ _ y9 _ => q - (intOf y9).toNat)
      case atStart => exact ⟨xs, n, m, 0, Nat.zero_le _, rfl, rfl, HX.out, HW.out, HM.out⟩
      case round =>
        clear HM HW HK HG HGB HGET HO HX hn40 hm41
        clear hlt i1 him
        obtain ⟨xs, n, m, j, hjq, rfl, rfl, ⟨hmn, hxs⟩, hT, hM⟩ := hrel
        have HM := Lib.hid (show Met R L xs i y j from hM)
        have HX := Lib.hid (And.intro hmn hxs)
        have hlen := met_len HS.out.toGood HM.out.nodup HM.out.there
        have hmax := HS.out.len
        have hn40 : n ≤ 40 := by omega
        have hm41 : m ≤ 41 := by omega
        obtain ⟨px, cx, rfl, hget⟩ := hT.1.get
        obtain ⟨pk, ck, rfl, hgk⟩ := hT.get
        rw [hxs] at hT ⊢
        rw [← HKS.out.2] at hT ⊢
        have HT := Lib.hid hT
        have HTB := Lib.hid (show Below w1.heap.size w1 wr from hT.1.2)
        have HGET := Lib.hid hget
        have HGK := Lib.hid hgk
        have j0' : (0 : Int) ≤ (j : Int) := by omega
        clear hM hT hxs hlen hmax hget hgk hmn
        by_cases hlt : j < q
        · obtain ⟨cc, hcc⟩ : ∃ cc, ks[j]? = some cc := ⟨_, List.getElem?_eq_getElem (by rw [← HKS.out.2]; exact hlt)⟩
          have j1 : (j : Int) < (q : Int) := by omega
          have hcc' := hcc
          rw [HKS.out.1] at hcc'
          have HFR := Lib.hid (HM.out.fresh HS.out.toGood hcc')
          have HST := Lib.hid (HM.out.step HS.out.toGood hcc')
          obtain ⟨v, hv, rfl, hp, hnd⟩ := kid_of HS.out.toGood (List.mem_of_getElem? hcc')
          have hvn := HS.out.nums hnd
          obtain ⟨mw, -, hsh⟩ := shown_some HS.out (i := v.id) ⟨by omega, by omega⟩ hnd
          have HSH := Lib.hid hsh
          have HCC := Lib.hid hcc
          obtain ⟨gk, rfl, -, hc2⟩ := HGK.out j v.id hcc
          have hi1 := (List.getElem?_eq_some_iff.1 HM.out.here).1
          obtain ⟨g, rfl, -, hc1⟩ := HGET.out i y HM.out.here
          obtain ⟨vid, vpar, vx, vy, vw, vh, von⟩ := v
          subst hp
          have i1 : (i : Int) < (m : Int) := by have := HX.out.2; omega
          clear hcc hcc' hv hnd hvn hsh hi1
          go_upto_region 14 with (go_at_call 19; go_loud ((with_reducible refine (Co.get (HB.out.co.next HTB.out) HSH.out).mono ?_); rintro e w3 ⟨rfl, hb3⟩; have HT3 := Lib.hid (HT.out.next hb3); clear hb3))
          have hx3 := Blk.new w3 50 #[.int .i64 vid, .int .i64 vpar, .int .i64 vx, .int .i64 vy, .int .i64 vw, .int .i64 vh, .bool von]
          have ht4 := HT3.out.next ((Below.refl _ w3).alloc (Nat.le_refl _) (.cells #[.int .i64 vid, .int .i64 vpar, .int .i64 vx, .int .i64 vy, .int .i64 vw, .int .i64 vh, .bool von] 50))
          obtain ⟨g3, hg3⟩ : ∃ g3, g3 = w3.heap.size := ⟨_, rfl⟩
          rw [← hg3] at hx3 ⊢
          clear hg3 hc1 hc2
          generalize w3.alloc (.cells #[.int .i64 vid, .int .i64 vpar, .int .i64 vx, .int .i64 vy, .int .i64 vw, .int .i64 vh, .bool von] 50) = w4 at hx3 ht4 ⊢
          obtain ⟨⟨x0, x1, x2, x3, x4, x5, x6⟩, -⟩ := hx3.c7
          have HT4 := Lib.hid ht4
          have HAT := Lib.hid ht4.at
          have hc1 := HAT.out.1 i _ HM.out.here
          have hc2 := HAT.out.2 j vid HCC.out
          clear hx3 ht4
          go_quiet (fail)
          go_wp2_with fail
          clear x0 x1 x2 x3 x4 x5 x6 hc1
          go_loopw [12] (fun y12 wx => ∃ (r q' : Nat), r ≤ m ∧ y12 = .int .i64 r ∧ wx = w4.drewN q') (fun y12 _ => m - (intOf y12).toNat)
          case atStart => exact ⟨0, _, Nat.zero_le _, rfl, rfl⟩
          case round =>
            obtain ⟨r, q', hr, rfl, rfl⟩ := hrel
            have r0 : (0 : Int) ≤ (r : Int) := by omega
            by_cases hrm : r < m
            · have r1 : (r : Int) < (m : Int) := by omega
              obtain ⟨xr, hxr⟩ : ∃ xr, xs[r]? = some xr := ⟨_, List.getElem?_eq_getElem (by rw [HX.out.2]; exact hrm)⟩
              have hne : (xr == vid) = false := by
                rw [beq_eq_false_iff_ne]
                rintro rfl
                exact HFR.out (List.mem_of_getElem? hxr)
              have hc1 := HAT.out.1 r xr hxr
              clear hxr
              go_wp2_with fail
              go_quiet (fail)
              go_wp2_with fail
              go_roundw
              case rel => exact ⟨r + 1, _, by omega, by go_num, rfl⟩
              case measure => simp [intOf]; omega
            · have r1 : ¬ (r : Int) < (m : Int) := by omega
              have HT5 := Lib.hid (HT4.out.next (below_drewN (Below.refl _ w4) q'))
              have HO5 := Lib.hid (World.ownsRow.alloc (HX.out.2 ▸ HT5.out.1.1) (.cells #[.int .i64 vid] 3))
              have HSZ := Lib.hid (Nat.le_trans HT5.out.1.2.size ((Below.refl _ (w4.drewN q')).alloc (Nat.le_refl _) (.cells #[.int .i64 vid] 3)).size)
              go_wp2_with (at_builtin; go_loud (refine wpList_append_own_at _ rfl (.tmp 87) (.tmp 92) 47 rfl w1.heap.size 3 i0 (.int .i64 0) 1 8 Try.underlying47 hi0 hz0 hz1 hz2 rfl (by decide) _ _ _ rfl HO5.out ⟨_, 0, none⟩ 1 1 [.int .i64 vid] rfl rfl (cell_list_at _ _ [.int .i64 vid] _ rfl) (oneCell_ints [vid]) (by unfold maxLen; omega) (by omega) HSZ.out ?_; intro v3 w3 ho3 hg3 _ hw3; have HP := Lib.hid (HT5.out.put (by rw [HX.out.2]; exact ho3) hg3 hw3); clear ho3 hg3 hw3))
              go_roundw
              case rel => exact ⟨xs ++ [vid], n + 1, m + 1, j + 1, by omega, by go_num, by go_num, ⟨by have := HX.out.1; omega, by rw [List.length_append, HX.out.2]; rfl⟩, HP.out, HST.out⟩
              case measure => simp [intOf]; omega
        · obtain rfl : j = q := by omega
          have hMo : Out R L xs (i + 1) := by
            have h := HM.out
            rw [HKS.out.2, HKS.out.1] at h
            exact h.out
          have HMO := Lib.hid hMo
          have hi1 := (List.getElem?_eq_some_iff.1 HM.out.here).1
          rw [HX.out.2] at hi1
          have HI1 := Lib.hid hi1
          clear hMo hi1
          go_wp2_with fail
          go_roundw
          case rel => exact ⟨xs, n, m, i + 1, HI1.out, rfl, by go_num, HX.out, HT.out.1, HMO.out⟩
          case measure => simp [intOf]; omega
    · obtain rfl : i = m := by omega
      have hall := HO.out
      rw [← HX.out.2] at hall
      have hLn : L.length = n := by have := hall.all HS.out.toGood; have := HX.out; omega
      have HLEN := Lib.hid (fun (W : World) (hW : Below w1.heap.size w1 W) => (Co.len HS.out (HB.out.co.next hW)))
      rw [hLn] at HLEN
      obtain ⟨pl, cl, ⟨x0, x1, x2, x3, x4, x5⟩, -⟩ := (HB.out.next HGB.out).list
      rw [hLn] at x5
      clear hall hLn
      go_wp2_with (first
        | (go_at_call 13; go_loud ((with_reducible refine (HLEN.out wr HGB.out).mono ?_); rintro e w3 ⟨rfl, rfl⟩))
        | (go_at_call 11; ((with_reducible refine (HA.out _).mono ?_); rintro e w4 ⟨rfl, hb4⟩); have HB4 := Lib.hid hb4; clear hb4))
      go_ret
      exact ⟨rfl, HB4.out.on (HGB.out.on HB.out.below HB.out.below.size) (Nat.le_trans HB.out.below.size HGB.out.size)⟩

theorem sound_t (va : Value) (As : List Ac) (w : World) (hI : IsActs w.heap.size w va As) : Calls Try.prog 4 #[va] w fun e w' => e = .returned (.bool true) ∧ Below w.heap.size w w' := sound_w w va As hI
end Go.Proofs.Ytphmlfklmleafaa
