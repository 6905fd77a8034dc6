/- The document's Check, walked; AreaChecks. -/
import Derived.Test.YteaeccmlibmmmaaArQ
import Derived.Test.YteaeccmlibmmmaaArL
namespace Go.Proofs.Yteaeccmlibmmmaa.Ar
open Go.RowKit Go.Shelf Go.Maps
theorem empty_shared (y : Out) (r : Rc) : emptyB (interR y.x y.y y.w y.h r.x r.y r.w r.h).x (interR y.x y.y y.w y.h r.x r.y r.w r.h).y (interR y.x y.y y.w y.h r.x r.y r.w r.h).w (interR y.x y.y y.w y.h r.x r.y r.w r.h).h = true ↔ sharedI y r = 0 := area_nul.symm
set_option maxHeartbeats 8000000 in
set_option maxRecDepth 100000 in
theorem rcheck_c (v0 : Value) (l : List Out) (w : World) (hR : RdK encO 5 w v0 l) (hn : l.length ≤ 9223372036854775807) (hs : ∀ (j : Nat) (t : Out), l[j]? = some t → t.n.size ≤ maxLen) :
    Calls Try.prog 12 #[v0] w fun e w' => ∃ z, e = .returned (.int .i64 z) ∧ ChkR l z ∧ Below w.heap.size w w' := by
  obtain ⟨p, c, rfl, hcell⟩ := hR
  have HC := Lib.hid hcell
  obtain ⟨n, hln⟩ : ∃ n, n = l.length := ⟨_, rfl⟩
  rw [← hln] at hn ⊢
  have HN := Lib.hid hln
  have HS := Lib.hid hs
  by_cases h16 : 16 < n
  · have HZ := Lib.hid (chk_many (l := l) (by omega))
    have h16' : (16 : Int) < (n : Int) := by omega
    clear hcell hln hs hn h16
    go_enter Try.func12, Try.ntmps12
    go_wp2_with fail
    go_ret
    exact ⟨2, rfl, HZ.out, Below.refl _ _⟩
  · have h16' : ¬ (16 : Int) < (n : Int) := by omega
    have H16 := Lib.hid (show ¬ 16 < l.length by omega)
    have hB0 := Below.refl w.heap.size w
    clear hcell hln hs h16
    go_enter Try.func12, Try.ntmps12
    go_upto_region 4 with fail
    go_loopw [3] (fun z wr => ∃ i : Nat, i ≤ n ∧ z = .int .i64 i ∧ Below w.heap.size w wr ∧ Asd (∀ (j : Nat) (y : Out), j < i → l[j]? = some y → okO l j y)) (fun z _ => n - (intOf z).toNat)
    case atStart => exact ⟨0, Nat.zero_le _, rfl, hB0, fun j y hj => absurd hj (Nat.not_lt_zero j)⟩
    case round =>
      clear hB0
      obtain ⟨i, hi, rfl, hB, hA⟩ := hrel
      have HA := Lib.hid (show ∀ (j : Nat) (y : Out), j < i → l[j]? = some y → okO l j y from hA)
      clear hA
      by_cases hlt2 : i < n
      · obtain ⟨x, hx⟩ : ∃ x, l[i]? = some x := ⟨_, List.getElem?_eq_getElem (by rw [← HN.out]; exact hlt2)⟩
        obtain ⟨b, o, rfl, hb1, hb2⟩ := HC.out i x hx
        have hi0 : (0 : Int) ≤ (i : Int) := by omega
        have hi1 : (i : Int) < (n : Int) := by omega
        have hsx := HS.out i x hx
        have HX := Lib.hid hx
        have HNM := Lib.hid (fun W => rname_c x.n W (by unfold maxLen at hsx; omega))
        have HEM := Lib.hid (fun W => rempty_c x.x x.y x.w x.h W)
        have HCX : Hid (∀ W, Below w.heap.size w W → W.cell? ⟨b, o + i * 5, none⟩ = some (.string x.n) ∧ W.cell? ⟨b, o + i * 5 + 1, none⟩ = some (.int .i64 x.x) ∧ W.cell? ⟨b, o + i * 5 + 2, none⟩ = some (.int .i64 x.y) ∧ W.cell? ⟨b, o + i * 5 + 3, none⟩ = some (.int .i64 x.w) ∧ W.cell? ⟨b, o + i * 5 + 4, none⟩ = some (.int .i64 x.h)) := fun W h => RdK.out (w := W) (fun j u hu => (h.cell (p := ⟨b, o + i * 5 + j, none⟩) hb1).trans (hb2 j u hu))
        obtain ⟨en, hen⟩ : ∃ a, a = emptyB x.x x.y x.w x.h := ⟨_, rfl⟩
        rw [← hen] at HEM
        obtain ⟨nn, hnn⟩ : ∃ a, a = nameB x.n := ⟨_, rfl⟩
        rw [← hnn] at HNM
        have HEN := Lib.hid hen
        have HNN := Lib.hid hnn
        have HBB := Lib.hid hB
        obtain ⟨y0, y1, y2, y3, y4⟩ := HCX.out wr hB
        clear hb1 hb2 hx hsx hB hen hnn
        cases nn
        · have HBAD := Lib.hid (chk_bad H16.out HX.out fun ho => by have h1 := ho.1; rw [← HNN.out] at h1; cases h1)
          go_wp2_with fail
          refine (HNM.out _).mono ?_
          rintro e w1 ⟨rfl, hb⟩
          have HB1 := Lib.hid (HBB.out.trans (hb.mono HBB.out.size))
          clear hb
          go_wp2_with fail
          go_ret
          exact ⟨130, rfl, HBAD.out, HB1.out⟩
        · cases en
          rotate_left
          · have HBAD := Lib.hid (chk_bad H16.out HX.out fun ho => by have h1 := ho.2.1; rw [← HEN.out] at h1; cases h1)
            go_wp2_with fail
            refine (HNM.out _).mono ?_
            rintro e w1 ⟨rfl, hb⟩
            have HB1 := Lib.hid (HBB.out.trans (hb.mono HBB.out.size))
            clear hb y0 y1 y2 y3 y4
            obtain ⟨y0, y1, y2, y3, y4⟩ := HCX.out w1 HB1.out
            go_wp2_with fail
            refine (HEM.out _).mono ?_
            rintro e w2 ⟨rfl, hb⟩
            have HB2 := Lib.hid (HB1.out.trans (hb.mono HB1.out.size))
            clear hb
            go_wp2_with fail
            go_ret
            exact ⟨130, rfl, HBAD.out, HB2.out⟩
          · go_wp2_with fail
            refine (HNM.out _).mono ?_
            rintro e w1 ⟨rfl, hb⟩
            have HB1 := Lib.hid (HBB.out.trans (hb.mono HBB.out.size))
            clear hb y0 y1 y2 y3 y4
            obtain ⟨y0, y1, y2, y3, y4⟩ := HCX.out w1 HB1.out
            go_wp2_with fail
            refine (HEM.out _).mono ?_
            rintro e w2 ⟨rfl, hb⟩
            have HB2 := Lib.hid (HB1.out.trans (hb.mono HB1.out.size))
            clear hb y0 y1 y2 y3 y4 HNM HEM HBB
            obtain ⟨wo, hwo⟩ : ∃ wo, wo = wr := ⟨_, rfl⟩
            subst hwo
            go_upto_region 9 with fail
            have hB2 := HB2.out
            go_loopw [4] (fun z wr => ∃ k : Nat, k ≤ i ∧ z = .int .i64 k ∧ Below w.heap.size w wr ∧ Asd (∀ (j : Nat) (y : Out), j < k → l[j]? = some y → y.n ≠ x.n ∧ sharedI y ⟨x.x, x.y, x.w, x.h⟩ = 0)) (fun z _ => i - (intOf z).toNat)
            case atStart => exact ⟨0, Nat.zero_le _, rfl, hB2, fun j y hj => absurd hj (Nat.not_lt_zero j)⟩
            case round =>
              clear hB2 HB2 HB1
              obtain ⟨k, hk, rfl, hB, hA⟩ := hrel
              have HA2 := Lib.hid (show ∀ (j : Nat) (y : Out), j < k → l[j]? = some y → y.n ≠ x.n ∧ sharedI y ⟨x.x, x.y, x.w, x.h⟩ = 0 from hA)
              clear hA
              by_cases hlt3 : k < i
              · obtain ⟨y, hy⟩ : ∃ y, l[k]? = some y := ⟨_, List.getElem?_eq_getElem (by rw [← HN.out]; omega)⟩
                obtain ⟨b', o', e9, hb3, hb4⟩ := HC.out k y hy
                obtain ⟨rfl, rfl⟩ : b = b' ∧ o = o' := by injection e9 with e9; injection e9 with e1 e2; exact ⟨e1, e2⟩
                have hk0 : (0 : Int) ≤ (k : Int) := by omega
                have hk1 : (k : Int) < (n : Int) := by omega
                have hk2 : (k : Int) < (i : Int) := by omega
                have HY := Lib.hid hy
                have HSS : Hid (∀ W, Below wr.heap.size wr W → W.cell? ⟨b, o + k * 5, none⟩ = some (.string y.n) ∧ W.cell? ⟨b, o + k * 5 + 1, none⟩ = some (.int .i64 y.x) ∧ W.cell? ⟨b, o + k * 5 + 2, none⟩ = some (.int .i64 y.y) ∧ W.cell? ⟨b, o + k * 5 + 3, none⟩ = some (.int .i64 y.w) ∧ W.cell? ⟨b, o + k * 5 + 4, none⟩ = some (.int .i64 y.h) ∧ W.cell? ⟨b, o + i * 5, none⟩ = some (.string x.n) ∧ W.cell? ⟨b, o + i * 5 + 1, none⟩ = some (.int .i64 x.x) ∧ W.cell? ⟨b, o + i * 5 + 2, none⟩ = some (.int .i64 x.y) ∧ W.cell? ⟨b, o + i * 5 + 3, none⟩ = some (.int .i64 x.w) ∧ W.cell? ⟨b, o + i * 5 + 4, none⟩ = some (.int .i64 x.h)) := fun W h => by
                  have h2 := hB.trans (h.mono hB.size)
                  obtain ⟨y0, y1, y2, y3, y4⟩ := RdK.out (w := W) (fun j u hu => (h2.cell (p := ⟨b, o + k * 5 + j, none⟩) hb3).trans (hb4 j u hu))
                  obtain ⟨x0, x1, x2, x3, x4⟩ := HCX.out W h2
                  exact ⟨y0, y1, y2, y3, y4, x0, x1, x2, x3, x4⟩
                have HBB := Lib.hid hB
                have HBd := Lib.hid (Below.refl wr.heap.size wr).drew
                cases hnn : (y.n.toList == x.n.toList)
                rotate_left
                · have HBAD := Lib.hid (chk_bad H16.out HX.out fun ho => (ho.2.2 k y hlt3 hy).1 (toList_ne.1 hnn))
                  clear hb3 hb4 hy hB e9
                  go_upto_region 11 with fail
                  refine wp_region_noPanic ?_
                  refine wp_region_held_drew (S := fun wx => wx.cell? ⟨b, o + k * 5, none⟩ = some (.string y.n) ∧ wx.cell? ⟨b, o + k * 5 + 1, none⟩ = some (.int .i64 y.x) ∧ wx.cell? ⟨b, o + k * 5 + 2, none⟩ = some (.int .i64 y.y) ∧ wx.cell? ⟨b, o + k * 5 + 3, none⟩ = some (.int .i64 y.w) ∧ wx.cell? ⟨b, o + k * 5 + 4, none⟩ = some (.int .i64 y.h) ∧ wx.cell? ⟨b, o + i * 5, none⟩ = some (.string x.n) ∧ wx.cell? ⟨b, o + i * 5 + 1, none⟩ = some (.int .i64 x.x) ∧ wx.cell? ⟨b, o + i * 5 + 2, none⟩ = some (.int .i64 x.y) ∧ wx.cell? ⟨b, o + i * 5 + 3, none⟩ = some (.int .i64 x.w) ∧ wx.cell? ⟨b, o + i * 5 + 4, none⟩ = some (.int .i64 x.h)) (by kernel_rfl) (by exact HSS.out _ HBd.out) (fun hHeld => ?_)
                  refine wpAnyH_take (i := 0) (v := ?vq0) rfl (by kernel_rfl) (by kernel_rfl) (by kernel_rfl) (fun _ _ _ h => h) (Or.inl ⟨by kernel_rfl, ?yq0⟩) (by assumption) ?rq0
                  case yq0 => (intro wq hSw; (try dsimp only at hSw); go_simp; (try with_reducible rfl))
                  (try simp only [Act.put, List.getElem_toArray, List.getElem_cons_zero, List.setIfInBounds_toArray, List.set_cons_zero, List.set_cons_succ])
                  refine wpAnyH_take (i := 1) (v := ?vq1) rfl (by kernel_rfl) (by kernel_rfl) (by kernel_rfl) (fun _ _ _ h => h) (Or.inl ⟨by kernel_rfl, ?yq1⟩) (by assumption) ?rq1
                  case yq1 => (intro wq hSw; (try dsimp only at hSw); go_simp; (try with_reducible rfl))
                  (try simp only [Act.put, List.getElem_toArray, List.getElem_cons_succ, List.getElem_cons_zero, List.setIfInBounds_toArray, List.set_cons_zero, List.set_cons_succ])
                  refine wpAnyH_take (i := 2) (v := ?vq2) rfl (by kernel_rfl) (by kernel_rfl) (by kernel_rfl) (fun _ _ _ h => h) (Or.inl ⟨by kernel_rfl, ?yq2⟩) (by assumption) ?rq2
                  case yq2 => (intro wq hSw; (try dsimp only at hSw); go_simp; (try with_reducible rfl))
                  (try simp only [Act.put, List.getElem_toArray, List.getElem_cons_succ, List.getElem_cons_zero, List.setIfInBounds_toArray, List.set_cons_zero, List.set_cons_succ])
                  refine wpAnyH_take (i := 3) (v := ?vq3) rfl (by kernel_rfl) (by kernel_rfl) (by kernel_rfl) (fun _ _ _ h => h) (Or.inl ⟨by kernel_rfl, ?yq3⟩) (by assumption) ?rq3
                  case yq3 => (intro wq hSw; (try dsimp only at hSw); go_simp; (try with_reducible rfl))
                  (try simp only [Act.put, List.getElem_toArray, List.getElem_cons_succ, List.getElem_cons_zero, List.setIfInBounds_toArray, List.set_cons_zero, List.set_cons_succ])
                  refine wpAnyH_take (i := 4) (v := ?vq4) rfl (by kernel_rfl) (by kernel_rfl) (by kernel_rfl) (fun _ _ _ h => h) (Or.inl ⟨by kernel_rfl, ?yq4⟩) (by assumption) ?rq4
                  case yq4 => (intro wq hSw; (try dsimp only at hSw); go_simp; (try with_reducible rfl))
                  (try simp only [Act.put, List.getElem_toArray, List.getElem_cons_succ, List.getElem_cons_zero, List.setIfInBounds_toArray, List.set_cons_zero, List.set_cons_succ])
                  refine wpAnyH_take (i := 5) (v := ?vq5) rfl (by kernel_rfl) (by kernel_rfl) (by kernel_rfl) (fun _ _ _ h => h) (Or.inl ⟨by kernel_rfl, ?yq5⟩) (by assumption) ?rq5
                  case yq5 => (intro wq hSw; (try dsimp only at hSw); go_simp; (try with_reducible rfl))
                  (try simp only [Act.put, List.getElem_toArray, List.getElem_cons_succ, List.getElem_cons_zero, List.setIfInBounds_toArray, List.set_cons_zero, List.set_cons_succ])
                  refine wpAnyH_take (i := 6) (v := ?vq6) rfl (by kernel_rfl) (by kernel_rfl) (by kernel_rfl) (fun _ _ _ h => h) (Or.inl ⟨by kernel_rfl, ?yq6⟩) (by assumption) ?rq6
                  case yq6 => (intro wq hSw; (try dsimp only at hSw); go_simp; (try with_reducible rfl))
                  (try simp only [Act.put, List.getElem_toArray, List.getElem_cons_succ, List.getElem_cons_zero, List.setIfInBounds_toArray, List.set_cons_zero, List.set_cons_succ])
                  refine wpAnyH_take (i := 7) (v := ?vq7) rfl (by kernel_rfl) (by kernel_rfl) (by kernel_rfl) (fun _ _ _ h => h) (Or.inl ⟨by kernel_rfl, ?yq7⟩) (by assumption) ?rq7
                  case yq7 => (intro wq hSw; (try dsimp only at hSw); go_simp; (try with_reducible rfl))
                  (try simp only [Act.put, List.getElem_toArray, List.getElem_cons_succ, List.getElem_cons_zero, List.setIfInBounds_toArray, List.set_cons_zero, List.set_cons_succ])
                  refine wpAnyH_take (i := 8) (v := ?vq8) rfl (by kernel_rfl) (by kernel_rfl) (by kernel_rfl) (fun _ _ _ h => h) (Or.inl ⟨by kernel_rfl, ?yq8⟩) (by assumption) ?rq8
                  case yq8 => (intro wq hSw; (try dsimp only at hSw); go_simp; (try with_reducible rfl))
                  (try simp only [Act.put, List.getElem_toArray, List.getElem_cons_succ, List.getElem_cons_zero, List.setIfInBounds_toArray, List.set_cons_zero, List.set_cons_succ])
                  refine wpAnyH_take (i := 9) (v := ?vq9) rfl (by kernel_rfl) (by kernel_rfl) (by kernel_rfl) (fun _ _ _ h => h) (Or.inl ⟨by kernel_rfl, ?yq9⟩) (by assumption) ?rq9
                  case yq9 => (intro wq hSw; (try dsimp only at hSw); go_simp; (try with_reducible rfl))
                  (try simp only [Act.put, List.getElem_toArray, List.getElem_cons_succ, List.getElem_cons_zero, List.setIfInBounds_toArray, List.set_cons_zero, List.set_cons_succ])
                  refine wpAnyH_take (i := 10) (v := ?vq10) rfl (by kernel_rfl) (by kernel_rfl) (by kernel_rfl) (fun _ _ _ h => h) (Or.inl ⟨by kernel_rfl, ?yq10⟩) (by assumption) ?rq10
                  case yq10 => (intro wq hSw; (try dsimp only at hSw); go_simp; (try with_reducible rfl))
                  (try simp only [Act.put, List.getElem_toArray, List.getElem_cons_succ, List.getElem_cons_zero, List.setIfInBounds_toArray, List.set_cons_zero, List.set_cons_succ])
                  refine wpAnyH_take (i := 11) (v := ?vq11) rfl (by kernel_rfl) (by kernel_rfl) (by kernel_rfl) (fun _ _ _ h => h) (Or.inl ⟨by kernel_rfl, ?yq11⟩) (by assumption) ?rq11
                  case yq11 => (intro wq hSw; (try dsimp only at hSw); go_simp; (try with_reducible rfl))
                  (try simp only [Act.put, List.getElem_toArray, List.getElem_cons_succ, List.getElem_cons_zero, List.setIfInBounds_toArray, List.set_cons_zero, List.set_cons_succ])
                  refine wpAnyH_take (i := 12) (v := undef) rfl (by kernel_rfl) (by kernel_rfl) (by kernel_rfl) (fun _ _ _ h => h) (Or.inr ⟨by kernel_rfl, rfl⟩) (by assumption) ?_
                  (try simp only [Act.put, List.getElem_toArray, List.getElem_cons_succ, List.getElem_cons_zero, List.setIfInBounds_toArray, List.set_cons_zero, List.set_cons_succ])
                  refine wpAnyH_take (i := 13) (v := undef) rfl (by kernel_rfl) (by kernel_rfl) (by kernel_rfl) (fun _ _ _ h => h) (Or.inr ⟨by kernel_rfl, rfl⟩) (by assumption) ?_
                  (try simp only [Act.put, List.getElem_toArray, List.getElem_cons_succ, List.getElem_cons_zero, List.setIfInBounds_toArray, List.set_cons_zero, List.set_cons_succ])
                  refine wpAnyH_take (i := 14) (v := undef) rfl (by kernel_rfl) (by kernel_rfl) (by kernel_rfl) (fun _ _ _ h => h) (Or.inr ⟨by kernel_rfl, rfl⟩) (by assumption) ?_
                  (try simp only [Act.put, List.getElem_toArray, List.getElem_cons_succ, List.getElem_cons_zero, List.setIfInBounds_toArray, List.set_cons_zero, List.set_cons_succ])
                  refine wpAnyH_take (i := 15) (v := undef) rfl (by kernel_rfl) (by kernel_rfl) (by kernel_rfl) (fun _ _ _ h => h) (Or.inr ⟨by kernel_rfl, rfl⟩) (by assumption) ?_
                  (try simp only [Act.put, List.getElem_toArray, List.getElem_cons_succ, List.getElem_cons_zero, List.setIfInBounds_toArray, List.set_cons_zero, List.set_cons_succ])
                  refine wpAnyH_take (i := 16) (v := undef) rfl (by kernel_rfl) (by kernel_rfl) (by kernel_rfl) (fun _ _ _ h => h) (Or.inr ⟨by kernel_rfl, rfl⟩) (by assumption) ?_
                  (try simp only [Act.put, List.getElem_toArray, List.getElem_cons_succ, List.getElem_cons_zero, List.setIfInBounds_toArray, List.set_cons_zero, List.set_cons_succ])
                  refine wpAnyH_take (i := 17) (v := undef) rfl (by kernel_rfl) (by kernel_rfl) (by kernel_rfl) (fun _ _ _ h => h) (Or.inr ⟨by kernel_rfl, rfl⟩) (by assumption) ?_
                  (try simp only [Act.put, List.getElem_toArray, List.getElem_cons_succ, List.getElem_cons_zero, List.setIfInBounds_toArray, List.set_cons_zero, List.set_cons_succ])
                  refine wpAnyH_take (i := 18) (v := undef) rfl (by kernel_rfl) (by kernel_rfl) (by kernel_rfl) (fun _ _ _ h => h) (Or.inr ⟨by kernel_rfl, rfl⟩) (by assumption) ?_
                  (try simp only [Act.put, List.getElem_toArray, List.getElem_cons_succ, List.getElem_cons_zero, List.setIfInBounds_toArray, List.set_cons_zero, List.set_cons_succ])
                  refine wpAnyH_take (i := 19) (v := undef) rfl (by kernel_rfl) (by kernel_rfl) (by kernel_rfl) (fun _ _ _ h => h) (Or.inr ⟨by kernel_rfl, rfl⟩) (by assumption) ?_
                  (try simp only [Act.put, List.getElem_toArray, List.getElem_cons_succ, List.getElem_cons_zero, List.setIfInBounds_toArray, List.set_cons_zero, List.set_cons_succ])
                  refine wpAnyH_take (i := 20) (v := undef) rfl (by kernel_rfl) (by kernel_rfl) (by kernel_rfl) (fun _ _ _ h => h) (Or.inr ⟨by kernel_rfl, rfl⟩) (by assumption) ?_
                  (try simp only [Act.put, List.getElem_toArray, List.getElem_cons_succ, List.getElem_cons_zero, List.setIfInBounds_toArray, List.set_cons_zero, List.set_cons_succ])
                  refine wpAnyH_take (i := 21) (v := undef) rfl (by kernel_rfl) (by kernel_rfl) (by kernel_rfl) (fun _ _ _ h => h) (Or.inr ⟨by kernel_rfl, rfl⟩) (by assumption) ?_
                  (try simp only [Act.put, List.getElem_toArray, List.getElem_cons_succ, List.getElem_cons_zero, List.setIfInBounds_toArray, List.set_cons_zero, List.set_cons_succ])
                  refine wpAnyH_take (i := 22) (v := undef) rfl (by kernel_rfl) (by kernel_rfl) (by kernel_rfl) (fun _ _ _ h => h) (Or.inr ⟨by kernel_rfl, rfl⟩) (by assumption) ?_
                  (try simp only [Act.put, List.getElem_toArray, List.getElem_cons_succ, List.getElem_cons_zero, List.setIfInBounds_toArray, List.set_cons_zero, List.set_cons_succ])
                  refine wpAnyH_take (i := 23) (v := undef) rfl (by kernel_rfl) (by kernel_rfl) (by kernel_rfl) (fun _ _ _ h => h) (Or.inr ⟨by kernel_rfl, rfl⟩) (by assumption) ?_
                  (try simp only [Act.put, List.getElem_toArray, List.getElem_cons_succ, List.getElem_cons_zero, List.setIfInBounds_toArray, List.set_cons_zero, List.set_cons_succ])
                  refine wpAnyH_take (i := 24) (v := undef) rfl (by kernel_rfl) (by kernel_rfl) (by kernel_rfl) (fun _ _ _ h => h) (Or.inr ⟨by kernel_rfl, rfl⟩) (by assumption) ?_
                  (try simp only [Act.put, List.getElem_toArray, List.getElem_cons_succ, List.getElem_cons_zero, List.setIfInBounds_toArray, List.set_cons_zero, List.set_cons_succ])
                  refine wpAnyH_take (i := 25) (v := ?vq25) rfl (by kernel_rfl) (by kernel_rfl) (by kernel_rfl) (fun _ _ _ h => h) (Or.inl ⟨by kernel_rfl, ?yq25⟩) (by assumption) ?rq25
                  case yq25 => (intro wq hSw; (try dsimp only at hSw); go_simp; (try with_reducible rfl))
                  (try simp only [Act.put, List.getElem_toArray, List.getElem_cons_succ, List.getElem_cons_zero, List.setIfInBounds_toArray, List.set_cons_zero, List.set_cons_succ])
                  refine wpAnyH_done (by kernel_rfl) ?_ _
                  refine NoPanic.normal ?_
                  clear hHeld HSS
                  go_wp2_with fail
                  go_ret
                  exact ⟨130, rfl, HBAD.out, HBB.out.drew⟩
                · have HIN := Lib.hid (fun W => rinter_c y.x y.y y.w y.h x.x x.y x.w x.h W)
                  have HES := Lib.hid (empty_shared y ⟨x.x, x.y, x.w, x.h⟩)
                  obtain ⟨q, hq⟩ : ∃ i, i = interR y.x y.y y.w y.h x.x x.y x.w x.h := ⟨_, rfl⟩
                  have HES2 : Hid (emptyB q.x q.y q.w q.h = true ↔ sharedI y ⟨x.x, x.y, x.w, x.h⟩ = 0) := by rw [hq]; exact HES.out
                  rw [← hq] at HIN
                  have HEM := Lib.hid (fun W => rempty_c q.x q.y q.w q.h W)
                  obtain ⟨em, hem⟩ : ∃ a, a = emptyB q.x q.y q.w q.h := ⟨_, rfl⟩
                  rw [← hem] at HEM HES2
                  have HNE := Lib.hid (show y.n ≠ x.n from fun e => by rw [toList_ne.2 e] at hnn; cases hnn)
                  clear hb3 hb4 hy hB e9 hq hem HES
                  go_upto_region 11 with fail
                  refine wp_region_noPanic ?_
                  refine wp_region_held_drew (S := fun wx => wx.cell? ⟨b, o + k * 5, none⟩ = some (.string y.n) ∧ wx.cell? ⟨b, o + k * 5 + 1, none⟩ = some (.int .i64 y.x) ∧ wx.cell? ⟨b, o + k * 5 + 2, none⟩ = some (.int .i64 y.y) ∧ wx.cell? ⟨b, o + k * 5 + 3, none⟩ = some (.int .i64 y.w) ∧ wx.cell? ⟨b, o + k * 5 + 4, none⟩ = some (.int .i64 y.h) ∧ wx.cell? ⟨b, o + i * 5, none⟩ = some (.string x.n) ∧ wx.cell? ⟨b, o + i * 5 + 1, none⟩ = some (.int .i64 x.x) ∧ wx.cell? ⟨b, o + i * 5 + 2, none⟩ = some (.int .i64 x.y) ∧ wx.cell? ⟨b, o + i * 5 + 3, none⟩ = some (.int .i64 x.w) ∧ wx.cell? ⟨b, o + i * 5 + 4, none⟩ = some (.int .i64 x.h)) (by kernel_rfl) (by exact HSS.out _ HBd.out) (fun hHeld => ?_)
                  refine wpAnyH_take (i := 0) (v := ?vn0) rfl (by kernel_rfl) (by kernel_rfl) (by kernel_rfl) (fun _ _ _ h => h) (Or.inl ⟨by kernel_rfl, ?yn0⟩) (by assumption) ?rn0
                  case yn0 => (intro wq hSw; (try dsimp only at hSw); go_simp; (try with_reducible rfl))
                  (try simp only [Act.put, List.getElem_toArray, List.getElem_cons_zero, List.setIfInBounds_toArray, List.set_cons_zero, List.set_cons_succ])
                  refine wpAnyH_take (i := 1) (v := ?vn1) rfl (by kernel_rfl) (by kernel_rfl) (by kernel_rfl) (fun _ _ _ h => h) (Or.inl ⟨by kernel_rfl, ?yn1⟩) (by assumption) ?rn1
                  case yn1 => (intro wq hSw; (try dsimp only at hSw); go_simp; (try with_reducible rfl))
                  (try simp only [Act.put, List.getElem_toArray, List.getElem_cons_succ, List.getElem_cons_zero, List.setIfInBounds_toArray, List.set_cons_zero, List.set_cons_succ])
                  refine wpAnyH_take (i := 2) (v := ?vn2) rfl (by kernel_rfl) (by kernel_rfl) (by kernel_rfl) (fun _ _ _ h => h) (Or.inl ⟨by kernel_rfl, ?yn2⟩) (by assumption) ?rn2
                  case yn2 => (intro wq hSw; (try dsimp only at hSw); go_simp; (try with_reducible rfl))
                  (try simp only [Act.put, List.getElem_toArray, List.getElem_cons_succ, List.getElem_cons_zero, List.setIfInBounds_toArray, List.set_cons_zero, List.set_cons_succ])
                  refine wpAnyH_take (i := 3) (v := ?vn3) rfl (by kernel_rfl) (by kernel_rfl) (by kernel_rfl) (fun _ _ _ h => h) (Or.inl ⟨by kernel_rfl, ?yn3⟩) (by assumption) ?rn3
                  case yn3 => (intro wq hSw; (try dsimp only at hSw); go_simp; (try with_reducible rfl))
                  (try simp only [Act.put, List.getElem_toArray, List.getElem_cons_succ, List.getElem_cons_zero, List.setIfInBounds_toArray, List.set_cons_zero, List.set_cons_succ])
                  refine wpAnyH_take (i := 4) (v := ?vn4) rfl (by kernel_rfl) (by kernel_rfl) (by kernel_rfl) (fun _ _ _ h => h) (Or.inl ⟨by kernel_rfl, ?yn4⟩) (by assumption) ?rn4
                  case yn4 => (intro wq hSw; (try dsimp only at hSw); go_simp; (try with_reducible rfl))
                  (try simp only [Act.put, List.getElem_toArray, List.getElem_cons_succ, List.getElem_cons_zero, List.setIfInBounds_toArray, List.set_cons_zero, List.set_cons_succ])
                  refine wpAnyH_take (i := 5) (v := ?vn5) rfl (by kernel_rfl) (by kernel_rfl) (by kernel_rfl) (fun _ _ _ h => h) (Or.inl ⟨by kernel_rfl, ?yn5⟩) (by assumption) ?rn5
                  case yn5 => (intro wq hSw; (try dsimp only at hSw); go_simp; (try with_reducible rfl))
                  (try simp only [Act.put, List.getElem_toArray, List.getElem_cons_succ, List.getElem_cons_zero, List.setIfInBounds_toArray, List.set_cons_zero, List.set_cons_succ])
                  refine wpAnyH_take (i := 6) (v := ?vn6) rfl (by kernel_rfl) (by kernel_rfl) (by kernel_rfl) (fun _ _ _ h => h) (Or.inl ⟨by kernel_rfl, ?yn6⟩) (by assumption) ?rn6
                  case yn6 => (intro wq hSw; (try dsimp only at hSw); go_simp; (try with_reducible rfl))
                  (try simp only [Act.put, List.getElem_toArray, List.getElem_cons_succ, List.getElem_cons_zero, List.setIfInBounds_toArray, List.set_cons_zero, List.set_cons_succ])
                  refine wpAnyH_take (i := 7) (v := ?vn7) rfl (by kernel_rfl) (by kernel_rfl) (by kernel_rfl) (fun _ _ _ h => h) (Or.inl ⟨by kernel_rfl, ?yn7⟩) (by assumption) ?rn7
                  case yn7 => (intro wq hSw; (try dsimp only at hSw); go_simp; (try with_reducible rfl))
                  (try simp only [Act.put, List.getElem_toArray, List.getElem_cons_succ, List.getElem_cons_zero, List.setIfInBounds_toArray, List.set_cons_zero, List.set_cons_succ])
                  refine wpAnyH_take (i := 8) (v := ?vn8) rfl (by kernel_rfl) (by kernel_rfl) (by kernel_rfl) (fun _ _ _ h => h) (Or.inl ⟨by kernel_rfl, ?yn8⟩) (by assumption) ?rn8
                  case yn8 => (intro wq hSw; (try dsimp only at hSw); go_simp; (try with_reducible rfl))
                  (try simp only [Act.put, List.getElem_toArray, List.getElem_cons_succ, List.getElem_cons_zero, List.setIfInBounds_toArray, List.set_cons_zero, List.set_cons_succ])
                  refine wpAnyH_take (i := 9) (v := ?vn9) rfl (by kernel_rfl) (by kernel_rfl) (by kernel_rfl) (fun _ _ _ h => h) (Or.inl ⟨by kernel_rfl, ?yn9⟩) (by assumption) ?rn9
                  case yn9 => (intro wq hSw; (try dsimp only at hSw); go_simp; (try with_reducible rfl))
                  (try simp only [Act.put, List.getElem_toArray, List.getElem_cons_succ, List.getElem_cons_zero, List.setIfInBounds_toArray, List.set_cons_zero, List.set_cons_succ])
                  refine wpAnyH_take (i := 10) (v := ?vn10) rfl (by kernel_rfl) (by kernel_rfl) (by kernel_rfl) (fun _ _ _ h => h) (Or.inl ⟨by kernel_rfl, ?yn10⟩) (by assumption) ?rn10
                  case yn10 => (intro wq hSw; (try dsimp only at hSw); go_simp; (try with_reducible rfl))
                  (try simp only [Act.put, List.getElem_toArray, List.getElem_cons_succ, List.getElem_cons_zero, List.setIfInBounds_toArray, List.set_cons_zero, List.set_cons_succ])
                  refine wpAnyH_take (i := 11) (v := ?vn11) rfl (by kernel_rfl) (by kernel_rfl) (by kernel_rfl) (fun _ _ _ h => h) (Or.inl ⟨by kernel_rfl, ?yn11⟩) (by assumption) ?rn11
                  case yn11 => (intro wq hSw; (try dsimp only at hSw); go_simp; (try with_reducible rfl))
                  (try simp only [Act.put, List.getElem_toArray, List.getElem_cons_succ, List.getElem_cons_zero, List.setIfInBounds_toArray, List.set_cons_zero, List.set_cons_succ])
                  refine wpAnyH_take (i := 12) (v := ?vn12) rfl (by kernel_rfl) (by kernel_rfl) (by kernel_rfl) (fun _ _ _ h => h) (Or.inl ⟨by kernel_rfl, ?yn12⟩) (by assumption) ?rn12
                  case yn12 => (intro wq hSw; (try dsimp only at hSw); go_simp; (try with_reducible rfl))
                  (try simp only [Act.put, List.getElem_toArray, List.getElem_cons_succ, List.getElem_cons_zero, List.setIfInBounds_toArray, List.set_cons_zero, List.set_cons_succ])
                  refine wpAnyH_take (i := 13) (v := ?vn13) rfl (by kernel_rfl) (by kernel_rfl) (by kernel_rfl) (fun _ _ _ h => h) (Or.inl ⟨by kernel_rfl, ?yn13⟩) (by assumption) ?rn13
                  case yn13 => (intro wq hSw; (try dsimp only at hSw); go_simp; (try with_reducible rfl))
                  (try simp only [Act.put, List.getElem_toArray, List.getElem_cons_succ, List.getElem_cons_zero, List.setIfInBounds_toArray, List.set_cons_zero, List.set_cons_succ])
                  refine wpAnyH_take (i := 14) (v := ?vn14) rfl (by kernel_rfl) (by kernel_rfl) (by kernel_rfl) (fun _ _ _ h => h) (Or.inl ⟨by kernel_rfl, ?yn14⟩) (by assumption) ?rn14
                  case yn14 => (intro wq hSw; (try dsimp only at hSw); go_simp; (try with_reducible rfl))
                  (try simp only [Act.put, List.getElem_toArray, List.getElem_cons_succ, List.getElem_cons_zero, List.setIfInBounds_toArray, List.set_cons_zero, List.set_cons_succ])
                  refine wpAnyH_take (i := 15) (v := ?vn15) rfl (by kernel_rfl) (by kernel_rfl) (by kernel_rfl) (fun _ _ _ h => h) (Or.inl ⟨by kernel_rfl, ?yn15⟩) (by assumption) ?rn15
                  case yn15 => (intro wq hSw; (try dsimp only at hSw); go_simp; (try with_reducible rfl))
                  (try simp only [Act.put, List.getElem_toArray, List.getElem_cons_succ, List.getElem_cons_zero, List.setIfInBounds_toArray, List.set_cons_zero, List.set_cons_succ])
                  refine wpAnyH_take (i := 16) (v := ?vn16) rfl (by kernel_rfl) (by kernel_rfl) (by kernel_rfl) (fun _ _ _ h => h) (Or.inl ⟨by kernel_rfl, ?yn16⟩) (by assumption) ?rn16
                  case yn16 => (intro wq hSw; (try dsimp only at hSw); go_simp; (try with_reducible rfl))
                  (try simp only [Act.put, List.getElem_toArray, List.getElem_cons_succ, List.getElem_cons_zero, List.setIfInBounds_toArray, List.set_cons_zero, List.set_cons_succ])
                  refine wpAnyH_take (i := 17) (v := ?vn17) rfl (by kernel_rfl) (by kernel_rfl) (by kernel_rfl) (fun _ _ _ h => h) (Or.inl ⟨by kernel_rfl, ?yn17⟩) (by assumption) ?rn17
                  case yn17 => (intro wq hSw; (try dsimp only at hSw); go_simp; (try with_reducible rfl))
                  (try simp only [Act.put, List.getElem_toArray, List.getElem_cons_succ, List.getElem_cons_zero, List.setIfInBounds_toArray, List.set_cons_zero, List.set_cons_succ])
                  refine wpAnyH_take (i := 18) (v := ?vn18) rfl (by kernel_rfl) (by kernel_rfl) (by kernel_rfl) (fun _ _ _ h => h) (Or.inl ⟨by kernel_rfl, ?yn18⟩) (by assumption) ?rn18
                  case yn18 => (intro wq hSw; (try dsimp only at hSw); go_simp; (try with_reducible rfl))
                  (try simp only [Act.put, List.getElem_toArray, List.getElem_cons_succ, List.getElem_cons_zero, List.setIfInBounds_toArray, List.set_cons_zero, List.set_cons_succ])
                  refine wpAnyH_take (i := 19) (v := ?vn19) rfl (by kernel_rfl) (by kernel_rfl) (by kernel_rfl) (fun _ _ _ h => h) (Or.inl ⟨by kernel_rfl, ?yn19⟩) (by assumption) ?rn19
                  case yn19 => (intro wq hSw; (try dsimp only at hSw); go_simp; (try with_reducible rfl))
                  (try simp only [Act.put, List.getElem_toArray, List.getElem_cons_succ, List.getElem_cons_zero, List.setIfInBounds_toArray, List.set_cons_zero, List.set_cons_succ])
                  refine wpAnyH_take (i := 20) (v := ?vn20) rfl (by kernel_rfl) (by kernel_rfl) (by kernel_rfl) (fun _ _ _ h => h) (Or.inl ⟨by kernel_rfl, ?yn20⟩) (by assumption) ?rn20
                  case yn20 => (intro wq hSw; (try dsimp only at hSw); go_simp; (try with_reducible rfl))
                  (try simp only [Act.put, List.getElem_toArray, List.getElem_cons_succ, List.getElem_cons_zero, List.setIfInBounds_toArray, List.set_cons_zero, List.set_cons_succ])
                  refine wpAnyH_take (i := 21) (v := ?vn21) rfl (by kernel_rfl) (by kernel_rfl) (by kernel_rfl) (fun _ _ _ h => h) (Or.inl ⟨by kernel_rfl, ?yn21⟩) (by assumption) ?rn21
                  case yn21 => (intro wq hSw; (try dsimp only at hSw); go_simp; (try with_reducible rfl))
                  (try simp only [Act.put, List.getElem_toArray, List.getElem_cons_succ, List.getElem_cons_zero, List.setIfInBounds_toArray, List.set_cons_zero, List.set_cons_succ])
                  refine wpAnyH_ready (rs := [22]) (by kernel_rfl) (by simp) ?_
                  refine AllReadyH.cons rfl (fun K hK => ?_) AllReadyH.nil
                  go_simp
                  refine (HIN.out _).mono ?_
                  rintro ex u2 ⟨rfl, hb⟩; have HB2 := Lib.hid (HBd.out.trans (hb.mono HBd.out.size)); have hS2 : u2.cell? ⟨b, o + k * 5, none⟩ = some (.string y.n) ∧ u2.cell? ⟨b, o + k * 5 + 1, none⟩ = some (.int .i64 y.x) ∧ u2.cell? ⟨b, o + k * 5 + 2, none⟩ = some (.int .i64 y.y) ∧ u2.cell? ⟨b, o + k * 5 + 3, none⟩ = some (.int .i64 y.w) ∧ u2.cell? ⟨b, o + k * 5 + 4, none⟩ = some (.int .i64 y.h) ∧ u2.cell? ⟨b, o + i * 5, none⟩ = some (.string x.n) ∧ u2.cell? ⟨b, o + i * 5 + 1, none⟩ = some (.int .i64 x.x) ∧ u2.cell? ⟨b, o + i * 5 + 2, none⟩ = some (.int .i64 x.y) ∧ u2.cell? ⟨b, o + i * 5 + 3, none⟩ = some (.int .i64 x.w) ∧ u2.cell? ⟨b, o + i * 5 + 4, none⟩ = some (.int .i64 x.h) := HSS.out _ HB2.out; clear hb
                  (try dsimp only)
                  refine hK.out _ _ (by exact hS2) (fun hHeld => ?_)
                  clear hK K
                  (try simp only [Act.put, List.getElem_toArray, List.getElem_cons_succ, List.getElem_cons_zero, List.setIfInBounds_toArray, List.set_cons_zero, List.set_cons_succ])
                  refine wpAnyH_ready (rs := [23]) (by kernel_rfl) (by simp) ?_
                  refine AllReadyH.cons rfl (fun K hK => ?_) AllReadyH.nil
                  go_simp
                  refine (HEM.out _).mono ?_
                  rintro ex u3 ⟨rfl, hb⟩; have HB3 := Lib.hid (HB2.out.trans (hb.mono HB2.out.size)); have hS3 : u3.cell? ⟨b, o + k * 5, none⟩ = some (.string y.n) ∧ u3.cell? ⟨b, o + k * 5 + 1, none⟩ = some (.int .i64 y.x) ∧ u3.cell? ⟨b, o + k * 5 + 2, none⟩ = some (.int .i64 y.y) ∧ u3.cell? ⟨b, o + k * 5 + 3, none⟩ = some (.int .i64 y.w) ∧ u3.cell? ⟨b, o + k * 5 + 4, none⟩ = some (.int .i64 y.h) ∧ u3.cell? ⟨b, o + i * 5, none⟩ = some (.string x.n) ∧ u3.cell? ⟨b, o + i * 5 + 1, none⟩ = some (.int .i64 x.x) ∧ u3.cell? ⟨b, o + i * 5 + 2, none⟩ = some (.int .i64 x.y) ∧ u3.cell? ⟨b, o + i * 5 + 3, none⟩ = some (.int .i64 x.w) ∧ u3.cell? ⟨b, o + i * 5 + 4, none⟩ = some (.int .i64 x.h) := HSS.out _ HB3.out; clear hb
                  (try dsimp only)
                  refine hK.out _ _ (by exact hS3) (fun hHeld => ?_)
                  clear hK K
                  (try simp only [Act.put, List.getElem_toArray, List.getElem_cons_succ, List.getElem_cons_zero, List.setIfInBounds_toArray, List.set_cons_zero, List.set_cons_succ])
                  refine wpAnyH_take (i := 24) (v := ?vn24) rfl (by kernel_rfl) (by kernel_rfl) (by kernel_rfl) (fun _ _ _ h => h) (Or.inl ⟨by kernel_rfl, ?yn24⟩) (by assumption) ?rn24
                  case yn24 => (intro wq hSw; (try dsimp only at hSw); go_simp; (try with_reducible rfl))
                  (try simp only [Act.put, List.getElem_toArray, List.getElem_cons_succ, List.getElem_cons_zero, List.setIfInBounds_toArray, List.set_cons_zero, List.set_cons_succ])
                  refine wpAnyH_take (i := 25) (v := ?vn25) rfl (by kernel_rfl) (by kernel_rfl) (by kernel_rfl) (fun _ _ _ h => h) (Or.inl ⟨by kernel_rfl, ?yn25⟩) (by assumption) ?rn25
                  case yn25 => (intro wq hSw; (try dsimp only at hSw); go_simp; (try with_reducible rfl))
                  (try simp only [Act.put, List.getElem_toArray, List.getElem_cons_succ, List.getElem_cons_zero, List.setIfInBounds_toArray, List.set_cons_zero, List.set_cons_succ])
                  refine wpAnyH_done (by kernel_rfl) ?_ _
                  refine NoPanic.normal ?_
                  have HB9 := Lib.hid (HBB.out.trans (HB3.out.mono HBB.out.size))
                  clear hS2 hS3 hHeld HSS
                  cases em
                  · have HBAD := Lib.hid (chk_bad H16.out HX.out fun ho => by
                      have h1 := HES2.out.2 (ho.2.2 k y hlt3 HY.out).2
                      cases h1)
                    go_wp2_with fail
                    go_ret
                    exact ⟨130, rfl, HBAD.out, HB9.out⟩
                  · have HAA : Hid (∀ (j : Nat) (z : Out), j < k + 1 → l[j]? = some z → z.n ≠ x.n ∧ sharedI z ⟨x.x, x.y, x.w, x.h⟩ = 0) := fun j z hj hz => by
                      rcases Nat.lt_or_ge j k with h | h
                      · exact HA2.out j z h hz
                      · obtain rfl : j = k := by omega
                        rw [HY.out] at hz; injection hz with hz; subst hz
                        exact ⟨HNE.out, HES2.out.1 rfl⟩
                    go_wp2_with fail
                    go_roundw
                    case rel => exact ⟨k + 1, by omega, by go_num, HB9.out, HAA.out⟩
                    case measure => simp [intOf]; omega
              · have HAA : Hid (∀ (j : Nat) (y : Out), j < i + 1 → l[j]? = some y → okO l j y) := fun j y hj hy => by
                  rcases Nat.lt_or_ge j i with h | h
                  · exact HA.out j y h hy
                  · obtain rfl : j = i := by omega
                    rw [HX.out] at hy; injection hy with hy; subst hy
                    exact ⟨HNN.out.symm, HEN.out.symm, fun q z hq hz => HA2.out q z (by omega) hz⟩
                have HB9 := Lib.hid hB
                clear hB
                have hk2 : ¬ (k : Int) < (i : Int) := by omega
                go_wp2_with fail
                go_roundw
                case rel => exact ⟨i + 1, by omega, by go_num, HB9.out, HAA.out⟩
                case measure => simp [intOf]; omega
      · have HZ := Lib.hid (chk_good H16.out fun j y hy => HA.out j y (by have h1 := (List.getElem?_eq_some_iff.1 hy).1; have h2 := HN.out; omega) hy)
        go_wp2_with fail
        go_ret
        exact ⟨0, rfl, HZ.out, hB⟩
def IsB (e : Ending) : Prop := ∃ b, e = .returned (.bool b)
theorem IsB.mk (b : Bool) : IsB (.returned (.bool b)) := ⟨b, rfl⟩
set_option maxHeartbeats 2000000 in
theorem short_c (v0 : Value) (l : List Out) (w : World) (hR : RdK encO 5 w v0 l) (_ : l.length ≤ 9223372036854775807) (_ : ∀ (j : Nat) (t : Out), l[j]? = some t → t.n.size ≤ maxLen) :
    Calls Try.prog 9 #[v0] w fun e w' => IsB e ∧ w = w' := by
  obtain ⟨p, c, rfl, hcell⟩ := hR
  have HC := Lib.hid hcell
  obtain ⟨n, hln⟩ : ∃ n, n = l.length := ⟨_, rfl⟩
  rw [← hln]
  have HN := Lib.hid hln
  clear hcell hln
  go_enter Try.func9, Try.ntmps9
  go_upto_region 2 with fail
  go_loop [3] (fun z => ∃ k : Nat, k ≤ n ∧ z = .int .i64 k) (fun z => n - (intOf z).toNat)
  case atStart => exact ⟨0, Nat.zero_le _, rfl⟩
  case round =>
    obtain ⟨k, hk, rfl⟩ := hrel
    by_cases hlt : k < n
    · by_cases h20 : (k : Int) ≤ 20
      · obtain ⟨x, hx⟩ : ∃ x, l[k]? = some x := ⟨_, List.getElem?_eq_getElem (by rw [← HN.out]; exact hlt)⟩
        obtain ⟨b, o, rfl, hb1, hb2⟩ := HC.out k x hx
        obtain ⟨y0, -⟩ := RdK.out (w := w) (fun i u hu => hb2 i u hu)
        have hi0 : (0 : Int) ≤ (k : Int) := by omega
        have hi1 : (k : Int) < (n : Int) := by omega
        clear hb1 hb2 hx
        by_cases h300 : (300 : Int) < (x.n.size : Int)
        · go_wp2_with fail
          go_ret
          exact ⟨IsB.mk _, rfl⟩
        · go_wp2_with fail
          go_round
          case rel => exact ⟨k + 1, by omega, by go_num⟩
          case measure => simp [intOf]; omega
      · have hi1 : (k : Int) < (n : Int) := by omega
        go_wp2_with fail
        go_ret
        exact ⟨IsB.mk _, rfl⟩
    · go_wp2_with fail
      go_ret
      exact ⟨IsB.mk _, rfl⟩
set_option maxHeartbeats 2000000 in
theorem checks_w (v0 : Value) (l : List Out) (w : World) (hR : RdK encO 5 w v0 l) (hn : l.length ≤ 9223372036854775807) (hs : ∀ (j : Nat) (t : Out), l[j]? = some t → t.n.size ≤ maxLen) (hcap : ∀ (p : Option Addr) (n c : Nat), v0 = .slice p n c → n ≤ c) :
    Calls Try.prog 3 #[v0] w fun e w' => e = .returned (.bool true) ∧ Below w.heap.size w w' := by
  have HSH := Lib.hid (short_c v0 l w hR hn hs)
  have HC := Lib.hid (Check_c v0 l w hR hn hs hcap)
  have HD := Lib.hid (fun (W : World) (h : Below w.heap.size w W) => rcheck_c v0 l W (hR.below h) hn hs)
  clear hR hn hs hcap
  go_enter Try.func3, Try.ntmps3
  go_wp2_with fail
  refine HSH.out.mono ?_
  rintro e w1 ⟨⟨b, rfl⟩, rfl⟩
  cases b
  · go_wp2_with fail
    refine (awake_c w).mono ?_
    rintro e w2 ⟨rfl, hb⟩
    go_wp2_with fail
    go_ret
    exact ⟨rfl, hb⟩
  · go_wp2_with fail
    refine HC.out.mono ?_
    rintro e w2 ⟨z, rfl, hz, hb⟩
    have HZ := Lib.hid hz
    have HB2 := Lib.hid hb
    clear hz hb
    go_wp2_with fail
    refine (HD.out w2 HB2.out).mono ?_
    rintro e w3 ⟨y, rfl, hy, hb⟩
    have e9 : y = z := hy.one HZ.out
    subst e9
    have HB3 := Lib.hid (HB2.out.trans (hb.mono HB2.out.size))
    clear hy hb HZ
    go_wp2_with fail
    refine (awake_c w3).mono ?_
    rintro e w4 ⟨rfl, hb⟩
    have HB4 := Lib.hid (HB3.out.trans (hb.mono HB3.out.size))
    clear hb
    go_wp2_with fail
    go_ret
    exact ⟨rfl, HB4.out⟩
set_option maxRecDepth 100000 in
theorem outsc_of {H : Type} {enc : TypeId × Value → H} {w : World} {b0 : Nat} {v : Value} {d : DataW H} {q : List MemPlace} (hv : Value.okWide Try.prog w .any b0 22 v) (h : DataW.Trod enc Try.prog w 0 (fun _ => true) true 22 v d q) :
    ∃ l : List Out, RdK encO 5 w v l ∧ l.length ≤ 9223372036854775807 ∧ (∀ (j : Nat) (t : Out), l[j]? = some t → t.n.size ≤ maxLen) ∧ ∀ (p : Option Addr) (n c : Nat), v = .slice p n c → n ≤ c := by
  obtain ⟨l, h1, h2, h3⟩ := outs_of hv h
  refine ⟨l, h1, h2, h3, ?_⟩
  obtain ⟨a0, len, cap, rfl⟩ := Go.WideShapes.okWide_slice Try.underlying22 hv
  obtain ⟨fuel, hf⟩ := h
  rintro p n c ⟨⟩
  rcases Go.Deep.open_slice Try.underlying22 hf with ⟨hcs, _⟩ | ⟨a, len', cap', m, n, D, Pl, hcs, _, hl, _⟩
  · simp only [Value.cells, List.cons.injEq, Value.slice.injEq, and_true] at hcs
    omega
  · simp only [Value.cells, List.cons.injEq, Value.slice.injEq, and_true] at hcs
    omega
end Go.Proofs.Yteaeccmlibmmmaa.Ar
