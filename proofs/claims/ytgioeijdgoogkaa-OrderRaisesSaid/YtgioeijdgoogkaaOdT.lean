/- The document's Order, walked. -/
import Derived.Test.YtgioeijdgoogkaaOdR
namespace Go.Proofs.Ytgioeijdgoogkaa.Od
open Go.RowKit Go.Maps Go.Shelf
set_option linter.unusedSimpArgs false
theorem low_iff {l : List It} (hd : Dis l) {i j : Nat} {x y : It} (hx : l[i]? = some x) (hy : l[j]? = some y) : lowB x y (bd l x.c) (bd l y.c) = true ↔ LT l x.c y.c := by
  rw [lt_iff, hd.it (List.mem_of_getElem? hx), hd.it (List.mem_of_getElem? hy)]
  unfold lowB
  by_cases h1 : bd l x.c = bd l y.c
  · rw [if_neg (by simpa using h1)]
    by_cases h2 : x.r = y.r
    · rw [if_neg (by simpa using h2), yg_iff]; omega
    · rw [if_pos h2, decide_eq_true_iff]; omega
  · rw [if_pos h1, decide_eq_true_iff]; omega
/-- It may come next. -/
def Cnd (l : List It) (out : List Int) (c : Int) : Prop := c ∉ out ∧ Free l out c
/-- The best of the first i. -/
def Bst (l : List It) (out : List Int) (i : Nat) (z : Int) : Prop :=
  (z = -1 ∧ ∀ (j : Nat) (x : It), j < i → l[j]? = some x → ¬ Cnd l out x.c) ∨
  ∃ (b : Nat) (y : It), z = (b : Int) ∧ l[b]? = some y ∧ Cnd l out y.c ∧ ∀ (j : Nat) (x : It), j < i → l[j]? = some x → Cnd l out x.c → x.c = y.c ∨ LT l y.c x.c
theorem Bst.start (l : List It) (out : List Int) : Bst l out 0 (-1) := .inl ⟨rfl, fun j _ hj => absurd hj (Nat.not_lt_zero j)⟩
theorem Bst.skip {l : List It} {out : List Int} {i : Nat} {z : Int} {x : It} (h : Bst l out i z) (hx : l[i]? = some x) (hn : ¬ Cnd l out x.c) : Bst l out (i + 1) z := by
  rcases h with ⟨h1, h2⟩ | ⟨b, y, h1, h2, h3, h4⟩
  · refine .inl ⟨h1, fun j w hj hw => ?_⟩
    rcases Nat.lt_or_ge j i with h | h
    · exact h2 j w h hw
    · obtain rfl : j = i := by omega
      rw [hx] at hw; injection hw with hw; subst hw; exact hn
  · refine .inr ⟨b, y, h1, h2, h3, fun j w hj hw hc => ?_⟩
    rcases Nat.lt_or_ge j i with h | h
    · exact h4 j w h hw hc
    · obtain rfl : j = i := by omega
      rw [hx] at hw; injection hw with hw; subst hw; exact absurd hc hn
theorem Bst.worse {l : List It} {out : List Int} (hd : Dis l) {i b : Nat} {x y : It} (h : Bst l out i (b : Int)) (hx : l[i]? = some x) (hy : l[b]? = some y) (hn : ¬ LT l x.c y.c) : Bst l out (i + 1) (b : Int) := by
  rcases h with ⟨h1, h2⟩ | ⟨b', y', h1, h2, h3, h4⟩
  · omega
  · obtain rfl : b = b' := by omega
    rw [hy] at h2; injection h2 with h2; subst h2
    refine .inr ⟨b, y, rfl, hy, h3, fun j w hj hw hc => ?_⟩
    rcases Nat.lt_or_ge j i with h | h
    · exact h4 j w h hw hc
    · obtain rfl : j = i := by omega
      rw [hx] at hw; injection hw with hw; subst hw
      by_cases e : x.c = y.c
      · exact .inl e
      · rcases LT.tot hd (List.mem_map.2 ⟨x, List.mem_of_getElem? hx, rfl⟩) (List.mem_map.2 ⟨y, List.mem_of_getElem? hy, rfl⟩) e with q | q
        · exact absurd q hn
        · exact .inr q
theorem LT.tr {l : List It} {a b c : Int} (h : LT l a b) (k : LT l b c) : LT l a c := by
  rw [lt_iff] at *; omega
theorem Bst.first {l : List It} {out : List Int} {i : Nat} {z : Int} {x : It} (h : Bst l out i z) (hz : z < 0) (hx : l[i]? = some x) (hc : Cnd l out x.c) : Bst l out (i + 1) (i : Int) := by
  rcases h with ⟨h1, h2⟩ | ⟨b', y', h1, _⟩
  · refine .inr ⟨i, x, rfl, hx, hc, fun j w hj hw hcw => ?_⟩
    rcases Nat.lt_or_ge j i with h | h
    · exact absurd hcw (h2 j w h hw)
    · obtain rfl : j = i := by omega
      rw [hx] at hw; injection hw with hw; subst hw; exact .inl rfl
  · omega
theorem Bst.better {l : List It} {out : List Int} {i b : Nat} {x y : It} (h : Bst l out i (b : Int)) (hx : l[i]? = some x) (hy : l[b]? = some y) (hc : Cnd l out x.c) (hn : LT l x.c y.c) : Bst l out (i + 1) (i : Int) := by
  rcases h with ⟨h1, h2⟩ | ⟨b', y', h1, h2, h3, h4⟩
  · omega
  · obtain rfl : b = b' := by omega
    rw [hy] at h2; injection h2 with h2; subst h2
    refine .inr ⟨i, x, rfl, hx, hc, fun j w hj hw hcw => ?_⟩
    rcases Nat.lt_or_ge j i with h | h
    · rcases h4 j w h hw hcw with e | e
      · rw [e]; exact .inr hn
      · exact .inr (hn.tr e)
    · obtain rfl : j = i := by omega
      rw [hx] at hw; injection hw with hw; subst hw; exact .inl rfl
theorem Bst.done {l : List It} {out : List Int} {z : Int} (hd : Dis l) (hlen : out.length < l.length) (h : Bst l out l.length z) : ∃ (b : Nat) (y : It), z = (b : Int) ∧ l[b]? = some y ∧ Nxt l out y.c := by
  obtain ⟨c, hc, hno⟩ : ∃ c, c ∈ cl l ∧ c ∉ out := by
    apply Classical.byContradiction
    intro hn
    have h1 := nodup_le hd (b := out) fun x hx => Classical.byContradiction fun h => hn ⟨x, hx, h⟩
    unfold cl at h1
    rw [List.length_map] at h1
    omega
  obtain ⟨f, f1, f2, f3⟩ := free_some hc hno
  obtain ⟨j, w, hj, hw, -, hjl, -⟩ := cl_at hd f1
  subst hw
  rcases h with ⟨h1, h2⟩ | ⟨b, y, h1, h2, h3, h4⟩
  · exact absurd ⟨f2, f3⟩ (h2 j w hjl hj)
  · refine ⟨b, y, h1, h2, List.mem_map.2 ⟨y, List.mem_of_getElem? h2, rfl⟩, h3.1, h3.2, fun d d1 d2 d3 => ?_⟩
    obtain ⟨q, u, hq, hu, -, hql, -⟩ := cl_at hd d1
    subst hu
    exact h4 q u hql hq ⟨d2, d3⟩
/-- The rows that are only read: owners, bands. -/
def Rws (l : List It) (b o qb qo bb2 bo2 : Nat) (wo : World) : Prop := ∀ W, Below wo.heap.size wo W → RdB W b o l ∧ (∀ (j : Nat) (y : It), l[j]? = some y → W.cell? ⟨qb, qo + j, none⟩ = some (.int .i64 (owI l y)) ∧ W.cell? ⟨bb2, bo2 + j, none⟩ = some (.int .i64 (bd l y.c)))
set_option maxHeartbeats 2000000 in
set_option maxRecDepth 100000 in
theorem rorder_c (v0 : Value) (l : List It) (w : World) (hR : RdT w v0 l) :
    Calls Try.prog 18 #[v0] w fun e w' => ∃ v zs z, e = .returned (.tuple #[v, .int .i64 z]) ∧ RdI w' v zs ∧ OrdR l zs z ∧ Below w.heap.size w w' := by
  have HK := Lib.hid (fun (W : World) (h : Below w.heap.size w W) => rcheck_c v0 l W (hR.below h))
  have HOW := Lib.hid (fun (W : World) (h : Below w.heap.size w W) => rowners_c v0 l W (hR.below h))
  have HBD := Lib.hid (fun (W : World) (h : Below w.heap.size w W) => rbands_c v0 l W (hR.below h))
  have HPL := Lib.hid (fun c (W : World) (h : Below w.heap.size w W) hn => place_c v0 l c W (hR.below h) hn)
  have HLW := Lib.hid (fun a b x y W => rlower_c a b x y W)
  have hR0 := hR
  obtain ⟨p, c, rfl, -⟩ := hR
  have HR := Lib.hid hR0
  obtain ⟨n, hln⟩ : ∃ n, n = l.length := ⟨_, rfl⟩
  rw [← hln] at HK HOW HBD HPL HR ⊢
  have HN := Lib.hid hln
  have HK1 := Lib.hid (HK.out w (Below.refl _ _))
  clear hR0 hln
  go_enter Try.func18, Try.ntmps18
  go_wp2_with fail
  refine HK1.out.mono ?_
  rintro e w1 ⟨z, rfl, hz, rfl⟩
  have HZ := Lib.hid hz
  clear hz HK1
  by_cases hz0 : z = 0
  rotate_left
  · have e1 : (z == 0) = false := by simpa using hz0
    have HO : Hid (OrdR l [] z) := ⟨HZ.out, .inl ⟨hz0, rfl⟩⟩
    have HK2 := Lib.hid (HK.out w1 (Below.refl _ _))
    go_wp2_with fail
    refine HK2.out.mono ?_
    rintro e w2 ⟨z2, rfl, hz2, rfl⟩
    obtain rfl := HZ.out.one hz2
    clear hz2
    go_wp2_with fail
    refine bodyPost_ret (results_tmp2 rfl _ _ _) rfl ?_
    exact ⟨_, _, z, rfl, RdI.nil _ _, HO.out, Below.refl _ _⟩
  · have HG := Lib.hid (HZ.out.good hz0)
    have HO : Hid (∀ zs, Ord l zs → OrdR l zs 0) := fun zs h => ⟨hz0 ▸ HZ.out, .inr ⟨rfl, h⟩⟩
    have HZ0 := Lib.hid (show ChkR l 0 from hz0 ▸ HZ.out)
    subst hz0
    have HN128 := Lib.hid (show n ≤ 128 by have := HN.out; have := HG.out.1; omega)
    have HC1 := Lib.hid (HOW.out w1 (Below.refl _ _))
    clear HOW HK
    go_wp2_with fail
    with_reducible refine HC1.out.mono ?_
    rintro e w2 ⟨vo, zs1, rfl, ho1, ho2, hb⟩
    have HB2 := Lib.hid hb
    have HC2 := Lib.hid (HBD.out w2 hb)
    have h1 : zs1 = l.map (owI l) := ho2.one ⟨0, HZ0.out, .inr ⟨rfl, rfl⟩⟩
    subst h1
    have HO1 := Lib.hid ho1
    clear hb ho1 ho2 HBD HC1
    go_wp2_with fail
    with_reducible refine HC2.out.mono ?_
    rintro e w3 ⟨vb, zs2, rfl, hv1, hv2, hb⟩
    have h1 : zs2 = l.map (fun x => bd l x.c) := hv2.one ⟨0, HZ0.out, .inr ⟨rfl, rfl⟩⟩
    subst h1
    have HO3 := Lib.hid (HO1.out.below hb)
    have HV3 := Lib.hid hv1
    have HB3 := Lib.hid (HB2.out.trans (hb.mono HB2.out.size))
    obtain ⟨q, cq, rfl, -⟩ := HO1.out
    obtain ⟨q2, cq2, rfl, -⟩ := hv1
    rw [List.length_map, ← HN.out] at HO3
    rw [List.length_map, ← HN.out] at HV3
    simp only [List.length_map, ← HN.out]
    have hmkB := fun W => makeB_c l n HN.out HN128.out W
    obtain ⟨w4, hw4⟩ : ∃ u, u = w3.alloc (.cells (arrB l []) 4) := ⟨_, rfl⟩
    obtain ⟨gT, hgT⟩ : ∃ g, g = w3.heap.size := ⟨_, rfl⟩
    have hT4 : Blk w4 gT 4 (arrB l []) := by rw [hw4, hgT]; exact Blk.new _ _ _
    have HT4 := Lib.hid hT4
    have HB34 := Lib.hid (show Below w3.heap.size w3 w4 by rw [hw4]; exact (Below.refl _ _).alloc (Nat.le_refl _) _)
    have HGT := Lib.hid (show w3.heap.size ≤ gT ∧ gT < w4.heap.size from ⟨by rw [hgT]; exact Nat.le_refl _, hT4.lt⟩)
    have HW4 := Lib.hid hw4
    have HGG := Lib.hid hgT
    clear hb hv2 hw4 hgT hT4 HC2 HO1
    go_upto_region 5 with fail
    rewrite [← HW4.out, ← HGG.out]
    clear HW4 HGG hmkB
    go_upto_region 7 with fail
    go_loopw [7, 8] (fun v z wr => ∃ (k : Nat) (out : List Int), k ≤ n ∧ z = .int .i64 k ∧ Below w3.heap.size w3 wr ∧ w4.heap.size ≤ wr.heap.size ∧ Blk wr gT 4 (arrB l out) ∧ OwI wr w4.heap.size v out ∧ Asd (out.length = k) ∧ Asd (∀ (j : Nat) (c : Int), out[j]? = some c → Nxt l (out.take j) c)) (fun _ z _ => n - (intOf z).toNat)
    case atStart => exact ⟨0, [], Nat.zero_le _, rfl, HB34.out, Nat.le_refl _, HT4.out, OwI.nil _ _, rfl, fun j c hj => by simp at hj⟩
    case round =>
      clear HT4
      obtain ⟨k, out, hk, rfl, hB, hSz, hT, hW, hA1, hA2⟩ := hrel
      have HB := Lib.hid hB
      have HW := Lib.hid hW
      have HSz := Lib.hid hSz
      have HT := Lib.hid hT
      have HKL := Lib.hid (show out.length = k from hA1)
      have HNX := Lib.hid (show ∀ (j : Nat) (c : Int), out[j]? = some c → Nxt l (out.take j) c from hA2)
      have hn3 : n ≤ 128 := HN128.out
      clear hA1 hA2 hB hSz hT hW
      by_cases hlt : k < n
      rotate_left
      · obtain rfl : k = n := by omega
        have HRD := Lib.hid HW.out.rd
        have HOO := Lib.hid (HO.out out ⟨by rw [HKL.out, HN.out], HNX.out⟩)
        have HBB := Lib.hid (HB3.out.trans (HB.out.mono HB3.out.size))
        go_wp2_with fail
        refine bodyPost_ret (results_tmp2 rfl _ _ _) rfl ?_
        exact ⟨_, _, 0, rfl, HRD.out, HOO.out, HBB.out⟩
      · obtain ⟨x0, hx0⟩ : ∃ x, l[0]? = some x := ⟨_, List.getElem?_eq_getElem (by rw [← HN.out]; omega)⟩
        obtain ⟨b, o, rfl, hRB⟩ := HR.out.open hx0
        obtain ⟨qb, qo, rfl, hq1, hq2⟩ := HO3.out.open (show (l.map (owI l))[0]? = some (owI l x0) by rw [List.getElem?_map, hx0]; rfl)
        obtain ⟨bb2, bo2, rfl, hp1, hp2⟩ := HV3.out.open (show (l.map (fun x => bd l x.c))[0]? = some (bd l x0.c) by rw [List.getElem?_map, hx0]; rfl)
        have HRW : Hid (Rws l b o qb qo bb2 bo2 w3) := fun W h => ⟨hRB.below (HB3.out.trans (h.mono HB3.out.size)), fun j y hy => ⟨(h.cell (p := ⟨qb, qo + j, none⟩) hq1).trans (hq2 j _ (by rw [List.getElem?_map, hy]; rfl)), (h.cell (p := ⟨bb2, bo2 + j, none⟩) hp1).trans (hp2 j _ (by rw [List.getElem?_map, hy]; rfl))⟩⟩
        clear hx0 hRB hq1 hq2 hp1 hp2
        obtain ⟨wp, hwp⟩ : ∃ wp, wp = wr := ⟨_, rfl⟩
        subst hwp
        go_upto_region 11 with fail
        go_loopw [9, 10] (fun u z wr => ∃ (i : Nat) (be : Int), i ≤ n ∧ u = .int .i64 be ∧ z = .int .i64 i ∧ Below wp.heap.size wp wr ∧ Asd (Bst l out i be)) (fun _ z _ => n - (intOf z).toNat)
        case atStart => exact ⟨0, -1, Nat.zero_le _, rfl, rfl, Below.refl _ _, Bst.start l out⟩
        case round =>
          obtain ⟨i, be, hi, rfl, rfl, hBi, hA⟩ := hrel
          have HA := Lib.hid (show Bst l out i be from hA)
          have HBi := Lib.hid hBi
          clear hA hBi
          have HB3r := Lib.hid (HB.out.trans (HBi.out.mono HB.out.size))
          have HTr := Lib.hid (HT.out.next HBi.out)
          by_cases hlt2 : i < n
          · obtain ⟨x, hx⟩ : ∃ x, l[i]? = some x := ⟨_, List.getElem?_eq_getElem (by rw [← HN.out]; exact hlt2)⟩
            have hi0 : (0 : Int) ≤ (i : Int) := by omega
            have hi1 : (i : Int) < (n : Int) := by omega
            have HX := Lib.hid hx
            have cq0 := ((HRW.out wr HB3r.out).2 i x hx).1
            have HBd := Lib.hid (Below.refl wr.heap.size wr).drew
            -- what region 13 tells
            have HF : Hid (∀ (K : Bool → Prop), K (frB l out x.c) → ∃ fb, fb = frB l out x.c ∧ K fb) := fun K hK => ⟨_, rfl, hK⟩
            clear HF
            obtain ⟨db, hdb⟩ : ∃ d, d = decide (x.c ∈ out) := ⟨_, rfl⟩
            have HDB := Lib.hid hdb
            have HTI := Lib.hid (show ∀ W, Below wr.heap.size wr W → W.cell? ⟨gT, i, none⟩ = some (.bool db) from fun W h => (HTr.out.next h).at_ (by rw [hdb]; exact arrB_at hx))
            have HBX := Lib.hid (show ∀ W, Below wr.heap.size wr W → RdB W b o l ∧ ∀ (j : Nat) (y : It), l[j]? = some y → W.cell? ⟨bb2, bo2 + j, none⟩ = some (.int .i64 (bd l y.c)) from fun W h => ⟨(HRW.out W (HB3r.out.trans (h.mono HB3r.out.size))).1, fun j y hy => ((HRW.out W (HB3r.out.trans (h.mono HB3r.out.size))).2 j y hy).2⟩)
            clear hdb hx
            obtain ⟨fb, hfb⟩ : ∃ d, d = frB l out x.c := ⟨_, rfl⟩
            have HFB := Lib.hid hfb
            have HNC := Lib.hid (show (db = true ∨ fb = false) → ¬ Cnd l out x.c from fun h hc => by
              rcases h with h | h
              · rw [HDB.out, decide_eq_true_iff] at h; exact hc.1 h
              · rw [HFB.out, frB_iff.2 hc.2] at h; cases h)
            have HYC := Lib.hid (show db = false → fb = true → Cnd l out x.c from fun h h2 => ⟨by rw [HDB.out, decide_eq_false_iff_not] at h; exact h, frB_iff.1 (by rw [← HFB.out]; exact h2)⟩)
            go_upto_region 13 with fail
            go_cut [11] (fun s11 wx => s11 = .bool fb ∧ wx = wr)
            case first =>
              cases hox : ow l x.c with
              | none =>
                have e0 : owI l x = 0 := by unfold owI; rw [hox]; rfl
                rw [e0] at cq0
                have HFF := Lib.hid (show fb = true by rw [hfb]; exact frB_none hox)
                clear hox e0 hfb
                go_wp2_with fail
                go_meet
                exact ⟨by rw [HFF.out], rfl⟩
              | some d =>
                obtain ⟨j, y, hj, rfl, -, hjl, -⟩ := cl_at HG.out.2.1 (ow_cl _ _ hox)
                have e0 : owI l x = y.c := by unfold owI; rw [hox]; rfl
                rw [e0] at cq0
                have hcp := (okT_parts (HG.out.2.2 y (List.mem_of_getElem? hj)))
                have hd0 : ¬ (y.c = 0) := by omega
                have e1 : (y.c == 0) = false := by simpa using hd0
                have HP2 := Lib.hid (HPL.out y.c wr (HB3.out.trans (HB3r.out.mono HB3.out.size)) (by have := HN.out; omega))
                rw [plc_at (show (cl l)[j]? = some y.c by unfold cl; rw [List.getElem?_map, hj]; rfl) HG.out.2.1] at HP2
                have cT := HTr.out.at_ (arrB_at (out := out) hj)
                have hk0 : (0 : Int) ≤ (j : Int) := by omega
                have hk1 : (j : Int) < (n : Int) := by have := HN.out; omega
                have HFF := Lib.hid (show fb = decide (y.c ∈ out) by rw [hfb]; exact frB_some hox)
                obtain ⟨D, hD⟩ : ∃ D, D = decide (y.c ∈ out) := ⟨_, rfl⟩
                rw [← hD] at HFF cT
                clear hox e0 hfb hj hjl hcp hD
                go_wp2_with fail
                refine HP2.out.mono ?_
                rintro e w5 ⟨rfl, rfl⟩
                go_wp2_with fail
                go_meet
                exact ⟨by rw [HFF.out], rfl⟩
            case rest =>
              obtain ⟨rfl, hwx⟩ := hcut
              have hwx := hwx.symm
              subst hwx
              clear cq0 hfb
              cases db with
              | true =>
                have HSK := Lib.hid (HA.out.skip HX.out (HNC.out (.inl rfl)))
                have HSS := HTI
                go_upto_region 14 with fail
                refine wp_region_noPanic ?_
                refine wp_region_held_drew (S := fun wx => wx.cell? ⟨gT, i, none⟩ = some (.bool true)) (by kernel_rfl) (by exact HSS.out _ HBd.out) (fun hHeld => ?_)
                refine wpAnyH_take (i := 0) (v := ?va0) rfl (by kernel_rfl) (by kernel_rfl) (by kernel_rfl) (fun _ _ _ h => h) (Or.inl ⟨by kernel_rfl, ?ya0⟩) (by assumption) ?ra0
                case ya0 => (intro wq hSw; (try dsimp only at hSw); go_simp; (try with_reducible rfl))
                (try simp only [Act.put, List.getElem_toArray, List.getElem_cons_zero, List.setIfInBounds_toArray, List.set_cons_zero, List.set_cons_succ])
                refine wpAnyH_take (i := 1) (v := ?va1) rfl (by kernel_rfl) (by kernel_rfl) (by kernel_rfl) (fun _ _ _ h => h) (Or.inl ⟨by kernel_rfl, ?ya1⟩) (by assumption) ?ra1
                case ya1 => (intro wq hSw; (try dsimp only at hSw); go_simp; (try with_reducible rfl))
                (try simp only [Act.put, List.getElem_toArray, List.getElem_cons_succ, List.getElem_cons_zero, List.setIfInBounds_toArray, List.set_cons_zero, List.set_cons_succ])
                refine wpAnyH_take (i := 2) (v := ?va2) rfl (by kernel_rfl) (by kernel_rfl) (by kernel_rfl) (fun _ _ _ h => h) (Or.inl ⟨by kernel_rfl, ?ya2⟩) (by assumption) ?ra2
                case ya2 => (intro wq hSw; (try dsimp only at hSw); go_simp; (try with_reducible rfl))
                (try simp only [Act.put, List.getElem_toArray, List.getElem_cons_succ, List.getElem_cons_zero, List.setIfInBounds_toArray, List.set_cons_zero, List.set_cons_succ])
                refine wpAnyH_take (i := 3) (v := ?va3) rfl (by kernel_rfl) (by kernel_rfl) (by kernel_rfl) (fun _ _ _ h => h) (Or.inl ⟨by kernel_rfl, ?ya3⟩) (by assumption) ?ra3
                case ya3 => (intro wq hSw; (try dsimp only at hSw); go_simp; (try with_reducible rfl))
                (try simp only [Act.put, List.getElem_toArray, List.getElem_cons_succ, List.getElem_cons_zero, List.setIfInBounds_toArray, List.set_cons_zero, List.set_cons_succ])
                refine wpAnyH_take (i := 4) (v := ?va4) rfl (by kernel_rfl) (by kernel_rfl) (by kernel_rfl) (fun _ _ _ h => h) (Or.inl ⟨by kernel_rfl, ?ya4⟩) (by assumption) ?ra4
                case ya4 => (intro wq hSw; (try dsimp only at hSw); go_simp; (try with_reducible rfl))
                (try simp only [Act.put, List.getElem_toArray, List.getElem_cons_succ, List.getElem_cons_zero, List.setIfInBounds_toArray, List.set_cons_zero, List.set_cons_succ])
                refine wpAnyH_take (i := 5) (v := ?va5) rfl (by kernel_rfl) (by kernel_rfl) (by kernel_rfl) (fun _ _ _ h => h) (Or.inl ⟨by kernel_rfl, ?ya5⟩) (by assumption) ?ra5
                case ya5 => (intro wq hSw; (try dsimp only at hSw); go_simp; (try with_reducible rfl))
                (try simp only [Act.put, List.getElem_toArray, List.getElem_cons_succ, List.getElem_cons_zero, List.setIfInBounds_toArray, List.set_cons_zero, List.set_cons_succ])
                refine wpAnyH_take (i := 6) (v := undef) rfl (by kernel_rfl) (by kernel_rfl) (by kernel_rfl) (fun _ _ _ h => h) (Or.inr ⟨by kernel_rfl, rfl⟩) (by assumption) ?_
                (try simp only [Act.put, List.getElem_toArray, List.getElem_cons_succ, List.getElem_cons_zero, List.setIfInBounds_toArray, List.set_cons_zero, List.set_cons_succ])
                refine wpAnyH_take (i := 7) (v := ?va7) rfl (by kernel_rfl) (by kernel_rfl) (by kernel_rfl) (fun _ _ _ h => h) (Or.inl ⟨by kernel_rfl, ?ya7⟩) (by assumption) ?ra7
                case ya7 => (intro wq hSw; (try dsimp only at hSw); go_simp; (try with_reducible rfl))
                (try simp only [Act.put, List.getElem_toArray, List.getElem_cons_succ, List.getElem_cons_zero, List.setIfInBounds_toArray, List.set_cons_zero, List.set_cons_succ])
                refine wpAnyH_take (i := 8) (v := ?va8) rfl (by kernel_rfl) (by kernel_rfl) (by kernel_rfl) (fun _ _ _ h => h) (Or.inl ⟨by kernel_rfl, ?ya8⟩) (by assumption) ?ra8
                case ya8 => (intro wq hSw; (try dsimp only at hSw); go_simp; (try with_reducible rfl))
                (try simp only [Act.put, List.getElem_toArray, List.getElem_cons_succ, List.getElem_cons_zero, List.setIfInBounds_toArray, List.set_cons_zero, List.set_cons_succ])
                refine wpAnyH_take (i := 9) (v := undef) rfl (by kernel_rfl) (by kernel_rfl) (by kernel_rfl) (fun _ _ _ h => h) (Or.inr ⟨by kernel_rfl, rfl⟩) (by assumption) ?_
                (try simp only [Act.put, List.getElem_toArray, List.getElem_cons_succ, List.getElem_cons_zero, List.setIfInBounds_toArray, List.set_cons_zero, List.set_cons_succ])
                refine wpAnyH_take (i := 10) (v := undef) rfl (by kernel_rfl) (by kernel_rfl) (by kernel_rfl) (fun _ _ _ h => h) (Or.inr ⟨by kernel_rfl, rfl⟩) (by assumption) ?_
                (try simp only [Act.put, List.getElem_toArray, List.getElem_cons_succ, List.getElem_cons_zero, List.setIfInBounds_toArray, List.set_cons_zero, List.set_cons_succ])
                refine wpAnyH_take (i := 11) (v := undef) rfl (by kernel_rfl) (by kernel_rfl) (by kernel_rfl) (fun _ _ _ h => h) (Or.inr ⟨by kernel_rfl, rfl⟩) (by assumption) ?_
                (try simp only [Act.put, List.getElem_toArray, List.getElem_cons_succ, List.getElem_cons_zero, List.setIfInBounds_toArray, List.set_cons_zero, List.set_cons_succ])
                refine wpAnyH_take (i := 12) (v := undef) rfl (by kernel_rfl) (by kernel_rfl) (by kernel_rfl) (fun _ _ _ h => h) (Or.inr ⟨by kernel_rfl, rfl⟩) (by assumption) ?_
                (try simp only [Act.put, List.getElem_toArray, List.getElem_cons_succ, List.getElem_cons_zero, List.setIfInBounds_toArray, List.set_cons_zero, List.set_cons_succ])
                refine wpAnyH_take (i := 13) (v := undef) rfl (by kernel_rfl) (by kernel_rfl) (by kernel_rfl) (fun _ _ _ h => h) (Or.inr ⟨by kernel_rfl, rfl⟩) (by assumption) ?_
                (try simp only [Act.put, List.getElem_toArray, List.getElem_cons_succ, List.getElem_cons_zero, List.setIfInBounds_toArray, List.set_cons_zero, List.set_cons_succ])
                refine wpAnyH_take (i := 14) (v := undef) rfl (by kernel_rfl) (by kernel_rfl) (by kernel_rfl) (fun _ _ _ h => h) (Or.inr ⟨by kernel_rfl, rfl⟩) (by assumption) ?_
                (try simp only [Act.put, List.getElem_toArray, List.getElem_cons_succ, List.getElem_cons_zero, List.setIfInBounds_toArray, List.set_cons_zero, List.set_cons_succ])
                refine wpAnyH_take (i := 15) (v := undef) rfl (by kernel_rfl) (by kernel_rfl) (by kernel_rfl) (fun _ _ _ h => h) (Or.inr ⟨by kernel_rfl, rfl⟩) (by assumption) ?_
                (try simp only [Act.put, List.getElem_toArray, List.getElem_cons_succ, List.getElem_cons_zero, List.setIfInBounds_toArray, List.set_cons_zero, List.set_cons_succ])
                refine wpAnyH_take (i := 16) (v := undef) rfl (by kernel_rfl) (by kernel_rfl) (by kernel_rfl) (fun _ _ _ h => h) (Or.inr ⟨by kernel_rfl, rfl⟩) (by assumption) ?_
                (try simp only [Act.put, List.getElem_toArray, List.getElem_cons_succ, List.getElem_cons_zero, List.setIfInBounds_toArray, List.set_cons_zero, List.set_cons_succ])
                refine wpAnyH_take (i := 17) (v := undef) rfl (by kernel_rfl) (by kernel_rfl) (by kernel_rfl) (fun _ _ _ h => h) (Or.inr ⟨by kernel_rfl, rfl⟩) (by assumption) ?_
                (try simp only [Act.put, List.getElem_toArray, List.getElem_cons_succ, List.getElem_cons_zero, List.setIfInBounds_toArray, List.set_cons_zero, List.set_cons_succ])
                refine wpAnyH_take (i := 18) (v := undef) rfl (by kernel_rfl) (by kernel_rfl) (by kernel_rfl) (fun _ _ _ h => h) (Or.inr ⟨by kernel_rfl, rfl⟩) (by assumption) ?_
                (try simp only [Act.put, List.getElem_toArray, List.getElem_cons_succ, List.getElem_cons_zero, List.setIfInBounds_toArray, List.set_cons_zero, List.set_cons_succ])
                refine wpAnyH_take (i := 19) (v := undef) rfl (by kernel_rfl) (by kernel_rfl) (by kernel_rfl) (fun _ _ _ h => h) (Or.inr ⟨by kernel_rfl, rfl⟩) (by assumption) ?_
                (try simp only [Act.put, List.getElem_toArray, List.getElem_cons_succ, List.getElem_cons_zero, List.setIfInBounds_toArray, List.set_cons_zero, List.set_cons_succ])
                refine wpAnyH_take (i := 20) (v := undef) rfl (by kernel_rfl) (by kernel_rfl) (by kernel_rfl) (fun _ _ _ h => h) (Or.inr ⟨by kernel_rfl, rfl⟩) (by assumption) ?_
                (try simp only [Act.put, List.getElem_toArray, List.getElem_cons_succ, List.getElem_cons_zero, List.setIfInBounds_toArray, List.set_cons_zero, List.set_cons_succ])
                refine wpAnyH_take (i := 21) (v := undef) rfl (by kernel_rfl) (by kernel_rfl) (by kernel_rfl) (fun _ _ _ h => h) (Or.inr ⟨by kernel_rfl, rfl⟩) (by assumption) ?_
                (try simp only [Act.put, List.getElem_toArray, List.getElem_cons_succ, List.getElem_cons_zero, List.setIfInBounds_toArray, List.set_cons_zero, List.set_cons_succ])
                refine wpAnyH_take (i := 22) (v := undef) rfl (by kernel_rfl) (by kernel_rfl) (by kernel_rfl) (fun _ _ _ h => h) (Or.inr ⟨by kernel_rfl, rfl⟩) (by assumption) ?_
                (try simp only [Act.put, List.getElem_toArray, List.getElem_cons_succ, List.getElem_cons_zero, List.setIfInBounds_toArray, List.set_cons_zero, List.set_cons_succ])
                refine wpAnyH_take (i := 23) (v := undef) rfl (by kernel_rfl) (by kernel_rfl) (by kernel_rfl) (fun _ _ _ h => h) (Or.inr ⟨by kernel_rfl, rfl⟩) (by assumption) ?_
                (try simp only [Act.put, List.getElem_toArray, List.getElem_cons_succ, List.getElem_cons_zero, List.setIfInBounds_toArray, List.set_cons_zero, List.set_cons_succ])
                refine wpAnyH_take (i := 24) (v := undef) rfl (by kernel_rfl) (by kernel_rfl) (by kernel_rfl) (fun _ _ _ h => h) (Or.inr ⟨by kernel_rfl, rfl⟩) (by assumption) ?_
                (try simp only [Act.put, List.getElem_toArray, List.getElem_cons_succ, List.getElem_cons_zero, List.setIfInBounds_toArray, List.set_cons_zero, List.set_cons_succ])
                refine wpAnyH_take (i := 25) (v := undef) rfl (by kernel_rfl) (by kernel_rfl) (by kernel_rfl) (fun _ _ _ h => h) (Or.inr ⟨by kernel_rfl, rfl⟩) (by assumption) ?_
                (try simp only [Act.put, List.getElem_toArray, List.getElem_cons_succ, List.getElem_cons_zero, List.setIfInBounds_toArray, List.set_cons_zero, List.set_cons_succ])
                refine wpAnyH_take (i := 26) (v := undef) rfl (by kernel_rfl) (by kernel_rfl) (by kernel_rfl) (fun _ _ _ h => h) (Or.inr ⟨by kernel_rfl, rfl⟩) (by assumption) ?_
                (try simp only [Act.put, List.getElem_toArray, List.getElem_cons_succ, List.getElem_cons_zero, List.setIfInBounds_toArray, List.set_cons_zero, List.set_cons_succ])
                refine wpAnyH_take (i := 27) (v := undef) rfl (by kernel_rfl) (by kernel_rfl) (by kernel_rfl) (fun _ _ _ h => h) (Or.inr ⟨by kernel_rfl, rfl⟩) (by assumption) ?_
                (try simp only [Act.put, List.getElem_toArray, List.getElem_cons_succ, List.getElem_cons_zero, List.setIfInBounds_toArray, List.set_cons_zero, List.set_cons_succ])
                refine wpAnyH_take (i := 28) (v := undef) rfl (by kernel_rfl) (by kernel_rfl) (by kernel_rfl) (fun _ _ _ h => h) (Or.inr ⟨by kernel_rfl, rfl⟩) (by assumption) ?_
                (try simp only [Act.put, List.getElem_toArray, List.getElem_cons_succ, List.getElem_cons_zero, List.setIfInBounds_toArray, List.set_cons_zero, List.set_cons_succ])
                refine wpAnyH_take (i := 29) (v := undef) rfl (by kernel_rfl) (by kernel_rfl) (by kernel_rfl) (fun _ _ _ h => h) (Or.inr ⟨by kernel_rfl, rfl⟩) (by assumption) ?_
                (try simp only [Act.put, List.getElem_toArray, List.getElem_cons_succ, List.getElem_cons_zero, List.setIfInBounds_toArray, List.set_cons_zero, List.set_cons_succ])
                refine wpAnyH_take (i := 30) (v := ?va30) rfl (by kernel_rfl) (by kernel_rfl) (by kernel_rfl) (fun _ _ _ h => h) (Or.inl ⟨by kernel_rfl, ?ya30⟩) (by assumption) ?ra30
                case ya30 => (intro wq hSw; (try dsimp only at hSw); go_simp; (try with_reducible rfl))
                (try simp only [Act.put, List.getElem_toArray, List.getElem_cons_succ, List.getElem_cons_zero, List.setIfInBounds_toArray, List.set_cons_zero, List.set_cons_succ])
                refine wpAnyH_done (by kernel_rfl) ?_ _
                refine NoPanic.normal ?_
                clear hHeld HSS
                have HB9 := Lib.hid HBi.out.drew
                go_wp2_with fail
                go_roundw
                case rel => exact ⟨i + 1, be, by omega, by simp, by go_num, HB9.out, HSK.out⟩
                case measure => simp [intOf]; omega
              | false =>
                cases fb with
                | false =>
                  have HSK := Lib.hid (HA.out.skip HX.out (HNC.out (.inr rfl)))
                  have HSS := HTI
                  go_upto_region 14 with fail
                  refine wp_region_noPanic ?_
                  refine wp_region_held_drew (S := fun wx => wx.cell? ⟨gT, i, none⟩ = some (.bool false)) (by kernel_rfl) (by exact HSS.out _ HBd.out) (fun hHeld => ?_)
                  refine wpAnyH_take (i := 0) (v := ?vb0) rfl (by kernel_rfl) (by kernel_rfl) (by kernel_rfl) (fun _ _ _ h => h) (Or.inl ⟨by kernel_rfl, ?yb0⟩) (by assumption) ?rb0
                  case yb0 => (intro wq hSw; (try dsimp only at hSw); go_simp; (try with_reducible rfl))
                  (try simp only [Act.put, List.getElem_toArray, List.getElem_cons_zero, List.setIfInBounds_toArray, List.set_cons_zero, List.set_cons_succ])
                  refine wpAnyH_take (i := 1) (v := ?vb1) rfl (by kernel_rfl) (by kernel_rfl) (by kernel_rfl) (fun _ _ _ h => h) (Or.inl ⟨by kernel_rfl, ?yb1⟩) (by assumption) ?rb1
                  case yb1 => (intro wq hSw; (try dsimp only at hSw); go_simp; (try with_reducible rfl))
                  (try simp only [Act.put, List.getElem_toArray, List.getElem_cons_succ, List.getElem_cons_zero, List.setIfInBounds_toArray, List.set_cons_zero, List.set_cons_succ])
                  refine wpAnyH_take (i := 2) (v := ?vb2) rfl (by kernel_rfl) (by kernel_rfl) (by kernel_rfl) (fun _ _ _ h => h) (Or.inl ⟨by kernel_rfl, ?yb2⟩) (by assumption) ?rb2
                  case yb2 => (intro wq hSw; (try dsimp only at hSw); go_simp; (try with_reducible rfl))
                  (try simp only [Act.put, List.getElem_toArray, List.getElem_cons_succ, List.getElem_cons_zero, List.setIfInBounds_toArray, List.set_cons_zero, List.set_cons_succ])
                  refine wpAnyH_take (i := 3) (v := ?vb3) rfl (by kernel_rfl) (by kernel_rfl) (by kernel_rfl) (fun _ _ _ h => h) (Or.inl ⟨by kernel_rfl, ?yb3⟩) (by assumption) ?rb3
                  case yb3 => (intro wq hSw; (try dsimp only at hSw); go_simp; (try with_reducible rfl))
                  (try simp only [Act.put, List.getElem_toArray, List.getElem_cons_succ, List.getElem_cons_zero, List.setIfInBounds_toArray, List.set_cons_zero, List.set_cons_succ])
                  refine wpAnyH_take (i := 4) (v := ?vb4) rfl (by kernel_rfl) (by kernel_rfl) (by kernel_rfl) (fun _ _ _ h => h) (Or.inl ⟨by kernel_rfl, ?yb4⟩) (by assumption) ?rb4
                  case yb4 => (intro wq hSw; (try dsimp only at hSw); go_simp; (try with_reducible rfl))
                  (try simp only [Act.put, List.getElem_toArray, List.getElem_cons_succ, List.getElem_cons_zero, List.setIfInBounds_toArray, List.set_cons_zero, List.set_cons_succ])
                  refine wpAnyH_take (i := 5) (v := ?vb5) rfl (by kernel_rfl) (by kernel_rfl) (by kernel_rfl) (fun _ _ _ h => h) (Or.inl ⟨by kernel_rfl, ?yb5⟩) (by assumption) ?rb5
                  case yb5 => (intro wq hSw; (try dsimp only at hSw); go_simp; (try with_reducible rfl))
                  (try simp only [Act.put, List.getElem_toArray, List.getElem_cons_succ, List.getElem_cons_zero, List.setIfInBounds_toArray, List.set_cons_zero, List.set_cons_succ])
                  refine wpAnyH_take (i := 6) (v := ?vb6) rfl (by kernel_rfl) (by kernel_rfl) (by kernel_rfl) (fun _ _ _ h => h) (Or.inl ⟨by kernel_rfl, ?yb6⟩) (by assumption) ?rb6
                  case yb6 => (intro wq hSw; (try dsimp only at hSw); go_simp; (try with_reducible rfl))
                  (try simp only [Act.put, List.getElem_toArray, List.getElem_cons_succ, List.getElem_cons_zero, List.setIfInBounds_toArray, List.set_cons_zero, List.set_cons_succ])
                  refine wpAnyH_take (i := 7) (v := ?vb7) rfl (by kernel_rfl) (by kernel_rfl) (by kernel_rfl) (fun _ _ _ h => h) (Or.inl ⟨by kernel_rfl, ?yb7⟩) (by assumption) ?rb7
                  case yb7 => (intro wq hSw; (try dsimp only at hSw); go_simp; (try with_reducible rfl))
                  (try simp only [Act.put, List.getElem_toArray, List.getElem_cons_succ, List.getElem_cons_zero, List.setIfInBounds_toArray, List.set_cons_zero, List.set_cons_succ])
                  refine wpAnyH_take (i := 8) (v := ?vb8) rfl (by kernel_rfl) (by kernel_rfl) (by kernel_rfl) (fun _ _ _ h => h) (Or.inl ⟨by kernel_rfl, ?yb8⟩) (by assumption) ?rb8
                  case yb8 => (intro wq hSw; (try dsimp only at hSw); go_simp; (try with_reducible rfl))
                  (try simp only [Act.put, List.getElem_toArray, List.getElem_cons_succ, List.getElem_cons_zero, List.setIfInBounds_toArray, List.set_cons_zero, List.set_cons_succ])
                  refine wpAnyH_take (i := 9) (v := undef) rfl (by kernel_rfl) (by kernel_rfl) (by kernel_rfl) (fun _ _ _ h => h) (Or.inr ⟨by kernel_rfl, rfl⟩) (by assumption) ?_
                  (try simp only [Act.put, List.getElem_toArray, List.getElem_cons_succ, List.getElem_cons_zero, List.setIfInBounds_toArray, List.set_cons_zero, List.set_cons_succ])
                  refine wpAnyH_take (i := 10) (v := undef) rfl (by kernel_rfl) (by kernel_rfl) (by kernel_rfl) (fun _ _ _ h => h) (Or.inr ⟨by kernel_rfl, rfl⟩) (by assumption) ?_
                  (try simp only [Act.put, List.getElem_toArray, List.getElem_cons_succ, List.getElem_cons_zero, List.setIfInBounds_toArray, List.set_cons_zero, List.set_cons_succ])
                  refine wpAnyH_take (i := 11) (v := undef) rfl (by kernel_rfl) (by kernel_rfl) (by kernel_rfl) (fun _ _ _ h => h) (Or.inr ⟨by kernel_rfl, rfl⟩) (by assumption) ?_
                  (try simp only [Act.put, List.getElem_toArray, List.getElem_cons_succ, List.getElem_cons_zero, List.setIfInBounds_toArray, List.set_cons_zero, List.set_cons_succ])
                  refine wpAnyH_take (i := 12) (v := undef) rfl (by kernel_rfl) (by kernel_rfl) (by kernel_rfl) (fun _ _ _ h => h) (Or.inr ⟨by kernel_rfl, rfl⟩) (by assumption) ?_
                  (try simp only [Act.put, List.getElem_toArray, List.getElem_cons_succ, List.getElem_cons_zero, List.setIfInBounds_toArray, List.set_cons_zero, List.set_cons_succ])
                  refine wpAnyH_take (i := 13) (v := undef) rfl (by kernel_rfl) (by kernel_rfl) (by kernel_rfl) (fun _ _ _ h => h) (Or.inr ⟨by kernel_rfl, rfl⟩) (by assumption) ?_
                  (try simp only [Act.put, List.getElem_toArray, List.getElem_cons_succ, List.getElem_cons_zero, List.setIfInBounds_toArray, List.set_cons_zero, List.set_cons_succ])
                  refine wpAnyH_take (i := 14) (v := undef) rfl (by kernel_rfl) (by kernel_rfl) (by kernel_rfl) (fun _ _ _ h => h) (Or.inr ⟨by kernel_rfl, rfl⟩) (by assumption) ?_
                  (try simp only [Act.put, List.getElem_toArray, List.getElem_cons_succ, List.getElem_cons_zero, List.setIfInBounds_toArray, List.set_cons_zero, List.set_cons_succ])
                  refine wpAnyH_take (i := 15) (v := undef) rfl (by kernel_rfl) (by kernel_rfl) (by kernel_rfl) (fun _ _ _ h => h) (Or.inr ⟨by kernel_rfl, rfl⟩) (by assumption) ?_
                  (try simp only [Act.put, List.getElem_toArray, List.getElem_cons_succ, List.getElem_cons_zero, List.setIfInBounds_toArray, List.set_cons_zero, List.set_cons_succ])
                  refine wpAnyH_take (i := 16) (v := undef) rfl (by kernel_rfl) (by kernel_rfl) (by kernel_rfl) (fun _ _ _ h => h) (Or.inr ⟨by kernel_rfl, rfl⟩) (by assumption) ?_
                  (try simp only [Act.put, List.getElem_toArray, List.getElem_cons_succ, List.getElem_cons_zero, List.setIfInBounds_toArray, List.set_cons_zero, List.set_cons_succ])
                  refine wpAnyH_take (i := 17) (v := undef) rfl (by kernel_rfl) (by kernel_rfl) (by kernel_rfl) (fun _ _ _ h => h) (Or.inr ⟨by kernel_rfl, rfl⟩) (by assumption) ?_
                  (try simp only [Act.put, List.getElem_toArray, List.getElem_cons_succ, List.getElem_cons_zero, List.setIfInBounds_toArray, List.set_cons_zero, List.set_cons_succ])
                  refine wpAnyH_take (i := 18) (v := undef) rfl (by kernel_rfl) (by kernel_rfl) (by kernel_rfl) (fun _ _ _ h => h) (Or.inr ⟨by kernel_rfl, rfl⟩) (by assumption) ?_
                  (try simp only [Act.put, List.getElem_toArray, List.getElem_cons_succ, List.getElem_cons_zero, List.setIfInBounds_toArray, List.set_cons_zero, List.set_cons_succ])
                  refine wpAnyH_take (i := 19) (v := undef) rfl (by kernel_rfl) (by kernel_rfl) (by kernel_rfl) (fun _ _ _ h => h) (Or.inr ⟨by kernel_rfl, rfl⟩) (by assumption) ?_
                  (try simp only [Act.put, List.getElem_toArray, List.getElem_cons_succ, List.getElem_cons_zero, List.setIfInBounds_toArray, List.set_cons_zero, List.set_cons_succ])
                  refine wpAnyH_take (i := 20) (v := undef) rfl (by kernel_rfl) (by kernel_rfl) (by kernel_rfl) (fun _ _ _ h => h) (Or.inr ⟨by kernel_rfl, rfl⟩) (by assumption) ?_
                  (try simp only [Act.put, List.getElem_toArray, List.getElem_cons_succ, List.getElem_cons_zero, List.setIfInBounds_toArray, List.set_cons_zero, List.set_cons_succ])
                  refine wpAnyH_take (i := 21) (v := undef) rfl (by kernel_rfl) (by kernel_rfl) (by kernel_rfl) (fun _ _ _ h => h) (Or.inr ⟨by kernel_rfl, rfl⟩) (by assumption) ?_
                  (try simp only [Act.put, List.getElem_toArray, List.getElem_cons_succ, List.getElem_cons_zero, List.setIfInBounds_toArray, List.set_cons_zero, List.set_cons_succ])
                  refine wpAnyH_take (i := 22) (v := undef) rfl (by kernel_rfl) (by kernel_rfl) (by kernel_rfl) (fun _ _ _ h => h) (Or.inr ⟨by kernel_rfl, rfl⟩) (by assumption) ?_
                  (try simp only [Act.put, List.getElem_toArray, List.getElem_cons_succ, List.getElem_cons_zero, List.setIfInBounds_toArray, List.set_cons_zero, List.set_cons_succ])
                  refine wpAnyH_take (i := 23) (v := undef) rfl (by kernel_rfl) (by kernel_rfl) (by kernel_rfl) (fun _ _ _ h => h) (Or.inr ⟨by kernel_rfl, rfl⟩) (by assumption) ?_
                  (try simp only [Act.put, List.getElem_toArray, List.getElem_cons_succ, List.getElem_cons_zero, List.setIfInBounds_toArray, List.set_cons_zero, List.set_cons_succ])
                  refine wpAnyH_take (i := 24) (v := undef) rfl (by kernel_rfl) (by kernel_rfl) (by kernel_rfl) (fun _ _ _ h => h) (Or.inr ⟨by kernel_rfl, rfl⟩) (by assumption) ?_
                  (try simp only [Act.put, List.getElem_toArray, List.getElem_cons_succ, List.getElem_cons_zero, List.setIfInBounds_toArray, List.set_cons_zero, List.set_cons_succ])
                  refine wpAnyH_take (i := 25) (v := undef) rfl (by kernel_rfl) (by kernel_rfl) (by kernel_rfl) (fun _ _ _ h => h) (Or.inr ⟨by kernel_rfl, rfl⟩) (by assumption) ?_
                  (try simp only [Act.put, List.getElem_toArray, List.getElem_cons_succ, List.getElem_cons_zero, List.setIfInBounds_toArray, List.set_cons_zero, List.set_cons_succ])
                  refine wpAnyH_take (i := 26) (v := undef) rfl (by kernel_rfl) (by kernel_rfl) (by kernel_rfl) (fun _ _ _ h => h) (Or.inr ⟨by kernel_rfl, rfl⟩) (by assumption) ?_
                  (try simp only [Act.put, List.getElem_toArray, List.getElem_cons_succ, List.getElem_cons_zero, List.setIfInBounds_toArray, List.set_cons_zero, List.set_cons_succ])
                  refine wpAnyH_take (i := 27) (v := undef) rfl (by kernel_rfl) (by kernel_rfl) (by kernel_rfl) (fun _ _ _ h => h) (Or.inr ⟨by kernel_rfl, rfl⟩) (by assumption) ?_
                  (try simp only [Act.put, List.getElem_toArray, List.getElem_cons_succ, List.getElem_cons_zero, List.setIfInBounds_toArray, List.set_cons_zero, List.set_cons_succ])
                  refine wpAnyH_take (i := 28) (v := undef) rfl (by kernel_rfl) (by kernel_rfl) (by kernel_rfl) (fun _ _ _ h => h) (Or.inr ⟨by kernel_rfl, rfl⟩) (by assumption) ?_
                  (try simp only [Act.put, List.getElem_toArray, List.getElem_cons_succ, List.getElem_cons_zero, List.setIfInBounds_toArray, List.set_cons_zero, List.set_cons_succ])
                  refine wpAnyH_take (i := 29) (v := undef) rfl (by kernel_rfl) (by kernel_rfl) (by kernel_rfl) (fun _ _ _ h => h) (Or.inr ⟨by kernel_rfl, rfl⟩) (by assumption) ?_
                  (try simp only [Act.put, List.getElem_toArray, List.getElem_cons_succ, List.getElem_cons_zero, List.setIfInBounds_toArray, List.set_cons_zero, List.set_cons_succ])
                  refine wpAnyH_take (i := 30) (v := ?vb30) rfl (by kernel_rfl) (by kernel_rfl) (by kernel_rfl) (fun _ _ _ h => h) (Or.inl ⟨by kernel_rfl, ?yb30⟩) (by assumption) ?rb30
                  case yb30 => (intro wq hSw; (try dsimp only at hSw); go_simp; (try with_reducible rfl))
                  (try simp only [Act.put, List.getElem_toArray, List.getElem_cons_succ, List.getElem_cons_zero, List.setIfInBounds_toArray, List.set_cons_zero, List.set_cons_succ])
                  refine wpAnyH_done (by kernel_rfl) ?_ _
                  refine NoPanic.normal ?_
                  clear hHeld HSS
                  have HB9 := Lib.hid HBi.out.drew
                  go_wp2_with fail
                  go_roundw
                  case rel => exact ⟨i + 1, be, by omega, by simp, by go_num, HB9.out, HSK.out⟩
                  case measure => simp [intOf]; omega
                | true =>
                  have HCN := Lib.hid (HYC.out rfl rfl)
                  by_cases hbe : be < 0
                  · have HSK := Lib.hid (HA.out.first hbe HX.out HCN.out)
                    have HSS := HTI
                    go_upto_region 14 with fail
                    refine wp_region_noPanic ?_
                    refine wp_region_held_drew (S := fun wx => wx.cell? ⟨gT, i, none⟩ = some (.bool false)) (by kernel_rfl) (by exact HSS.out _ HBd.out) (fun hHeld => ?_)
                    refine wpAnyH_take (i := 0) (v := ?vc0) rfl (by kernel_rfl) (by kernel_rfl) (by kernel_rfl) (fun _ _ _ h => h) (Or.inl ⟨by kernel_rfl, ?yc0⟩) (by assumption) ?rc0
                    case yc0 => (intro wq hSw; (try dsimp only at hSw); go_simp; (try with_reducible rfl))
                    (try simp only [Act.put, List.getElem_toArray, List.getElem_cons_zero, List.setIfInBounds_toArray, List.set_cons_zero, List.set_cons_succ])
                    refine wpAnyH_take (i := 1) (v := ?vc1) rfl (by kernel_rfl) (by kernel_rfl) (by kernel_rfl) (fun _ _ _ h => h) (Or.inl ⟨by kernel_rfl, ?yc1⟩) (by assumption) ?rc1
                    case yc1 => (intro wq hSw; (try dsimp only at hSw); go_simp; (try with_reducible rfl))
                    (try simp only [Act.put, List.getElem_toArray, List.getElem_cons_succ, List.getElem_cons_zero, List.setIfInBounds_toArray, List.set_cons_zero, List.set_cons_succ])
                    refine wpAnyH_take (i := 2) (v := ?vc2) rfl (by kernel_rfl) (by kernel_rfl) (by kernel_rfl) (fun _ _ _ h => h) (Or.inl ⟨by kernel_rfl, ?yc2⟩) (by assumption) ?rc2
                    case yc2 => (intro wq hSw; (try dsimp only at hSw); go_simp; (try with_reducible rfl))
                    (try simp only [Act.put, List.getElem_toArray, List.getElem_cons_succ, List.getElem_cons_zero, List.setIfInBounds_toArray, List.set_cons_zero, List.set_cons_succ])
                    refine wpAnyH_take (i := 3) (v := ?vc3) rfl (by kernel_rfl) (by kernel_rfl) (by kernel_rfl) (fun _ _ _ h => h) (Or.inl ⟨by kernel_rfl, ?yc3⟩) (by assumption) ?rc3
                    case yc3 => (intro wq hSw; (try dsimp only at hSw); go_simp; (try with_reducible rfl))
                    (try simp only [Act.put, List.getElem_toArray, List.getElem_cons_succ, List.getElem_cons_zero, List.setIfInBounds_toArray, List.set_cons_zero, List.set_cons_succ])
                    refine wpAnyH_take (i := 4) (v := ?vc4) rfl (by kernel_rfl) (by kernel_rfl) (by kernel_rfl) (fun _ _ _ h => h) (Or.inl ⟨by kernel_rfl, ?yc4⟩) (by assumption) ?rc4
                    case yc4 => (intro wq hSw; (try dsimp only at hSw); go_simp; (try with_reducible rfl))
                    (try simp only [Act.put, List.getElem_toArray, List.getElem_cons_succ, List.getElem_cons_zero, List.setIfInBounds_toArray, List.set_cons_zero, List.set_cons_succ])
                    refine wpAnyH_take (i := 5) (v := ?vc5) rfl (by kernel_rfl) (by kernel_rfl) (by kernel_rfl) (fun _ _ _ h => h) (Or.inl ⟨by kernel_rfl, ?yc5⟩) (by assumption) ?rc5
                    case yc5 => (intro wq hSw; (try dsimp only at hSw); go_simp; (try with_reducible rfl))
                    (try simp only [Act.put, List.getElem_toArray, List.getElem_cons_succ, List.getElem_cons_zero, List.setIfInBounds_toArray, List.set_cons_zero, List.set_cons_succ])
                    refine wpAnyH_take (i := 6) (v := ?vc6) rfl (by kernel_rfl) (by kernel_rfl) (by kernel_rfl) (fun _ _ _ h => h) (Or.inl ⟨by kernel_rfl, ?yc6⟩) (by assumption) ?rc6
                    case yc6 => (intro wq hSw; (try dsimp only at hSw); go_simp; (try with_reducible rfl))
                    (try simp only [Act.put, List.getElem_toArray, List.getElem_cons_succ, List.getElem_cons_zero, List.setIfInBounds_toArray, List.set_cons_zero, List.set_cons_succ])
                    refine wpAnyH_take (i := 7) (v := ?vc7) rfl (by kernel_rfl) (by kernel_rfl) (by kernel_rfl) (fun _ _ _ h => h) (Or.inl ⟨by kernel_rfl, ?yc7⟩) (by assumption) ?rc7
                    case yc7 => (intro wq hSw; (try dsimp only at hSw); go_simp; (try with_reducible rfl))
                    (try simp only [Act.put, List.getElem_toArray, List.getElem_cons_succ, List.getElem_cons_zero, List.setIfInBounds_toArray, List.set_cons_zero, List.set_cons_succ])
                    refine wpAnyH_take (i := 8) (v := ?vc8) rfl (by kernel_rfl) (by kernel_rfl) (by kernel_rfl) (fun _ _ _ h => h) (Or.inl ⟨by kernel_rfl, ?yc8⟩) (by assumption) ?rc8
                    case yc8 => (intro wq hSw; (try dsimp only at hSw); go_simp; (try with_reducible rfl))
                    (try simp only [Act.put, List.getElem_toArray, List.getElem_cons_succ, List.getElem_cons_zero, List.setIfInBounds_toArray, List.set_cons_zero, List.set_cons_succ])
                    refine wpAnyH_take (i := 9) (v := ?vc9) rfl (by kernel_rfl) (by kernel_rfl) (by kernel_rfl) (fun _ _ _ h => h) (Or.inl ⟨by kernel_rfl, ?yc9⟩) (by assumption) ?rc9
                    case yc9 => (intro wq hSw; (try dsimp only at hSw); go_simp; (try with_reducible rfl))
                    (try simp only [Act.put, List.getElem_toArray, List.getElem_cons_succ, List.getElem_cons_zero, List.setIfInBounds_toArray, List.set_cons_zero, List.set_cons_succ])
                    refine wpAnyH_take (i := 10) (v := ?vc10) rfl (by kernel_rfl) (by kernel_rfl) (by kernel_rfl) (fun _ _ _ h => h) (Or.inl ⟨by kernel_rfl, ?yc10⟩) (by assumption) ?rc10
                    case yc10 => (intro wq hSw; (try dsimp only at hSw); go_simp; (try with_reducible rfl))
                    (try simp only [Act.put, List.getElem_toArray, List.getElem_cons_succ, List.getElem_cons_zero, List.setIfInBounds_toArray, List.set_cons_zero, List.set_cons_succ])
                    refine wpAnyH_take (i := 11) (v := ?vc11) rfl (by kernel_rfl) (by kernel_rfl) (by kernel_rfl) (fun _ _ _ h => h) (Or.inl ⟨by kernel_rfl, ?yc11⟩) (by assumption) ?rc11
                    case yc11 => (intro wq hSw; (try dsimp only at hSw); go_simp; (try with_reducible rfl))
                    (try simp only [Act.put, List.getElem_toArray, List.getElem_cons_succ, List.getElem_cons_zero, List.setIfInBounds_toArray, List.set_cons_zero, List.set_cons_succ])
                    refine wpAnyH_take (i := 12) (v := undef) rfl (by kernel_rfl) (by kernel_rfl) (by kernel_rfl) (fun _ _ _ h => h) (Or.inr ⟨by kernel_rfl, rfl⟩) (by assumption) ?_
                    (try simp only [Act.put, List.getElem_toArray, List.getElem_cons_succ, List.getElem_cons_zero, List.setIfInBounds_toArray, List.set_cons_zero, List.set_cons_succ])
                    refine wpAnyH_take (i := 13) (v := undef) rfl (by kernel_rfl) (by kernel_rfl) (by kernel_rfl) (fun _ _ _ h => h) (Or.inr ⟨by kernel_rfl, rfl⟩) (by assumption) ?_
                    (try simp only [Act.put, List.getElem_toArray, List.getElem_cons_succ, List.getElem_cons_zero, List.setIfInBounds_toArray, List.set_cons_zero, List.set_cons_succ])
                    refine wpAnyH_take (i := 14) (v := undef) rfl (by kernel_rfl) (by kernel_rfl) (by kernel_rfl) (fun _ _ _ h => h) (Or.inr ⟨by kernel_rfl, rfl⟩) (by assumption) ?_
                    (try simp only [Act.put, List.getElem_toArray, List.getElem_cons_succ, List.getElem_cons_zero, List.setIfInBounds_toArray, List.set_cons_zero, List.set_cons_succ])
                    refine wpAnyH_take (i := 15) (v := undef) rfl (by kernel_rfl) (by kernel_rfl) (by kernel_rfl) (fun _ _ _ h => h) (Or.inr ⟨by kernel_rfl, rfl⟩) (by assumption) ?_
                    (try simp only [Act.put, List.getElem_toArray, List.getElem_cons_succ, List.getElem_cons_zero, List.setIfInBounds_toArray, List.set_cons_zero, List.set_cons_succ])
                    refine wpAnyH_take (i := 16) (v := undef) rfl (by kernel_rfl) (by kernel_rfl) (by kernel_rfl) (fun _ _ _ h => h) (Or.inr ⟨by kernel_rfl, rfl⟩) (by assumption) ?_
                    (try simp only [Act.put, List.getElem_toArray, List.getElem_cons_succ, List.getElem_cons_zero, List.setIfInBounds_toArray, List.set_cons_zero, List.set_cons_succ])
                    refine wpAnyH_take (i := 17) (v := undef) rfl (by kernel_rfl) (by kernel_rfl) (by kernel_rfl) (fun _ _ _ h => h) (Or.inr ⟨by kernel_rfl, rfl⟩) (by assumption) ?_
                    (try simp only [Act.put, List.getElem_toArray, List.getElem_cons_succ, List.getElem_cons_zero, List.setIfInBounds_toArray, List.set_cons_zero, List.set_cons_succ])
                    refine wpAnyH_take (i := 18) (v := undef) rfl (by kernel_rfl) (by kernel_rfl) (by kernel_rfl) (fun _ _ _ h => h) (Or.inr ⟨by kernel_rfl, rfl⟩) (by assumption) ?_
                    (try simp only [Act.put, List.getElem_toArray, List.getElem_cons_succ, List.getElem_cons_zero, List.setIfInBounds_toArray, List.set_cons_zero, List.set_cons_succ])
                    refine wpAnyH_take (i := 19) (v := undef) rfl (by kernel_rfl) (by kernel_rfl) (by kernel_rfl) (fun _ _ _ h => h) (Or.inr ⟨by kernel_rfl, rfl⟩) (by assumption) ?_
                    (try simp only [Act.put, List.getElem_toArray, List.getElem_cons_succ, List.getElem_cons_zero, List.setIfInBounds_toArray, List.set_cons_zero, List.set_cons_succ])
                    refine wpAnyH_take (i := 20) (v := undef) rfl (by kernel_rfl) (by kernel_rfl) (by kernel_rfl) (fun _ _ _ h => h) (Or.inr ⟨by kernel_rfl, rfl⟩) (by assumption) ?_
                    (try simp only [Act.put, List.getElem_toArray, List.getElem_cons_succ, List.getElem_cons_zero, List.setIfInBounds_toArray, List.set_cons_zero, List.set_cons_succ])
                    refine wpAnyH_take (i := 21) (v := undef) rfl (by kernel_rfl) (by kernel_rfl) (by kernel_rfl) (fun _ _ _ h => h) (Or.inr ⟨by kernel_rfl, rfl⟩) (by assumption) ?_
                    (try simp only [Act.put, List.getElem_toArray, List.getElem_cons_succ, List.getElem_cons_zero, List.setIfInBounds_toArray, List.set_cons_zero, List.set_cons_succ])
                    refine wpAnyH_take (i := 22) (v := undef) rfl (by kernel_rfl) (by kernel_rfl) (by kernel_rfl) (fun _ _ _ h => h) (Or.inr ⟨by kernel_rfl, rfl⟩) (by assumption) ?_
                    (try simp only [Act.put, List.getElem_toArray, List.getElem_cons_succ, List.getElem_cons_zero, List.setIfInBounds_toArray, List.set_cons_zero, List.set_cons_succ])
                    refine wpAnyH_take (i := 23) (v := undef) rfl (by kernel_rfl) (by kernel_rfl) (by kernel_rfl) (fun _ _ _ h => h) (Or.inr ⟨by kernel_rfl, rfl⟩) (by assumption) ?_
                    (try simp only [Act.put, List.getElem_toArray, List.getElem_cons_succ, List.getElem_cons_zero, List.setIfInBounds_toArray, List.set_cons_zero, List.set_cons_succ])
                    refine wpAnyH_take (i := 24) (v := undef) rfl (by kernel_rfl) (by kernel_rfl) (by kernel_rfl) (fun _ _ _ h => h) (Or.inr ⟨by kernel_rfl, rfl⟩) (by assumption) ?_
                    (try simp only [Act.put, List.getElem_toArray, List.getElem_cons_succ, List.getElem_cons_zero, List.setIfInBounds_toArray, List.set_cons_zero, List.set_cons_succ])
                    refine wpAnyH_take (i := 25) (v := undef) rfl (by kernel_rfl) (by kernel_rfl) (by kernel_rfl) (fun _ _ _ h => h) (Or.inr ⟨by kernel_rfl, rfl⟩) (by assumption) ?_
                    (try simp only [Act.put, List.getElem_toArray, List.getElem_cons_succ, List.getElem_cons_zero, List.setIfInBounds_toArray, List.set_cons_zero, List.set_cons_succ])
                    refine wpAnyH_take (i := 26) (v := undef) rfl (by kernel_rfl) (by kernel_rfl) (by kernel_rfl) (fun _ _ _ h => h) (Or.inr ⟨by kernel_rfl, rfl⟩) (by assumption) ?_
                    (try simp only [Act.put, List.getElem_toArray, List.getElem_cons_succ, List.getElem_cons_zero, List.setIfInBounds_toArray, List.set_cons_zero, List.set_cons_succ])
                    refine wpAnyH_take (i := 27) (v := undef) rfl (by kernel_rfl) (by kernel_rfl) (by kernel_rfl) (fun _ _ _ h => h) (Or.inr ⟨by kernel_rfl, rfl⟩) (by assumption) ?_
                    (try simp only [Act.put, List.getElem_toArray, List.getElem_cons_succ, List.getElem_cons_zero, List.setIfInBounds_toArray, List.set_cons_zero, List.set_cons_succ])
                    refine wpAnyH_take (i := 28) (v := undef) rfl (by kernel_rfl) (by kernel_rfl) (by kernel_rfl) (fun _ _ _ h => h) (Or.inr ⟨by kernel_rfl, rfl⟩) (by assumption) ?_
                    (try simp only [Act.put, List.getElem_toArray, List.getElem_cons_succ, List.getElem_cons_zero, List.setIfInBounds_toArray, List.set_cons_zero, List.set_cons_succ])
                    refine wpAnyH_take (i := 29) (v := ?vc29) rfl (by kernel_rfl) (by kernel_rfl) (by kernel_rfl) (fun _ _ _ h => h) (Or.inl ⟨by kernel_rfl, ?yc29⟩) (by assumption) ?rc29
                    case yc29 => (intro wq hSw; (try dsimp only at hSw); go_simp; (try with_reducible rfl))
                    (try simp only [Act.put, List.getElem_toArray, List.getElem_cons_succ, List.getElem_cons_zero, List.setIfInBounds_toArray, List.set_cons_zero, List.set_cons_succ])
                    refine wpAnyH_take (i := 30) (v := ?vc30) rfl (by kernel_rfl) (by kernel_rfl) (by kernel_rfl) (fun _ _ _ h => h) (Or.inl ⟨by kernel_rfl, ?yc30⟩) (by assumption) ?rc30
                    case yc30 => (intro wq hSw; (try dsimp only at hSw); go_simp; (try with_reducible rfl))
                    (try simp only [Act.put, List.getElem_toArray, List.getElem_cons_succ, List.getElem_cons_zero, List.setIfInBounds_toArray, List.set_cons_zero, List.set_cons_succ])
                    refine wpAnyH_done (by kernel_rfl) ?_ _
                    refine NoPanic.normal ?_
                    clear hHeld HSS
                    have HB9 := Lib.hid HBi.out.drew
                    go_wp2_with fail
                    go_roundw
                    case rel => exact ⟨i + 1, (i : Int), by omega, by simp, by go_num, HB9.out, HSK.out⟩
                    case measure => simp [intOf]; omega
                  · obtain ⟨j, y, hbj, hj⟩ : ∃ (j : Nat) (y : It), be = (j : Int) ∧ l[j]? = some y := by
                      rcases HA.out with ⟨h1, _⟩ | ⟨b, y, h1, h2, _⟩
                      · omega
                      · exact ⟨b, y, h1, h2⟩
                    subst hbj
                    have hj0 : (0 : Int) ≤ (j : Int) := by omega
                    have hj1 : (j : Int) < (n : Int) := by have := (List.getElem?_eq_some_iff.1 hj).1; have := HN.out; omega
                    have HJ := Lib.hid hj
                    have HLI := Lib.hid (low_iff HG.out.2.1 HX.out hj)
                    obtain ⟨bx, hbx⟩ : ∃ z, z = bd l x.c := ⟨_, rfl⟩
                    obtain ⟨bby, hby⟩ : ∃ z, z = bd l y.c := ⟨_, rfl⟩
                    have HSS : Hid (∀ W, Below wr.heap.size wr W → W.cell? ⟨gT, i, none⟩ = some (.bool false) ∧ W.cell? ⟨bb2, bo2 + i, none⟩ = some (.int .i64 bx) ∧ W.cell? ⟨bb2, bo2 + j, none⟩ = some (.int .i64 bby) ∧ (W.cell? ⟨b, o + i * 6, none⟩ = some (.int .i64 x.c) ∧ W.cell? ⟨b, o + i * 6 + 1, none⟩ = some (.int .i64 x.b) ∧ W.cell? ⟨b, o + i * 6 + 2, none⟩ = some (.int .i64 x.o) ∧ W.cell? ⟨b, o + i * 6 + 3, none⟩ = some (.bool x.m) ∧ W.cell? ⟨b, o + i * 6 + 4, none⟩ = some (.int .i64 x.r) ∧ W.cell? ⟨b, o + i * 6 + 5, none⟩ = some (.int .i64 x.n)) ∧ (W.cell? ⟨b, o + j * 6, none⟩ = some (.int .i64 y.c) ∧ W.cell? ⟨b, o + j * 6 + 1, none⟩ = some (.int .i64 y.b) ∧ W.cell? ⟨b, o + j * 6 + 2, none⟩ = some (.int .i64 y.o) ∧ W.cell? ⟨b, o + j * 6 + 3, none⟩ = some (.bool y.m) ∧ W.cell? ⟨b, o + j * 6 + 4, none⟩ = some (.int .i64 y.r) ∧ W.cell? ⟨b, o + j * 6 + 5, none⟩ = some (.int .i64 y.n))) := fun W h => by
                      obtain ⟨r1, r2⟩ := HBX.out W h
                      exact ⟨HTI.out W h, by rw [hbx]; exact r2 i x HX.out, by rw [hby]; exact r2 j y HJ.out, r1.get HX.out, r1.get HJ.out⟩
                    have HLW := Lib.hid (fun W => HLW.out x y bx bby W)
                    rw [← hbx, ← hby] at HLI
                    obtain ⟨lb, hlb⟩ : ∃ z, z = lowB x y bx bby := ⟨_, rfl⟩
                    rw [← hlb] at HLI HLW
                    clear hj hbx hby hlb HTI HBX
                    go_upto_region 14 with fail
                    refine wp_region_noPanic ?_
                    refine wp_region_held_drew (S := fun wx => wx.cell? ⟨gT, i, none⟩ = some (.bool false) ∧ wx.cell? ⟨bb2, bo2 + i, none⟩ = some (.int .i64 bx) ∧ wx.cell? ⟨bb2, bo2 + j, none⟩ = some (.int .i64 bby) ∧ (wx.cell? ⟨b, o + i * 6, none⟩ = some (.int .i64 x.c) ∧ wx.cell? ⟨b, o + i * 6 + 1, none⟩ = some (.int .i64 x.b) ∧ wx.cell? ⟨b, o + i * 6 + 2, none⟩ = some (.int .i64 x.o) ∧ wx.cell? ⟨b, o + i * 6 + 3, none⟩ = some (.bool x.m) ∧ wx.cell? ⟨b, o + i * 6 + 4, none⟩ = some (.int .i64 x.r) ∧ wx.cell? ⟨b, o + i * 6 + 5, none⟩ = some (.int .i64 x.n)) ∧ (wx.cell? ⟨b, o + j * 6, none⟩ = some (.int .i64 y.c) ∧ wx.cell? ⟨b, o + j * 6 + 1, none⟩ = some (.int .i64 y.b) ∧ wx.cell? ⟨b, o + j * 6 + 2, none⟩ = some (.int .i64 y.o) ∧ wx.cell? ⟨b, o + j * 6 + 3, none⟩ = some (.bool y.m) ∧ wx.cell? ⟨b, o + j * 6 + 4, none⟩ = some (.int .i64 y.r) ∧ wx.cell? ⟨b, o + j * 6 + 5, none⟩ = some (.int .i64 y.n))) (by kernel_rfl) (by exact HSS.out _ HBd.out) (fun hHeld => ?_)
                    refine wpAnyH_take (i := 0) (v := ?vd0) rfl (by kernel_rfl) (by kernel_rfl) (by kernel_rfl) (fun _ _ _ h => h) (Or.inl ⟨by kernel_rfl, ?yd0⟩) (by assumption) ?rd0
                    case yd0 => (intro wq hSw; (try dsimp only at hSw); go_simp; (try with_reducible rfl))
                    (try simp only [Act.put, List.getElem_toArray, List.getElem_cons_zero, List.setIfInBounds_toArray, List.set_cons_zero, List.set_cons_succ])
                    refine wpAnyH_take (i := 1) (v := ?vd1) rfl (by kernel_rfl) (by kernel_rfl) (by kernel_rfl) (fun _ _ _ h => h) (Or.inl ⟨by kernel_rfl, ?yd1⟩) (by assumption) ?rd1
                    case yd1 => (intro wq hSw; (try dsimp only at hSw); go_simp; (try with_reducible rfl))
                    (try simp only [Act.put, List.getElem_toArray, List.getElem_cons_succ, List.getElem_cons_zero, List.setIfInBounds_toArray, List.set_cons_zero, List.set_cons_succ])
                    refine wpAnyH_take (i := 2) (v := ?vd2) rfl (by kernel_rfl) (by kernel_rfl) (by kernel_rfl) (fun _ _ _ h => h) (Or.inl ⟨by kernel_rfl, ?yd2⟩) (by assumption) ?rd2
                    case yd2 => (intro wq hSw; (try dsimp only at hSw); go_simp; (try with_reducible rfl))
                    (try simp only [Act.put, List.getElem_toArray, List.getElem_cons_succ, List.getElem_cons_zero, List.setIfInBounds_toArray, List.set_cons_zero, List.set_cons_succ])
                    refine wpAnyH_take (i := 3) (v := ?vd3) rfl (by kernel_rfl) (by kernel_rfl) (by kernel_rfl) (fun _ _ _ h => h) (Or.inl ⟨by kernel_rfl, ?yd3⟩) (by assumption) ?rd3
                    case yd3 => (intro wq hSw; (try dsimp only at hSw); go_simp; (try with_reducible rfl))
                    (try simp only [Act.put, List.getElem_toArray, List.getElem_cons_succ, List.getElem_cons_zero, List.setIfInBounds_toArray, List.set_cons_zero, List.set_cons_succ])
                    refine wpAnyH_take (i := 4) (v := ?vd4) rfl (by kernel_rfl) (by kernel_rfl) (by kernel_rfl) (fun _ _ _ h => h) (Or.inl ⟨by kernel_rfl, ?yd4⟩) (by assumption) ?rd4
                    case yd4 => (intro wq hSw; (try dsimp only at hSw); go_simp; (try with_reducible rfl))
                    (try simp only [Act.put, List.getElem_toArray, List.getElem_cons_succ, List.getElem_cons_zero, List.setIfInBounds_toArray, List.set_cons_zero, List.set_cons_succ])
                    refine wpAnyH_take (i := 5) (v := ?vd5) rfl (by kernel_rfl) (by kernel_rfl) (by kernel_rfl) (fun _ _ _ h => h) (Or.inl ⟨by kernel_rfl, ?yd5⟩) (by assumption) ?rd5
                    case yd5 => (intro wq hSw; (try dsimp only at hSw); go_simp; (try with_reducible rfl))
                    (try simp only [Act.put, List.getElem_toArray, List.getElem_cons_succ, List.getElem_cons_zero, List.setIfInBounds_toArray, List.set_cons_zero, List.set_cons_succ])
                    refine wpAnyH_take (i := 6) (v := ?vd6) rfl (by kernel_rfl) (by kernel_rfl) (by kernel_rfl) (fun _ _ _ h => h) (Or.inl ⟨by kernel_rfl, ?yd6⟩) (by assumption) ?rd6
                    case yd6 => (intro wq hSw; (try dsimp only at hSw); go_simp; (try with_reducible rfl))
                    (try simp only [Act.put, List.getElem_toArray, List.getElem_cons_succ, List.getElem_cons_zero, List.setIfInBounds_toArray, List.set_cons_zero, List.set_cons_succ])
                    refine wpAnyH_take (i := 7) (v := ?vd7) rfl (by kernel_rfl) (by kernel_rfl) (by kernel_rfl) (fun _ _ _ h => h) (Or.inl ⟨by kernel_rfl, ?yd7⟩) (by assumption) ?rd7
                    case yd7 => (intro wq hSw; (try dsimp only at hSw); go_simp; (try with_reducible rfl))
                    (try simp only [Act.put, List.getElem_toArray, List.getElem_cons_succ, List.getElem_cons_zero, List.setIfInBounds_toArray, List.set_cons_zero, List.set_cons_succ])
                    refine wpAnyH_take (i := 8) (v := ?vd8) rfl (by kernel_rfl) (by kernel_rfl) (by kernel_rfl) (fun _ _ _ h => h) (Or.inl ⟨by kernel_rfl, ?yd8⟩) (by assumption) ?rd8
                    case yd8 => (intro wq hSw; (try dsimp only at hSw); go_simp; (try with_reducible rfl))
                    (try simp only [Act.put, List.getElem_toArray, List.getElem_cons_succ, List.getElem_cons_zero, List.setIfInBounds_toArray, List.set_cons_zero, List.set_cons_succ])
                    refine wpAnyH_take (i := 9) (v := ?vd9) rfl (by kernel_rfl) (by kernel_rfl) (by kernel_rfl) (fun _ _ _ h => h) (Or.inl ⟨by kernel_rfl, ?yd9⟩) (by assumption) ?rd9
                    case yd9 => (intro wq hSw; (try dsimp only at hSw); go_simp; (try with_reducible rfl))
                    (try simp only [Act.put, List.getElem_toArray, List.getElem_cons_succ, List.getElem_cons_zero, List.setIfInBounds_toArray, List.set_cons_zero, List.set_cons_succ])
                    refine wpAnyH_take (i := 10) (v := ?vd10) rfl (by kernel_rfl) (by kernel_rfl) (by kernel_rfl) (fun _ _ _ h => h) (Or.inl ⟨by kernel_rfl, ?yd10⟩) (by assumption) ?rd10
                    case yd10 => (intro wq hSw; (try dsimp only at hSw); go_simp; (try with_reducible rfl))
                    (try simp only [Act.put, List.getElem_toArray, List.getElem_cons_succ, List.getElem_cons_zero, List.setIfInBounds_toArray, List.set_cons_zero, List.set_cons_succ])
                    refine wpAnyH_take (i := 11) (v := ?vd11) rfl (by kernel_rfl) (by kernel_rfl) (by kernel_rfl) (fun _ _ _ h => h) (Or.inl ⟨by kernel_rfl, ?yd11⟩) (by assumption) ?rd11
                    case yd11 => (intro wq hSw; (try dsimp only at hSw); go_simp; (try with_reducible rfl))
                    (try simp only [Act.put, List.getElem_toArray, List.getElem_cons_succ, List.getElem_cons_zero, List.setIfInBounds_toArray, List.set_cons_zero, List.set_cons_succ])
                    refine wpAnyH_take (i := 12) (v := ?vd12) rfl (by kernel_rfl) (by kernel_rfl) (by kernel_rfl) (fun _ _ _ h => h) (Or.inl ⟨by kernel_rfl, ?yd12⟩) (by assumption) ?rd12
                    case yd12 => (intro wq hSw; (try dsimp only at hSw); go_simp; (try with_reducible rfl))
                    (try simp only [Act.put, List.getElem_toArray, List.getElem_cons_succ, List.getElem_cons_zero, List.setIfInBounds_toArray, List.set_cons_zero, List.set_cons_succ])
                    refine wpAnyH_take (i := 13) (v := ?vd13) rfl (by kernel_rfl) (by kernel_rfl) (by kernel_rfl) (fun _ _ _ h => h) (Or.inl ⟨by kernel_rfl, ?yd13⟩) (by assumption) ?rd13
                    case yd13 => (intro wq hSw; (try dsimp only at hSw); go_simp; (try with_reducible rfl))
                    (try simp only [Act.put, List.getElem_toArray, List.getElem_cons_succ, List.getElem_cons_zero, List.setIfInBounds_toArray, List.set_cons_zero, List.set_cons_succ])
                    refine wpAnyH_take (i := 14) (v := ?vd14) rfl (by kernel_rfl) (by kernel_rfl) (by kernel_rfl) (fun _ _ _ h => h) (Or.inl ⟨by kernel_rfl, ?yd14⟩) (by assumption) ?rd14
                    case yd14 => (intro wq hSw; (try dsimp only at hSw); go_simp; (try with_reducible rfl))
                    (try simp only [Act.put, List.getElem_toArray, List.getElem_cons_succ, List.getElem_cons_zero, List.setIfInBounds_toArray, List.set_cons_zero, List.set_cons_succ])
                    refine wpAnyH_take (i := 15) (v := ?vd15) rfl (by kernel_rfl) (by kernel_rfl) (by kernel_rfl) (fun _ _ _ h => h) (Or.inl ⟨by kernel_rfl, ?yd15⟩) (by assumption) ?rd15
                    case yd15 => (intro wq hSw; (try dsimp only at hSw); go_simp; (try with_reducible rfl))
                    (try simp only [Act.put, List.getElem_toArray, List.getElem_cons_succ, List.getElem_cons_zero, List.setIfInBounds_toArray, List.set_cons_zero, List.set_cons_succ])
                    refine wpAnyH_take (i := 16) (v := ?vd16) rfl (by kernel_rfl) (by kernel_rfl) (by kernel_rfl) (fun _ _ _ h => h) (Or.inl ⟨by kernel_rfl, ?yd16⟩) (by assumption) ?rd16
                    case yd16 => (intro wq hSw; (try dsimp only at hSw); go_simp; (try with_reducible rfl))
                    (try simp only [Act.put, List.getElem_toArray, List.getElem_cons_succ, List.getElem_cons_zero, List.setIfInBounds_toArray, List.set_cons_zero, List.set_cons_succ])
                    refine wpAnyH_take (i := 17) (v := ?vd17) rfl (by kernel_rfl) (by kernel_rfl) (by kernel_rfl) (fun _ _ _ h => h) (Or.inl ⟨by kernel_rfl, ?yd17⟩) (by assumption) ?rd17
                    case yd17 => (intro wq hSw; (try dsimp only at hSw); go_simp; (try with_reducible rfl))
                    (try simp only [Act.put, List.getElem_toArray, List.getElem_cons_succ, List.getElem_cons_zero, List.setIfInBounds_toArray, List.set_cons_zero, List.set_cons_succ])
                    refine wpAnyH_take (i := 18) (v := ?vd18) rfl (by kernel_rfl) (by kernel_rfl) (by kernel_rfl) (fun _ _ _ h => h) (Or.inl ⟨by kernel_rfl, ?yd18⟩) (by assumption) ?rd18
                    case yd18 => (intro wq hSw; (try dsimp only at hSw); go_simp; (try with_reducible rfl))
                    (try simp only [Act.put, List.getElem_toArray, List.getElem_cons_succ, List.getElem_cons_zero, List.setIfInBounds_toArray, List.set_cons_zero, List.set_cons_succ])
                    refine wpAnyH_take (i := 19) (v := ?vd19) rfl (by kernel_rfl) (by kernel_rfl) (by kernel_rfl) (fun _ _ _ h => h) (Or.inl ⟨by kernel_rfl, ?yd19⟩) (by assumption) ?rd19
                    case yd19 => (intro wq hSw; (try dsimp only at hSw); go_simp; (try with_reducible rfl))
                    (try simp only [Act.put, List.getElem_toArray, List.getElem_cons_succ, List.getElem_cons_zero, List.setIfInBounds_toArray, List.set_cons_zero, List.set_cons_succ])
                    refine wpAnyH_take (i := 20) (v := ?vd20) rfl (by kernel_rfl) (by kernel_rfl) (by kernel_rfl) (fun _ _ _ h => h) (Or.inl ⟨by kernel_rfl, ?yd20⟩) (by assumption) ?rd20
                    case yd20 => (intro wq hSw; (try dsimp only at hSw); go_simp; (try with_reducible rfl))
                    (try simp only [Act.put, List.getElem_toArray, List.getElem_cons_succ, List.getElem_cons_zero, List.setIfInBounds_toArray, List.set_cons_zero, List.set_cons_succ])
                    refine wpAnyH_take (i := 21) (v := ?vd21) rfl (by kernel_rfl) (by kernel_rfl) (by kernel_rfl) (fun _ _ _ h => h) (Or.inl ⟨by kernel_rfl, ?yd21⟩) (by assumption) ?rd21
                    case yd21 => (intro wq hSw; (try dsimp only at hSw); go_simp; (try with_reducible rfl))
                    (try simp only [Act.put, List.getElem_toArray, List.getElem_cons_succ, List.getElem_cons_zero, List.setIfInBounds_toArray, List.set_cons_zero, List.set_cons_succ])
                    refine wpAnyH_take (i := 22) (v := ?vd22) rfl (by kernel_rfl) (by kernel_rfl) (by kernel_rfl) (fun _ _ _ h => h) (Or.inl ⟨by kernel_rfl, ?yd22⟩) (by assumption) ?rd22
                    case yd22 => (intro wq hSw; (try dsimp only at hSw); go_simp; (try with_reducible rfl))
                    (try simp only [Act.put, List.getElem_toArray, List.getElem_cons_succ, List.getElem_cons_zero, List.setIfInBounds_toArray, List.set_cons_zero, List.set_cons_succ])
                    refine wpAnyH_take (i := 23) (v := ?vd23) rfl (by kernel_rfl) (by kernel_rfl) (by kernel_rfl) (fun _ _ _ h => h) (Or.inl ⟨by kernel_rfl, ?yd23⟩) (by assumption) ?rd23
                    case yd23 => (intro wq hSw; (try dsimp only at hSw); go_simp; (try with_reducible rfl))
                    (try simp only [Act.put, List.getElem_toArray, List.getElem_cons_succ, List.getElem_cons_zero, List.setIfInBounds_toArray, List.set_cons_zero, List.set_cons_succ])
                    refine wpAnyH_take (i := 24) (v := ?vd24) rfl (by kernel_rfl) (by kernel_rfl) (by kernel_rfl) (fun _ _ _ h => h) (Or.inl ⟨by kernel_rfl, ?yd24⟩) (by assumption) ?rd24
                    case yd24 => (intro wq hSw; (try dsimp only at hSw); go_simp; (try with_reducible rfl))
                    (try simp only [Act.put, List.getElem_toArray, List.getElem_cons_succ, List.getElem_cons_zero, List.setIfInBounds_toArray, List.set_cons_zero, List.set_cons_succ])
                    refine wpAnyH_take (i := 25) (v := ?vd25) rfl (by kernel_rfl) (by kernel_rfl) (by kernel_rfl) (fun _ _ _ h => h) (Or.inl ⟨by kernel_rfl, ?yd25⟩) (by assumption) ?rd25
                    case yd25 => (intro wq hSw; (try dsimp only at hSw); go_simp; (try with_reducible rfl))
                    (try simp only [Act.put, List.getElem_toArray, List.getElem_cons_succ, List.getElem_cons_zero, List.setIfInBounds_toArray, List.set_cons_zero, List.set_cons_succ])
                    refine wpAnyH_take (i := 26) (v := ?vd26) rfl (by kernel_rfl) (by kernel_rfl) (by kernel_rfl) (fun _ _ _ h => h) (Or.inl ⟨by kernel_rfl, ?yd26⟩) (by assumption) ?rd26
                    case yd26 => (intro wq hSw; (try dsimp only at hSw); go_simp; (try with_reducible rfl))
                    (try simp only [Act.put, List.getElem_toArray, List.getElem_cons_succ, List.getElem_cons_zero, List.setIfInBounds_toArray, List.set_cons_zero, List.set_cons_succ])
                    refine wpAnyH_take (i := 27) (v := ?vd27) rfl (by kernel_rfl) (by kernel_rfl) (by kernel_rfl) (fun _ _ _ h => h) (Or.inl ⟨by kernel_rfl, ?yd27⟩) (by assumption) ?rd27
                    case yd27 => (intro wq hSw; (try dsimp only at hSw); go_simp; (try with_reducible rfl))
                    (try simp only [Act.put, List.getElem_toArray, List.getElem_cons_succ, List.getElem_cons_zero, List.setIfInBounds_toArray, List.set_cons_zero, List.set_cons_succ])
                    refine wpAnyH_ready (rs := [28]) (by kernel_rfl) (by simp) ?_
                    refine AllReadyH.cons rfl (fun K hK => ?_) AllReadyH.nil
                    go_simp
                    refine (HLW.out _).mono ?_
                    rintro e w5 ⟨rfl, hb⟩; have HB5 := Lib.hid (HBd.out.trans (hb.mono HBd.out.size)); clear hb
                    (try dsimp only)
                    refine hK.out _ _ (by exact HSS.out _ HB5.out) (fun hHeld => ?_)
                    clear hK K
                    (try simp only [Act.put, List.getElem_toArray, List.getElem_cons_succ, List.getElem_cons_zero, List.setIfInBounds_toArray, List.set_cons_zero, List.set_cons_succ])
                    refine wpAnyH_take (i := 29) (v := ?vd29) rfl (by kernel_rfl) (by kernel_rfl) (by kernel_rfl) (fun _ _ _ h => h) (Or.inl ⟨by kernel_rfl, ?yd29⟩) (by assumption) ?rd29
                    case yd29 => (intro wq hSw; (try dsimp only at hSw); go_simp; (try with_reducible rfl))
                    (try simp only [Act.put, List.getElem_toArray, List.getElem_cons_succ, List.getElem_cons_zero, List.setIfInBounds_toArray, List.set_cons_zero, List.set_cons_succ])
                    refine wpAnyH_take (i := 30) (v := ?vd30) rfl (by kernel_rfl) (by kernel_rfl) (by kernel_rfl) (fun _ _ _ h => h) (Or.inl ⟨by kernel_rfl, ?yd30⟩) (by assumption) ?rd30
                    case yd30 => (intro wq hSw; (try dsimp only at hSw); go_simp; (try with_reducible rfl))
                    (try simp only [Act.put, List.getElem_toArray, List.getElem_cons_succ, List.getElem_cons_zero, List.setIfInBounds_toArray, List.set_cons_zero, List.set_cons_succ])
                    refine wpAnyH_done (by kernel_rfl) ?_ _
                    refine NoPanic.normal ?_
                    clear hHeld HSS
                    have HB9 := Lib.hid (HBi.out.trans (HB5.out.mono HBi.out.size))
                    cases lb with
                    | true =>
                      have HSK := Lib.hid (HA.out.better HX.out HJ.out HCN.out (HLI.out.1 rfl))
                      go_wp2_with fail
                      go_roundw
                      case rel => exact ⟨i + 1, (i : Int), by omega, by simp, by go_num, HB9.out, HSK.out⟩
                      case measure => simp [intOf]; omega
                    | false =>
                      have HSK := Lib.hid (HA.out.worse HG.out.2.1 HX.out HJ.out (fun h => by have := HLI.out.2 h; cases this))
                      go_wp2_with fail
                      go_roundw
                      case rel => exact ⟨i + 1, (j : Int), by omega, by simp, by go_num, HB9.out, HSK.out⟩
                      case measure => simp [intOf]; omega
          · obtain rfl : i = n := by omega
            have hA := HA.out
            rw [HN.out] at hA
            obtain ⟨j, y, rfl, hj, hnx⟩ := hA.done HG.out.2.1 (by rw [HKL.out, ← HN.out]; exact hlt)
            have hj0 : (0 : Int) ≤ (j : Int) := by omega
            have hj1 : (j : Int) < (i : Int) := by have := (List.getElem?_eq_some_iff.1 hj).1; have := HN.out; omega
            have cT := HTr.out.at_ (arrB_at (out := out) hj)
            have fT := HTr.out.frozen j
            obtain ⟨wc, hwc⟩ : ∃ u, u = wr.setCell ⟨gT, j, none⟩ (.bool true) := ⟨_, rfl⟩
            have HTc := Lib.hid (show Blk wc gT 4 (arrB l (out ++ [y.c])) by rw [hwc, ← arrB_set HG.out.2.1 hj]; exact HTr.out.set_ j _)
            have hgr : wr.grownBy wc (some gT) := by rw [hwc]; exact only_setCell (only_refl wr (some gT)) (.inl rfl) _
            have HBc := Lib.hid (show Below w3.heap.size w3 wc by rw [hwc]; exact Below.setCell (p := ⟨gT, j, none⟩) HB3r.out HGT.out.1 _)
            have HWc := Lib.hid ((HW.out.next HBi.out).kept hgr HGT.out.2)
            have HSc := Lib.hid (show w4.heap.size ≤ wc.heap.size from Nat.le_trans HSz.out (Nat.le_trans HBi.out.size hgr.size))
            obtain ⟨t0, t1, t2, t3, t4, t5⟩ := (HRW.out wc HBc.out).1.get hj
            have HNX2 : Hid (∀ (jj : Nat) (c : Int), (out ++ [y.c])[jj]? = some c → Nxt l ((out ++ [y.c]).take jj) c) := fun jj c hjj => by
              by_cases hl : jj < out.length
              · rw [List.getElem?_append_left hl] at hjj
                rw [List.take_append_of_le_length (by omega)]
                exact HNX.out jj c hjj
              · have hjl := (List.getElem?_eq_some_iff.1 hjj).1
                simp at hjl
                obtain rfl : jj = out.length := by omega
                rw [List.getElem?_append_right (by omega), Nat.sub_self] at hjj
                simp at hjj; subst hjj
                rw [List.take_append_of_le_length (by omega), List.take_of_length_le (by omega)]
                exact hnx
            obtain ⟨i0, hi0', hz0, hz1, hz2⟩ := int_info
            have HWC := Lib.hid hwc
            have HJ := Lib.hid hj
            have h0w4 : Hid (w3.heap.size ≤ w4.heap.size) := by have := HGT.out; exact (by omega : w3.heap.size ≤ w4.heap.size)
            clear hA hj hnx hwc hgr
            go_upto_region 17 with fail
            rewrite [← HWC.out]
            clear cT fT
            go_wp2_with (at_builtin; go_loud (refine wpList_append_own_at _ rfl (.tmp 87) (.tmp 93) 27 rfl w4.heap.size 3 i0 (.int .i64 0) 1 8 Try.underlying27 hi0' hz0 hz1 hz2 rfl (by decide) _ _ _ rfl (World.ownsRow.alloc HWc.out _) ⟨_, 0, none⟩ 1 1 [.int .i64 y.c] rfl rfl (cell_list_at _ _ [.int .i64 y.c] _ rfl) (one_int y.c) (by unfold maxLen; have := HKL.out; omega) (by have := HKL.out; omega) (by have := HSc.out; simp; omega) ?_; intro v3 w6 ho3 hg3 _ _; have HP := Lib.hid (OwI.put ho3); have HQ := Lib.hid (OwI.below2 HBc.out h0w4.out HSc.out HWc.out hg3); have HT6 := Lib.hid ((HTc.out.alloc _).grown hg3 (fun e => by have := (World.ownsRow.lt HWc.out gT e.symm).1; have := HGT.out.2; omega)); clear ho3 hg3))
            go_roundw
            case rel => exact ⟨k + 1, _, by omega, by go_num, HQ.out.1, HQ.out.2, HT6.out, HP.out, by rw [List.length_append, HKL.out]; rfl, HNX2.out⟩
            case measure => simp [intOf]; omega
end Go.Proofs.Ytgioeijdgoogkaa.Od
