/- Texts SuV. -/
import Derived.Test.YtnhchpiafchdgaaGreatTbd
import Derived.Test.YtnhchpiafchdgaaGreatTaa
namespace Go.Proofs.YtnhchpiafchdgaaGreat
open Go.RowKit Go.Shelf Go.Maps
section
variable {w w' w0 w1 w2 w3 : World} {s r : Nat} {Y : Yl} {Z : Zl} {X X' X1 : Xs} {k k' kd : Nat}
theorem SrvNew.next (h : SrvNew w0 s X k w) (hb : Below w.heap.size w w') : SrvNew w0 s X k w' := by
 obtain ⟨Y, h1, h2, h3⟩ := h
 exact ⟨Y, h1.next hb, hb.on h2 h2.size, h3⟩
theorem SrvNew.more (h : SrvNew w0 s X k w) (hk : k ≤ k') : SrvNew w0 s X k' w := by
 obtain ⟨Y, h1, h2, h3⟩ := h
 exact ⟨Y, h1.more hk, h2, h3⟩
theorem SrvNew.be (h : SrvNew w0 s X k w) : Below w0.heap.size w0 w := by
 obtain ⟨Y, h1, h2, h3⟩ := h
 exact h2
set_option maxRecDepth 100000 in
set_option maxHeartbeats 8000000 in
theorem focus_w (va : Value) (As : List A8) (w : World) (hI : IsA8 w.heap.size w va As) : Calls Tryz.prog 4 #[va] w fun e w' => e = .returned (.bool true) ∧ Below w.heap.size w w' := by
 have HI := Lib.hid hI
 obtain ⟨p, c, rfl, hn0, -⟩ := id hI
 have HBG := Lib.hid (fun W => begun_c W)
 have HR8 := Lib.hid (fun W => rect8_c 0 0 100 100 W)
 have HRN := Lib.hid (fun W => rnew_c W 0 0 100 100)
 have HSH := Lib.hid (fun t W => short8_c t W)
 have HAW := Lib.hid (fun W => awake8_c W)
 obtain ⟨n, hn⟩ : ∃ n, n = As.length := ⟨_, rfl⟩
 rw [← hn] at HI hn0 ⊢
 have HN := Lib.hid hn
 clear hI hn
 go_enter Tryz.func4, Tryz.ntmps4
 go_upto_region 2 with (go_at_call 15; ((with_reducible refine (HBG.out _).mono ?_); rintro e w1 ⟨s, rfl, hst⟩); have HST := Lib.hid hst; clear hst)
 go_wp2_with fail
 go_loopw [4] (fun z wr => ∃ k : Nat, k ≤ n ∧ k ≤ 40 ∧ z = .int .i64 k ∧ ∃ X, V X k ∧ SrvNew w s X k wr) (fun z _ => 40 - (intOf z).toNat)
 case atStart => exact ⟨0, Nat.zero_le _, by omega, rfl, _, V.start 0 0 100 100, HST.out⟩
 case round =>
  obtain ⟨k, hk, hk4, rfl, X, hV, hB⟩ := hrel
  have HV := Lib.hid hV
  have HBS := Lib.hid hB
  have HB := Lib.hid (And.intro True.intro (And.intro hB.be True.intro))
  have hk0 : (0 : Int) ≤ (k : Int) := by omega
  clear hV hB
  by_cases hlt : k < n
  · have hk1 : (k : Int) < (n : Int) := by omega
    by_cases h40 : k < 40
    · have hk2 : (k : Int) < 40 := by omega
      obtain ⟨A, hA⟩ : ∃ A, As[k]? = some A := ⟨_, List.getElem?_eq_getElem (by rw [← HN.out]; exact hlt)⟩
      have hcell : ∃ b o, p = some ⟨b, o, none⟩ ∧ (∀ (W : World), Below w.heap.size w W → ∀ (i : Nat) (u : Value), A.cells[i]? = some u → W.cell? ⟨b, o + k * 11 + i, none⟩ = some u) ∧ A.ok := by
        obtain ⟨p', c', e', -, hcell⟩ := HI.out
        injection e' with e1 _ _
        subst e1
        obtain ⟨b, o, hpb, hlb, hc, hok⟩ := hcell k A hA
        exact ⟨b, o, hpb, fun W hW i u hu => (hW.cell (p := ⟨b, o + k * 11 + i, none⟩) hlb).trans (hc i u hu), hok⟩
      obtain ⟨b, o, rfl, hc, hok⟩ := hcell
      have HD := Lib.hid (fun (Y : Yl) (Z : Zl) (r : Nat) (W : World) (hM : Bm w s r Y Z (Xs.start 0 0 100 100) X k W) => does8_c hM HV.out (by omega) (V.start 0 0 100 100).toV0 (by omega) (.inr rfl) A hok)
      have HV2 := Lib.hid (HV.out.act (by omega) hok)
      obtain ⟨XA, hXA⟩ : ∃ XA, XA = X.act A := ⟨_, rfl⟩
      have HXA := Lib.hid hXA
      obtain ⟨ac, ⟨ki, wi, ot, x, y, a, e, ⟨nm, ty, da⟩⟩⟩ := A
      have HC := Lib.hid (fun (W : World) (hW : Below w.heap.size w W) => (show W.cell? ⟨b, o + k * 11, none⟩ = some (.int .i64 ac) ∧ W.cell? ⟨b, o + k * 11 + 1, none⟩ = some (.int .i64 ki) ∧ W.cell? ⟨b, o + k * 11 + 2, none⟩ = some (.int .i64 wi) ∧ W.cell? ⟨b, o + k * 11 + 3, none⟩ = some (.int .i64 ot) ∧ W.cell? ⟨b, o + k * 11 + 4, none⟩ = some (.int .i64 x) ∧ W.cell? ⟨b, o + k * 11 + 5, none⟩ = some (.int .i64 y) ∧ W.cell? ⟨b, o + k * 11 + 6, none⟩ = some (.int .i64 a) ∧ W.cell? ⟨b, o + k * 11 + 7, none⟩ = some (.int .i64 e) ∧ W.cell? ⟨b, o + k * 11 + 8, none⟩ = some (.string nm) ∧ W.cell? ⟨b, o + k * 11 + 9, none⟩ = some (.string ty) ∧ W.cell? ⟨b, o + k * 11 + 10, none⟩ = some (.string da) from
        ⟨hc W hW 0 _ rfl, hc W hW 1 _ rfl, hc W hW 2 _ rfl, hc W hW 3 _ rfl, hc W hW 4 _ rfl, hc W hW 5 _ rfl, hc W hW 6 _ rfl, hc W hW 7 _ rfl, hc W hW 8 _ rfl, hc W hW 9 _ rfl, hc W hW 10 _ rfl⟩))
      have HS1 := Lib.hid (show ∀ W, Calls Tryz.prog 12 #[.agg #[.int .i64 ac, .int .i64 ki, .int .i64 wi, .int .i64 ot, .int .i64 x, .int .i64 y, .int .i64 a, .int .i64 e, .string nm, .string ty, .string da]] W _ from fun W => HSH.out ⟨ac, ⟨ki, wi, ot, x, y, a, e, ⟨nm, ty, da⟩⟩⟩ W)
      have HD1 := Lib.hid (show ∀ (Y : Yl) (Z : Zl) (r : Nat) (W : World) (hM : Bm w s r Y Z (Xs.start 0 0 100 100) X k W), Calls Tryz.prog 13 #[srvP s, refP r, .agg #[.int .i64 ac, .int .i64 ki, .int .i64 wi, .int .i64 ot, .int .i64 x, .int .i64 y, .int .i64 a, .int .i64 e, .string nm, .string ty, .string da]] W _ from HD.out)
      clear hc hok hA HD
      obtain ⟨c0, c1, c2, c3, c4, c5, c6, c7, c8, c9, c10⟩ := HC.out wr HB.out.2.1
      obtain ⟨sh, hsh⟩ : ∃ b, b = A8.short ⟨ac, ⟨ki, wi, ot, x, y, a, e, ⟨nm, ty, da⟩⟩⟩ := ⟨_, rfl⟩
      rw [← hsh] at HS1
      clear hsh HSH
      obtain ⟨X8, hX8⟩ : ∃ X8, X8 = if sh = true then XA else X := ⟨_, rfl⟩
      have HV8 := Lib.hid (show V X8 (k + 1) from by
        rw [hX8, HXA.out]
        split
        · exact HV2.out
        · exact HV.out.le (Nat.le_succ k) (by omega))
      clear hXA
      obtain ⟨f, hf⟩ : ∃ f, f = X8.F := ⟨_, rfl⟩
      have HFO := Lib.hid (fun (W : World) (Y : Yl) (h : Srv W s Y X8 (k + 1)) => focus_c h)
      rw [← hf] at HFO
      have hfi : I64 f := by rw [hf]; exact HV8.out.f64
      have hfo : f = 0 ∨ viewL X8.R X8.L f = true := by rw [hf]; exact HV8.out.foc
      have HX8 := Lib.hid hX8
      clear hf hX8 HV2
      by_cases hz : f = 0
      · subst hz
        have HVI := Lib.hid True.intro
        clear hfo hfi
        cases sh with
        | true =>
          have HXX := Lib.hid (show X8 = X.act ⟨ac, ⟨ki, wi, ot, x, y, a, e, ⟨nm, ty, da⟩⟩⟩ from by rw [HX8.out, if_pos rfl, HXA.out])
          go_upto_region 8 with ((go_at_call 12; ((with_reducible refine (HS1.out _).mono ?_); rintro e w5 ⟨rfl, hW⟩); have HW1 := Lib.hid hW; have HW := Lib.hid (hW.on HB.out.2.1 HB.out.2.1.size); clear hW))
          have hb0 := HBS.out.next HW1.out
          refine wp_region_noPanic ?_
          refine wp_region_held_drew (S := fun wx => wx.cell? ⟨b, o + k * 11, none⟩ = some (.int .i64 ac) ∧ wx.cell? ⟨b, o + k * 11 + 1, none⟩ = some (.int .i64 ki) ∧ wx.cell? ⟨b, o + k * 11 + 2, none⟩ = some (.int .i64 wi) ∧ wx.cell? ⟨b, o + k * 11 + 3, none⟩ = some (.int .i64 ot) ∧ wx.cell? ⟨b, o + k * 11 + 4, none⟩ = some (.int .i64 x) ∧ wx.cell? ⟨b, o + k * 11 + 5, none⟩ = some (.int .i64 y) ∧ wx.cell? ⟨b, o + k * 11 + 6, none⟩ = some (.int .i64 a) ∧ wx.cell? ⟨b, o + k * 11 + 7, none⟩ = some (.int .i64 e) ∧ wx.cell? ⟨b, o + k * 11 + 8, none⟩ = some (.string nm) ∧ wx.cell? ⟨b, o + k * 11 + 9, none⟩ = some (.string ty) ∧ wx.cell? ⟨b, o + k * 11 + 10, none⟩ = some (.string da)) (by kernel_rfl) (by exact HC.out _ HW.out.drew) (fun hHeld => ?_)
          refine tk 0 ?vp0 rfl ?yp0 ?rp0
          case yp0 => (intro q h; (try dsimp only at h); go_simp; (try with_reducible rfl))
          (try simp only [Act.put, p1, p3, p4, p5, p6])
          refine tk 3 ?vp3 rfl ?yp3 ?rp3
          case yp3 => (intro q h; (try dsimp only at h); go_simp; (try with_reducible rfl))
          (try simp only [Act.put, p1, p2, p3, p4, p5, p6])
          refine tk 4 ?vp4 rfl ?yp4 ?rp4
          case yp4 => (intro q h; (try dsimp only at h); go_simp; (try with_reducible rfl))
          (try simp only [Act.put, p1, p2, p3, p4, p5, p6])
          refine tk 5 ?vp5 rfl ?yp5 ?rp5
          case yp5 => (intro q h; (try dsimp only at h); go_simp; (try with_reducible rfl))
          (try simp only [Act.put, p1, p2, p3, p4, p5, p6])
          refine tk 6 ?vp6 rfl ?yp6 ?rp6
          case yp6 => (intro q h; (try dsimp only at h); go_simp; (try with_reducible rfl))
          (try simp only [Act.put, p1, p2, p3, p4, p5, p6])
          refine wpAnyH_ready (rs := [1]) (by kernel_rfl) (by simp) ?_
          refine AllReadyH.cons rfl (fun K hK => ?_) AllReadyH.nil
          go_simp
          refine (HR8.out _).mono ?_
          rintro e w6 ⟨rfl, h6⟩; have HB6 := Lib.hid (h6.on HW.out.drew HW.out.drew.size); have HX6 := Lib.hid (h6.on (Below.refl w5.heap.size w5).drew (Below.refl w5.heap.size w5).drew.size); have S1 := HC.out _ HB6.out; clear h6
          (try dsimp only)
          refine hK.out _ _ (by exact S1) (fun hHeld => ?_)
          clear hK K
          (try simp only [Act.put, p1, p2, p3, p4, p5, p6])
          refine wpAnyH_ready (rs := [2]) (by kernel_rfl) (by simp) ?_
          refine AllReadyH.cons rfl (fun K hK => ?_) AllReadyH.nil
          go_simp
          refine (HRN.out _).mono ?_
          rintro e w7 ⟨r, rfl, hR, hr, h7⟩; have HB7 := Lib.hid (h7.on HB6.out HB6.out.size); have S1 := HC.out _ HB7.out; have HM := Lib.hid (bm_begin hb0 HX6.out hR hr h7); clear hR hr h7; obtain ⟨Y7, Z7, hm⟩ := HM.out; have HM7 := Lib.hid hm; clear hm
          (try dsimp only)
          refine hK.out _ _ (by exact S1) (fun hHeld => ?_)
          clear hK K
          (try simp only [Act.put, p1, p2, p3, p4, p5, p6])
          refine wpAnyH_ready (rs := [7]) (by kernel_rfl) (by simp) ?_
          refine AllReadyH.cons rfl (fun K hK => ?_) AllReadyH.nil
          go_simp
          refine (HD1.out _ _ _ _ HM7.out).mono ?_
          rintro e w8 ⟨bb, rfl, -, hD⟩; obtain ⟨Y8, Z8, hB8⟩ := hD; have H8 := Lib.hid (show SrvNew w s X8 (k + 1) w8 from ⟨Y8, by rw [HXX.out]; exact hB8.c, hB8.be, fun b hb => (hB8.yf b hb).1⟩); clear hB8; have S1 := HC.out _ H8.out.be
          (try dsimp only)
          refine hK.out _ _ (by exact S1) (fun hHeld => ?_)
          clear hK K
          (try simp only [Act.put, p1, p2, p3, p4, p5, p6])
          refine wpAnyH_done (by kernel_rfl) ?_ _
          refine NoPanic.normal ?_
          obtain ⟨Y8, h8, -, -⟩ := H8.out
          have HF8 := Lib.hid h8
          clear h8
          go_wp2_with (first | (go_at_call 17; ((with_reducible refine (HFO.out _ _ HF8.out).mono ?_); rintro e w9 ⟨rfl, rfl⟩); skip) | (go_at_call 18; ((with_reducible refine (HVI.out _ _ HF8.out).mono ?_); rintro e w9 ⟨rfl, rfl⟩); skip))
          go_roundw
          case rel => exact ⟨k + 1, by omega, by omega, by go_num, X8, HV8.out, H8.out⟩
          case measure => simp [intOf]; omega
        | false =>
          have HXX := Lib.hid (show X8 = X from by rw [HX8.out, if_neg (by decide)])
          go_upto_region 9 with ((go_at_call 12; ((with_reducible refine (HS1.out _).mono ?_); rintro e w8 ⟨rfl, hW⟩); have HW1 := Lib.hid hW; have HW := Lib.hid (hW.on HB.out.2.1 HB.out.2.1.size); have H8 := Lib.hid (show SrvNew w s X8 (k + 1) w8 from by rw [HXX.out]; exact (HBS.out.next hW).more (Nat.le_succ k)); clear hW))
          obtain ⟨Y8, h8, -, -⟩ := H8.out
          have HF8 := Lib.hid h8
          clear h8
          go_wp2_with (first | (go_at_call 17; ((with_reducible refine (HFO.out _ _ HF8.out).mono ?_); rintro e w9 ⟨rfl, rfl⟩); skip) | (go_at_call 18; ((with_reducible refine (HVI.out _ _ HF8.out).mono ?_); rintro e w9 ⟨rfl, rfl⟩); skip))
          go_roundw
          case rel => exact ⟨k + 1, by omega, by omega, by go_num, X8, HV8.out, H8.out⟩
          case measure => simp [intOf]; omega
      · have HVI := Lib.hid (fun (W : World) (Y : Yl) (h : Srv W s Y X8 (k + 1)) => (show Calls Tryz.prog 18 #[srvP s, .int .i64 f] W fun e w' => e = .returned (.bool true) ∧ W = w' from by
          have h1 := sview_c h HV8.out.s hfi
          rw [hfo.resolve_left hz] at h1
          exact h1))
        clear hfo hfi
        cases sh with
        | true =>
          have HXX := Lib.hid (show X8 = X.act ⟨ac, ⟨ki, wi, ot, x, y, a, e, ⟨nm, ty, da⟩⟩⟩ from by rw [HX8.out, if_pos rfl, HXA.out])
          go_upto_region 8 with ((go_at_call 12; ((with_reducible refine (HS1.out _).mono ?_); rintro e w5 ⟨rfl, hW⟩); have HW1 := Lib.hid hW; have HW := Lib.hid (hW.on HB.out.2.1 HB.out.2.1.size); clear hW))
          have hb0 := HBS.out.next HW1.out
          refine wp_region_noPanic ?_
          refine wp_region_held_drew (S := fun wx => wx.cell? ⟨b, o + k * 11, none⟩ = some (.int .i64 ac) ∧ wx.cell? ⟨b, o + k * 11 + 1, none⟩ = some (.int .i64 ki) ∧ wx.cell? ⟨b, o + k * 11 + 2, none⟩ = some (.int .i64 wi) ∧ wx.cell? ⟨b, o + k * 11 + 3, none⟩ = some (.int .i64 ot) ∧ wx.cell? ⟨b, o + k * 11 + 4, none⟩ = some (.int .i64 x) ∧ wx.cell? ⟨b, o + k * 11 + 5, none⟩ = some (.int .i64 y) ∧ wx.cell? ⟨b, o + k * 11 + 6, none⟩ = some (.int .i64 a) ∧ wx.cell? ⟨b, o + k * 11 + 7, none⟩ = some (.int .i64 e) ∧ wx.cell? ⟨b, o + k * 11 + 8, none⟩ = some (.string nm) ∧ wx.cell? ⟨b, o + k * 11 + 9, none⟩ = some (.string ty) ∧ wx.cell? ⟨b, o + k * 11 + 10, none⟩ = some (.string da)) (by kernel_rfl) (by exact HC.out _ HW.out.drew) (fun hHeld => ?_)
          refine tk 0 ?vn0 rfl ?yn0 ?rn0
          case yn0 => (intro q h; (try dsimp only at h); go_simp; (try with_reducible rfl))
          (try simp only [Act.put, p1, p3, p4, p5, p6])
          refine tk 3 ?vn3 rfl ?yn3 ?rn3
          case yn3 => (intro q h; (try dsimp only at h); go_simp; (try with_reducible rfl))
          (try simp only [Act.put, p1, p2, p3, p4, p5, p6])
          refine tk 4 ?vn4 rfl ?yn4 ?rn4
          case yn4 => (intro q h; (try dsimp only at h); go_simp; (try with_reducible rfl))
          (try simp only [Act.put, p1, p2, p3, p4, p5, p6])
          refine tk 5 ?vn5 rfl ?yn5 ?rn5
          case yn5 => (intro q h; (try dsimp only at h); go_simp; (try with_reducible rfl))
          (try simp only [Act.put, p1, p2, p3, p4, p5, p6])
          refine tk 6 ?vn6 rfl ?yn6 ?rn6
          case yn6 => (intro q h; (try dsimp only at h); go_simp; (try with_reducible rfl))
          (try simp only [Act.put, p1, p2, p3, p4, p5, p6])
          refine wpAnyH_ready (rs := [1]) (by kernel_rfl) (by simp) ?_
          refine AllReadyH.cons rfl (fun K hK => ?_) AllReadyH.nil
          go_simp
          refine (HR8.out _).mono ?_
          rintro e w6 ⟨rfl, h6⟩; have HB6 := Lib.hid (h6.on HW.out.drew HW.out.drew.size); have HX6 := Lib.hid (h6.on (Below.refl w5.heap.size w5).drew (Below.refl w5.heap.size w5).drew.size); have S1 := HC.out _ HB6.out; clear h6
          (try dsimp only)
          refine hK.out _ _ (by exact S1) (fun hHeld => ?_)
          clear hK K
          (try simp only [Act.put, p1, p2, p3, p4, p5, p6])
          refine wpAnyH_ready (rs := [2]) (by kernel_rfl) (by simp) ?_
          refine AllReadyH.cons rfl (fun K hK => ?_) AllReadyH.nil
          go_simp
          refine (HRN.out _).mono ?_
          rintro e w7 ⟨r, rfl, hR, hr, h7⟩; have HB7 := Lib.hid (h7.on HB6.out HB6.out.size); have S1 := HC.out _ HB7.out; have HM := Lib.hid (bm_begin hb0 HX6.out hR hr h7); clear hR hr h7; obtain ⟨Y7, Z7, hm⟩ := HM.out; have HM7 := Lib.hid hm; clear hm
          (try dsimp only)
          refine hK.out _ _ (by exact S1) (fun hHeld => ?_)
          clear hK K
          (try simp only [Act.put, p1, p2, p3, p4, p5, p6])
          refine wpAnyH_ready (rs := [7]) (by kernel_rfl) (by simp) ?_
          refine AllReadyH.cons rfl (fun K hK => ?_) AllReadyH.nil
          go_simp
          refine (HD1.out _ _ _ _ HM7.out).mono ?_
          rintro e w8 ⟨bb, rfl, -, hD⟩; obtain ⟨Y8, Z8, hB8⟩ := hD; have H8 := Lib.hid (show SrvNew w s X8 (k + 1) w8 from ⟨Y8, by rw [HXX.out]; exact hB8.c, hB8.be, fun b hb => (hB8.yf b hb).1⟩); clear hB8; have S1 := HC.out _ H8.out.be
          (try dsimp only)
          refine hK.out _ _ (by exact S1) (fun hHeld => ?_)
          clear hK K
          (try simp only [Act.put, p1, p2, p3, p4, p5, p6])
          refine wpAnyH_done (by kernel_rfl) ?_ _
          refine NoPanic.normal ?_
          obtain ⟨Y8, h8, -, -⟩ := H8.out
          have HF8 := Lib.hid h8
          clear h8
          go_wp2_with (first | (go_at_call 17; ((with_reducible refine (HFO.out _ _ HF8.out).mono ?_); rintro e w9 ⟨rfl, rfl⟩); skip) | (go_at_call 18; ((with_reducible refine (HVI.out _ _ HF8.out).mono ?_); rintro e w9 ⟨rfl, rfl⟩); skip))
          go_roundw
          case rel => exact ⟨k + 1, by omega, by omega, by go_num, X8, HV8.out, H8.out⟩
          case measure => simp [intOf]; omega
        | false =>
          have HXX := Lib.hid (show X8 = X from by rw [HX8.out, if_neg (by decide)])
          go_upto_region 9 with ((go_at_call 12; ((with_reducible refine (HS1.out _).mono ?_); rintro e w8 ⟨rfl, hW⟩); have HW1 := Lib.hid hW; have HW := Lib.hid (hW.on HB.out.2.1 HB.out.2.1.size); have H8 := Lib.hid (show SrvNew w s X8 (k + 1) w8 from by rw [HXX.out]; exact (HBS.out.next hW).more (Nat.le_succ k)); clear hW))
          obtain ⟨Y8, h8, -, -⟩ := H8.out
          have HF8 := Lib.hid h8
          clear h8
          go_wp2_with (first | (go_at_call 17; ((with_reducible refine (HFO.out _ _ HF8.out).mono ?_); rintro e w9 ⟨rfl, rfl⟩); skip) | (go_at_call 18; ((with_reducible refine (HVI.out _ _ HF8.out).mono ?_); rintro e w9 ⟨rfl, rfl⟩); skip))
          go_roundw
          case rel => exact ⟨k + 1, by omega, by omega, by go_num, X8, HV8.out, H8.out⟩
          case measure => simp [intOf]; omega
    · have hk2 : ¬ (k : Int) < 40 := by omega
      go_wp2_with (go_at_call 10; ((with_reducible refine (HAW.out _).mono ?_); rintro e w2 ⟨rfl, hW⟩); have HW := Lib.hid hW; clear hW)
      go_ret
      exact ⟨rfl, HW.out.on HB.out.2.1 HB.out.2.1.size⟩
  · have hk1 : ¬ (k : Int) < (n : Int) := by omega
    go_wp2_with (go_at_call 10; ((with_reducible refine (HAW.out _).mono ?_); rintro e w2 ⟨rfl, hW⟩); have HW := Lib.hid hW; clear hW)
    go_ret
    exact ⟨rfl, HW.out.on HB.out.2.1 HB.out.2.1.size⟩
end
end Go.Proofs.YtnhchpiafchdgaaGreat
