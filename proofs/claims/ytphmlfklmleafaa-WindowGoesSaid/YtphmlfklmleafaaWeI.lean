/- WindowPlays, walked. -/
import Derived.Test.YtphmlfklmleafaaWeE
import Derived.Deep.RegionHeld3
namespace Go.Proofs.Ytphmlfklmleafaa
open Go.RowKit Go.Shelf Go.Maps
/-- Within a region more may be held from here on. -/
theorem wpAnyH_more {P : Program} {md : Region.Mode} {ops : Array Oper} {Q : Exit → Act → World → Prop} {S S' : World → Prop} (hs : ∀ w, S' w → S w) :
    ∀ (fuel : Nat) (listed : Array Bool) (a : Act) (w : World), wpAnyH P md ops Q S' fuel listed a w → wpAnyH P md ops Q S fuel listed a w
  | 0, _, _, _, h => h
  | fuel + 1, _, _, _, h => ⟨h.1, fun i hi => wpOp_mono (fun a' w' h' => ⟨hs w' h'.1, wpAnyH_more hs fuel _ a' w' h'.2⟩) (h.2 i hi)⟩
theorem IsActs.grow {w w' : World} {v : Value} {ts : List Ac} (h : IsActs w.heap.size w v ts) (hb : Below w.heap.size w w') : IsActs w'.heap.size w' v ts := by
  obtain ⟨p, c, h1, h2, h3⟩ := h.below hb
  exact ⟨p, c, h1, h2, fun j t hu => by obtain ⟨b, o, h4, h5, h6⟩ := h3 j t hu; exact ⟨b, o, h4, Nat.lt_of_lt_of_le h5 hb.size, h6⟩⟩
section
variable {R : RT} {L : List Win} {k : Nat} {w0 w : World} {t rb : Nat}
theorem shown_any (S : Sane R L k) {i : Int} (hi : I64 i) : ∃ v ok px py th ks vb, Shown R L i v ok px py th ks vb ∧ ks.length ≤ 1048576 := by
  cases hd : ndL R L i with
  | none => exact ⟨_, _, _, _, _, _, _, shown_none S hi hd, by simp⟩
  | some d =>
    obtain ⟨m, _, hs⟩ := shown_some S hi hd
    exact ⟨_, _, _, _, _, _, _, hs, by have := S.kids _ _ hd; rw [(ndL_some hd).2] at this; omega⟩
theorem Bo.shows (S : Sane R L k) (hB : Bo w0 t rb R L w) (px py : Int) : ∃ p n c id ok, n = L.length ∧
    (∀ W, Below w.heap.size w W → W.cell? ⟨rb, 0, none⟩ = some (.int .i64 R.x) ∧ W.cell? ⟨rb, 1, none⟩ = some (.int .i64 R.y) ∧ W.cell? ⟨rb, 2, none⟩ = some (.int .i64 R.w) ∧ W.cell? ⟨rb, 3, none⟩ = some (.int .i64 R.h) ∧ W.cell? ⟨rb, 4, none⟩ = some (.int .i64 R.last) ∧ W.cell? ⟨rb, 5, none⟩ = some (.slice p n c)) ∧
    (∀ W, Below w.heap.size w W → ∀ i, I64 i → Calls Try.prog 14 #[treeP t, refV R (.slice p n c), .int .i64 i] W fun e w' => e = .returned (.bool true) ∧ Below W.heap.size W w') ∧
    (∀ W, Below w.heap.size w W → Calls Try.prog 15 #[treeP t, .agg #[.int .i64 px, .int .i64 py]] W fun e w' => e = .returned (.tuple #[.int .i64 id, .bool ok]) ∧ Below W.heap.size W w') ∧
    (∀ W, Below w.heap.size w W → Calls Try.prog 16 #[refV R (.slice p n c), .agg #[.int .i64 px, .int .i64 py]] W fun e w' => e = .returned (.tuple #[.int .i64 id, .bool ok]) ∧ Below W.heap.size W w') := by
  obtain ⟨l, sv, h1, h2, h3, -⟩ := hB
  obtain ⟨p, c, rfl⟩ := OwK.slice h3
  obtain ⟨u1, u2⟩ := under_both S px py
  exact ⟨p, _, c, _, _, rfl, fun W hW => (h2.next hW).at6.1, fun W hW i hi => by
    obtain ⟨v, ok, x, y, th, ks, vb, hs, hk⟩ := shown_any S hi
    exact shows_c hs hk (h1.next hW) (OwK.below h3 hW), fun W hW => u1 W t l (h1.next hW), fun W hW => u2 W _ (RO.rd (OwK.below h3 hW))⟩
end
section
variable {w : World} {x y a e px py : Int}
set_option maxRecDepth 100000 in
set_option maxHeartbeats 4000000 in
theorem plays_no (va : Value) (hE : emptyB x y a e = true) : Calls Try.prog 3 #[.agg #[.int .i64 x, .int .i64 y, .int .i64 a, .int .i64 e], va, .agg #[.int .i64 px, .int .i64 py]] w fun e w' => e = .returned (.bool true) ∧ Below w.heap.size w w' := by
  obtain ⟨wb, hwb⟩ : ∃ wb, wb = (w.alloc (.cells #[.int .i64 x, .int .i64 y, .int .i64 a, .int .i64 e] 23)).alloc (.cells #[.int .i64 px, .int .i64 py] 26) := ⟨_, rfl⟩
  have hbel : Below w.heap.size w wb := by rw [hwb]; exact ((Below.refl _ _).alloc (Nat.le_refl _) _).alloc (by simp) _
  have hbA : Blk wb w.heap.size 23 #[.int .i64 x, .int .i64 y, .int .i64 a, .int .i64 e] := by rw [hwb]; exact (Blk.new w _ _).alloc _
  have HX := Lib.hid (fun W (hW : Below wb.heap.size wb W) => (hbA.next hW).c4.1)
  have HN := Lib.hid (fun W => new_wrong (x := x) (y := y) (a := a) (b := e) W hE)
  have HM := Lib.hid (fun W => (show Calls Try.prog 10 #[.agg #[.int .i64 x, .int .i64 y, .int .i64 a, .int .i64 e]] W fun ex w' => ex = .returned (.bool true) ∧ Below W.heap.size W w' from hE ▸ rempty_c x y a e W))
  have HA := Lib.hid (fun W => awake_c W)
  have HB := Lib.hid hbel
  have HW := Lib.hid hwb
  obtain ⟨x0, x1, x2, x3⟩ := HX.out wb (Below.refl _ _)
  clear hbel hbA hE
  go_enter Try.func3, Try.ntmps3
  go_upto_region 1 with fail
  rw [← HW.out]
  clear hwb
  go_upto_region 2 with (go_at_call 9; ((with_reducible refine (HN.out _).mono ?_); rintro ex w1 ⟨rfl, hb1⟩); obtain ⟨y0, y1, y2, y3⟩ := HX.out w1 hb1; have HB1 := Lib.hid hb1; clear hb1)
  clear x0 x1 x2 x3
  go_wp2_with (first
    | (go_at_call 10; ((with_reducible refine (HM.out _).mono ?_); rintro ex w2 ⟨rfl, hb2⟩); have HB2 := Lib.hid (hb2.on HB1.out HB1.out.size); clear hb2)
    | (go_at_call 11; ((with_reducible refine (HA.out _).mono ?_); rintro ex w3 ⟨rfl, hb3⟩); have HB3 := Lib.hid (hb3.on HB2.out HB2.out.size); clear hb3))
  go_ret
  exact ⟨rfl, HB3.out.on HB.out HB.out.size⟩
set_option maxRecDepth 100000 in
set_option maxHeartbeats 16000000 in
theorem plays_yes (va : Value) (As : List Ac) (hI : IsActs w.heap.size w va As) (hE : emptyB x y a e = false) : Calls Try.prog 3 #[.agg #[.int .i64 x, .int .i64 y, .int .i64 a, .int .i64 e], va, .agg #[.int .i64 px, .int .i64 py]] w fun e w' => e = .returned (.bool true) ∧ Below w.heap.size w w' := by
  obtain ⟨wb, hwb⟩ : ∃ wb, wb = (w.alloc (.cells #[.int .i64 x, .int .i64 y, .int .i64 a, .int .i64 e] 23)).alloc (.cells #[.int .i64 px, .int .i64 py] 26) := ⟨_, rfl⟩
  have hbel : Below w.heap.size w wb := by rw [hwb]; exact ((Below.refl _ _).alloc (Nat.le_refl _) _).alloc (by simp) _
  have hbA : Blk wb w.heap.size 23 #[.int .i64 x, .int .i64 y, .int .i64 a, .int .i64 e] := by rw [hwb]; exact (Blk.new w _ _).alloc _
  have hbP : Blk wb (w.heap.size + 1) 26 #[.int .i64 px, .int .i64 py] := by
    rw [hwb]
    have := Blk.new (w.alloc (.cells #[.int .i64 x, .int .i64 y, .int .i64 a, .int .i64 e] 23)) 26 #[.int .i64 px, .int .i64 py]
    rwa [World.size_alloc] at this
  have HX := Lib.hid (fun W (hW : Below wb.heap.size wb W) => (hbA.next hW).c4.1)
  have HP := Lib.hid (fun W (hW : Below wb.heap.size wb W) => (hbP.next hW).c2.1)
  have HN := Lib.hid (fun W => new_c (x := x) (y := y) (a := a) (b := e) W hE)
  have HM := Lib.hid (fun W => (show Calls Try.prog 10 #[.agg #[.int .i64 x, .int .i64 y, .int .i64 a, .int .i64 e]] W fun ex w' => ex = .returned (.bool false) ∧ Below W.heap.size W w' from hE ▸ rempty_c x y a e W))
  have HA := Lib.hid (fun W => awake_c W)
  have hI' := hI.grow hbel
  obtain ⟨p, c, rfl, -, hact⟩ := hI'
  have HACT := Lib.hid hact
  obtain ⟨n, hn⟩ : ∃ n, n = As.length := ⟨_, rfl⟩
  rw [← hn]
  have HNN := Lib.hid hn
  have HB := Lib.hid hbel
  have HW := Lib.hid hwb
  obtain ⟨x0, x1, x2, x3⟩ := HX.out wb (Below.refl _ _)
  clear hbel hbA hbP hE hI hact hn
  go_enter Try.func3, Try.ntmps3
  go_upto_region 1 with fail
  rw [← HW.out]
  clear hwb
  go_upto_region 2 with (go_at_call 9; ((with_reducible refine (HN.out _).mono ?_); rintro ex w1 ⟨t, rfl, hst⟩); obtain ⟨l0, -, hst1, hst2, hst3⟩ := hst; obtain ⟨y0, y1, y2, y3⟩ := HX.out w1 hst2; have HST := Lib.hid (And.intro hst1 (And.intro hst2 hst3)); clear hst1 hst2 hst3)
  clear x0 x1 x2 x3
  go_upto_region 4 with (go_at_call 10; ((with_reducible refine (HM.out _).mono ?_); rintro ex w2 ⟨rfl, hb2⟩); obtain ⟨x0, x1, x2, x3⟩ := HX.out w2 (hb2.on HST.out.2.1 HST.out.2.1.size); have HB2 := Lib.hid hb2; clear hb2)
  clear y0 y1 y2 y3
  go_upto_region 7 with fail
  have hbo : Bo wb t w2.heap.size ⟨x, y, a, e, 0⟩ [] (w2.alloc (.cells #[.int .i64 x, .int .i64 y, .int .i64 a, .int .i64 e, .int .i64 0, .slice none 0 0] 36)) := by
    obtain ⟨h1, h2, h3⟩ := HST.out
    have h4 := HB2.out.alloc HB2.out.size (.cells #[.int .i64 x, .int .i64 y, .int .i64 a, .int .i64 e, .int .i64 0, .slice none 0 0] 36)
    refine ⟨l0, .slice none 0 0, ?_, Blk.new _ _ _, OwK.nil _ _, h4.on h2 h2.size, Nat.le_trans h2.size HB2.out.size, h3⟩
    have h5 := h1.next h4
    rw [← nd_begin ⟨x, y, a, e, 0⟩] at h5
    exact h5
  have HBO := Lib.hid hbo
  obtain ⟨rb, hrb⟩ : ∃ rb, rb = w2.heap.size := ⟨_, rfl⟩
  rw [← hrb] at HBO ⊢
  clear hbo hrb x0 x1 x2 x3
  generalize w2.alloc (.cells #[.int .i64 x, .int .i64 y, .int .i64 a, .int .i64 e, .int .i64 0, .slice none 0 0] 36) = w4 at HBO ⊢
  go_wp2_with fail
  go_loopw [10] (fun z wr => ∃ k : Nat, k ≤ n ∧ k ≤ 60 ∧ z = .int .i64 k ∧ ∃ R L, Sane R L k ∧ Bo wb t rb R L wr) (fun z _ => 60 - (intOf z).toNat)
  case atStart => exact ⟨0, Nat.zero_le _, by omega, rfl, _, [], sane_begin _ rfl, HBO.out⟩
  case round =>
    obtain ⟨k, hk, hk6, rfl, R, L, hS, hB⟩ := hrel
    have HS := Lib.hid hS
    have HBR := Lib.hid hB
    have hk0 : (0 : Int) ≤ (k : Int) := by omega
    clear hS hB
    by_cases hlt : k < n
    · have hk1 : (k : Int) < (n : Int) := by omega
      by_cases h60 : k < 60
      · have hk2 : (k : Int) < 60 := by omega
        obtain ⟨A, hA⟩ : ∃ A, As[k]? = some A := ⟨_, List.getElem?_eq_getElem (by rw [← HNN.out]; exact hlt)⟩
        obtain ⟨b, o, rfl, hbl, hc, hok⟩ := HACT.out k A hA
        have HD := Lib.hid (does_c HS.out (by omega) (HBR.out.next (Below.refl _ wr).drew) A hok)
        obtain ⟨kk, win, oth, ax, ay, aa, ae⟩ := A
        have HAC := Lib.hid (fun W (hW : Below wb.heap.size wb W) => (show W.cell? ⟨b, o + k * 7, none⟩ = some (.int .i64 kk) ∧ W.cell? ⟨b, o + k * 7 + 1, none⟩ = some (.int .i64 win) ∧ W.cell? ⟨b, o + k * 7 + 2, none⟩ = some (.int .i64 oth) ∧ W.cell? ⟨b, o + k * 7 + 3, none⟩ = some (.int .i64 ax) ∧ W.cell? ⟨b, o + k * 7 + 4, none⟩ = some (.int .i64 ay) ∧ W.cell? ⟨b, o + k * 7 + 5, none⟩ = some (.int .i64 aa) ∧ W.cell? ⟨b, o + k * 7 + 6, none⟩ = some (.int .i64 ae) from
          ⟨(hW.cell (p := ⟨b, o + k * 7, none⟩) hbl).trans (hc 0 _ rfl), (hW.cell (p := ⟨b, o + k * 7 + 1, none⟩) hbl).trans (hc 1 _ rfl), (hW.cell (p := ⟨b, o + k * 7 + 2, none⟩) hbl).trans (hc 2 _ rfl), (hW.cell (p := ⟨b, o + k * 7 + 3, none⟩) hbl).trans (hc 3 _ rfl), (hW.cell (p := ⟨b, o + k * 7 + 4, none⟩) hbl).trans (hc 4 _ rfl), (hW.cell (p := ⟨b, o + k * 7 + 5, none⟩) hbl).trans (hc 5 _ rfl), (hW.cell (p := ⟨b, o + k * 7 + 6, none⟩) hbl).trans (hc 6 _ rfl)⟩))
        have HOK := Lib.hid hok
        have HA0 := Lib.hid (fun W (hW : Below wr.heap.size wr W) => HAC.out W (hW.on HBR.out.below HBR.out.below.size))
        clear hc hok hA hbl
        go_wp2_with fail
        refine wp_region_noPanic ?_
        refine wp_region_held_drew (S := fun wx => wx.cell? ⟨b, o + k * 7, none⟩ = some (.int .i64 kk) ∧ wx.cell? ⟨b, o + k * 7 + 1, none⟩ = some (.int .i64 win) ∧ wx.cell? ⟨b, o + k * 7 + 2, none⟩ = some (.int .i64 oth) ∧ wx.cell? ⟨b, o + k * 7 + 3, none⟩ = some (.int .i64 ax) ∧ wx.cell? ⟨b, o + k * 7 + 4, none⟩ = some (.int .i64 ay) ∧ wx.cell? ⟨b, o + k * 7 + 5, none⟩ = some (.int .i64 aa) ∧ wx.cell? ⟨b, o + k * 7 + 6, none⟩ = some (.int .i64 ae)) (by kernel_rfl) (by exact HA0.out _ (Below.refl wr.heap.size wr).drew) (fun hHeld => ?_)
        refine wpAnyH_take (i := 0) (v := ?va0) rfl (by kernel_rfl) (by kernel_rfl) (by kernel_rfl) (fun _ _ _ h => h) (Or.inl ⟨by kernel_rfl, ?ya0⟩) (by assumption) ?ra0
        case ya0 => (intro wq hSw; (try dsimp only at hSw); go_simp; (try with_reducible rfl))
        (try simp only [Act.put, List.getElem_toArray, List.getElem_cons_zero, List.setIfInBounds_toArray, List.set_cons_zero, List.set_cons_succ])
        refine wpAnyH_take (i := 1) (v := ?va1) rfl (by kernel_rfl) (by kernel_rfl) (by kernel_rfl) (fun _ _ _ h => h) (Or.inl ⟨by kernel_rfl, ?ya1⟩) (by assumption) ?ra1
        case ya1 => (intro wq hSw; (try dsimp only at hSw); go_simp; (try with_reducible rfl))
        (try simp only [Act.put, List.getElem_toArray, List.getElem_cons_succ, List.getElem_cons_zero, List.setIfInBounds_toArray, List.set_cons_zero, List.set_cons_succ])
        refine wpAnyH_take (i := 2) (v := ?va2) rfl (by kernel_rfl) (by kernel_rfl) (by kernel_rfl) (fun _ _ _ h => h) (Or.inl ⟨by kernel_rfl, ?ya2⟩) (by assumption) ?ra2
        case ya2 => (intro wq hSw; (try dsimp only at hSw); go_simp; (try with_reducible rfl))
        (try simp only [Act.put, List.getElem_toArray, List.getElem_cons_succ, List.getElem_cons_zero, List.setIfInBounds_toArray, List.set_cons_zero, List.set_cons_succ])
        refine wpAnyH_take (i := 3) (v := ?va3) rfl (by kernel_rfl) (by kernel_rfl) (by kernel_rfl) (fun _ _ _ h => h) (Or.inl ⟨by kernel_rfl, ?ya3⟩) (by assumption) ?ra3
        case ya3 => (intro wq hSw; (try dsimp only at hSw); go_simp; (try with_reducible rfl))
        (try simp only [Act.put, List.getElem_toArray, List.getElem_cons_succ, List.getElem_cons_zero, List.setIfInBounds_toArray, List.set_cons_zero, List.set_cons_succ])
        refine wpAnyH_take (i := 4) (v := ?va4) rfl (by kernel_rfl) (by kernel_rfl) (by kernel_rfl) (fun _ _ _ h => h) (Or.inl ⟨by kernel_rfl, ?ya4⟩) (by assumption) ?ra4
        case ya4 => (intro wq hSw; (try dsimp only at hSw); go_simp; (try with_reducible rfl))
        (try simp only [Act.put, List.getElem_toArray, List.getElem_cons_succ, List.getElem_cons_zero, List.setIfInBounds_toArray, List.set_cons_zero, List.set_cons_succ])
        refine wpAnyH_take (i := 5) (v := ?va5) rfl (by kernel_rfl) (by kernel_rfl) (by kernel_rfl) (fun _ _ _ h => h) (Or.inl ⟨by kernel_rfl, ?ya5⟩) (by assumption) ?ra5
        case ya5 => (intro wq hSw; (try dsimp only at hSw); go_simp; (try with_reducible rfl))
        (try simp only [Act.put, List.getElem_toArray, List.getElem_cons_succ, List.getElem_cons_zero, List.setIfInBounds_toArray, List.set_cons_zero, List.set_cons_succ])
        refine wpAnyH_ready (rs := [6]) (by kernel_rfl) (by simp) ?_
        refine AllReadyH.cons rfl (fun K hK => ?_) AllReadyH.nil
        go_simp
        refine (HD.out).mono ?_
        rintro ex w5 ⟨rfl, R', L', -, hS5, hB5⟩; obtain ⟨p5, n5, c5, id5, ok5, hn5, hcells, hshow, huc, hur⟩ := Bo.shows hS5 hB5 px py; have HSN5 := Lib.hid hS5; have HB5 := Lib.hid hB5; have HSH := Lib.hid hshow; have HUC := Lib.hid huc; have HUR := Lib.hid hur; have HLEN := Lib.hid (Co.len hS5 hB5.co); rw [← hn5] at HLEN; have HS5 := Lib.hid (fun W (hW : Below w5.heap.size w5 W) => And.intro (HAC.out W (hW.on hB5.below hB5.below.size)) (hcells W hW)); have HS10 := Lib.hid (fun W (hW : Below w5.heap.size w5 W) => And.intro (HP.out W (hW.on hB5.below hB5.below.size)).1 (And.intro (HP.out W (hW.on hB5.below hB5.below.size)).2 (hcells W hW))); clear hS5 hB5 hn5 hcells hshow huc hur
        (try dsimp only)
        refine hK.out _ _ (by exact (HS5.out _ (Below.refl _ _)).1) (fun hHeld => ?_)
        clear hK K
        (try simp only [Act.put, List.getElem_toArray, List.getElem_cons_succ, List.getElem_cons_zero, List.setIfInBounds_toArray, List.set_cons_zero, List.set_cons_succ])
        refine wpAnyH_more (S' := fun wx => (wx.cell? ⟨b, o + k * 7, none⟩ = some (.int .i64 kk) ∧ wx.cell? ⟨b, o + k * 7 + 1, none⟩ = some (.int .i64 win) ∧ wx.cell? ⟨b, o + k * 7 + 2, none⟩ = some (.int .i64 oth) ∧ wx.cell? ⟨b, o + k * 7 + 3, none⟩ = some (.int .i64 ax) ∧ wx.cell? ⟨b, o + k * 7 + 4, none⟩ = some (.int .i64 ay) ∧ wx.cell? ⟨b, o + k * 7 + 5, none⟩ = some (.int .i64 aa) ∧ wx.cell? ⟨b, o + k * 7 + 6, none⟩ = some (.int .i64 ae)) ∧ wx.cell? ⟨rb, 0, none⟩ = some (.int .i64 R'.x) ∧ wx.cell? ⟨rb, 1, none⟩ = some (.int .i64 R'.y) ∧ wx.cell? ⟨rb, 2, none⟩ = some (.int .i64 R'.w) ∧ wx.cell? ⟨rb, 3, none⟩ = some (.int .i64 R'.h) ∧ wx.cell? ⟨rb, 4, none⟩ = some (.int .i64 R'.last) ∧ wx.cell? ⟨rb, 5, none⟩ = some (.slice p5 n5 c5)) (fun wx hS => hS.1) _ _ _ _ ?_
        have hHeld5 := HS5.out _ (Below.refl _ w5)
        refine wpAnyH_take (i := 7) (v := ?vb7) rfl (by kernel_rfl) (by kernel_rfl) (by kernel_rfl) (fun _ _ _ h => h) (Or.inl ⟨by kernel_rfl, ?yb7⟩) (by assumption) ?rb7
        case yb7 => (intro wq hSw; (try dsimp only at hSw); go_simp; (try with_reducible rfl))
        (try simp only [Act.put, List.getElem_toArray, List.getElem_cons_succ, List.getElem_cons_zero, List.setIfInBounds_toArray, List.set_cons_zero, List.set_cons_succ])
        refine wpAnyH_take (i := 8) (v := ?vb8) rfl (by kernel_rfl) (by kernel_rfl) (by kernel_rfl) (fun _ _ _ h => h) (Or.inl ⟨by kernel_rfl, ?yb8⟩) (by assumption) ?rb8
        case yb8 => (intro wq hSw; (try dsimp only at hSw); go_simp; (try with_reducible rfl))
        (try simp only [Act.put, List.getElem_toArray, List.getElem_cons_succ, List.getElem_cons_zero, List.setIfInBounds_toArray, List.set_cons_zero, List.set_cons_succ])
        refine wpAnyH_take (i := 9) (v := ?vb9) rfl (by kernel_rfl) (by kernel_rfl) (by kernel_rfl) (fun _ _ _ h => h) (Or.inl ⟨by kernel_rfl, ?yb9⟩) (by assumption) ?rb9
        case yb9 => (intro wq hSw; (try dsimp only at hSw); go_simp; (try with_reducible rfl))
        (try simp only [Act.put, List.getElem_toArray, List.getElem_cons_succ, List.getElem_cons_zero, List.setIfInBounds_toArray, List.set_cons_zero, List.set_cons_succ])
        refine wpAnyH_take (i := 11) (v := ?vb11) rfl (by kernel_rfl) (by kernel_rfl) (by kernel_rfl) (fun _ _ _ h => h) (Or.inl ⟨by kernel_rfl, ?yb11⟩) (by assumption) ?rb11
        case yb11 => (intro wq hSw; (try dsimp only at hSw); go_simp; (try with_reducible rfl))
        (try simp only [Act.put, List.getElem_toArray, List.getElem_cons_succ, List.getElem_cons_zero, List.setIfInBounds_toArray, List.set_cons_zero, List.set_cons_succ])
        refine wpAnyH_take (i := 12) (v := ?vb12) rfl (by kernel_rfl) (by kernel_rfl) (by kernel_rfl) (fun _ _ _ h => h) (Or.inl ⟨by kernel_rfl, ?yb12⟩) (by assumption) ?rb12
        case yb12 => (intro wq hSw; (try dsimp only at hSw); go_simp; (try with_reducible rfl))
        (try simp only [Act.put, List.getElem_toArray, List.getElem_cons_succ, List.getElem_cons_zero, List.setIfInBounds_toArray, List.set_cons_zero, List.set_cons_succ])
        refine wpAnyH_take (i := 13) (v := ?vb13) rfl (by kernel_rfl) (by kernel_rfl) (by kernel_rfl) (fun _ _ _ h => h) (Or.inl ⟨by kernel_rfl, ?yb13⟩) (by assumption) ?rb13
        case yb13 => (intro wq hSw; (try dsimp only at hSw); go_simp; (try with_reducible rfl))
        (try simp only [Act.put, List.getElem_toArray, List.getElem_cons_succ, List.getElem_cons_zero, List.setIfInBounds_toArray, List.set_cons_zero, List.set_cons_succ])
        refine wpAnyH_take (i := 14) (v := ?vb14) rfl (by kernel_rfl) (by kernel_rfl) (by kernel_rfl) (fun _ _ _ h => h) (Or.inl ⟨by kernel_rfl, ?yb14⟩) (by assumption) ?rb14
        case yb14 => (intro wq hSw; (try dsimp only at hSw); go_simp; (try with_reducible rfl))
        (try simp only [Act.put, List.getElem_toArray, List.getElem_cons_succ, List.getElem_cons_zero, List.setIfInBounds_toArray, List.set_cons_zero, List.set_cons_succ])
        refine wpAnyH_take (i := 15) (v := ?vb15) rfl (by kernel_rfl) (by kernel_rfl) (by kernel_rfl) (fun _ _ _ h => h) (Or.inl ⟨by kernel_rfl, ?yb15⟩) (by assumption) ?rb15
        case yb15 => (intro wq hSw; (try dsimp only at hSw); go_simp; (try with_reducible rfl))
        (try simp only [Act.put, List.getElem_toArray, List.getElem_cons_succ, List.getElem_cons_zero, List.setIfInBounds_toArray, List.set_cons_zero, List.set_cons_succ])
        refine wpAnyH_ready (rs := [10]) (by kernel_rfl) (by simp) ?_
        refine AllReadyH.cons rfl (fun K hK => ?_) AllReadyH.nil
        go_simp
        refine (HLEN.out).mono ?_
        rintro ex w6 ⟨rfl, rfl⟩
        (try dsimp only)
        refine hK.out _ _ (by exact HS5.out _ (Below.refl _ _)) (fun hHeld => ?_)
        clear hK K
        (try simp only [Act.put, List.getElem_toArray, List.getElem_cons_succ, List.getElem_cons_zero, List.setIfInBounds_toArray, List.set_cons_zero, List.set_cons_succ])
        refine wpAnyH_take (i := 16) (v := ?vc16) rfl (by kernel_rfl) (by kernel_rfl) (by kernel_rfl) (fun _ _ _ h => h) (Or.inl ⟨by kernel_rfl, ?yc16⟩) (by assumption) ?rc16
        case yc16 => (intro wq hSw; (try dsimp only at hSw); go_simp; (try with_reducible rfl))
        (try simp only [Act.put, List.getElem_toArray, List.getElem_cons_succ, List.getElem_cons_zero, List.setIfInBounds_toArray, List.set_cons_zero, List.set_cons_succ])
        refine wpAnyH_take (i := 17) (v := ?vc17) rfl (by kernel_rfl) (by kernel_rfl) (by kernel_rfl) (fun _ _ _ h => h) (Or.inl ⟨by kernel_rfl, ?yc17⟩) (by assumption) ?rc17
        case yc17 => (intro wq hSw; (try dsimp only at hSw); go_simp; (try with_reducible rfl))
        (try simp only [Act.put, List.getElem_toArray, List.getElem_cons_succ, List.getElem_cons_zero, List.setIfInBounds_toArray, List.set_cons_zero, List.set_cons_succ])
        refine wpAnyH_take (i := 18) (v := ?vc18) rfl (by kernel_rfl) (by kernel_rfl) (by kernel_rfl) (fun _ _ _ h => h) (Or.inl ⟨by kernel_rfl, ?yc18⟩) (by assumption) ?rc18
        case yc18 => (intro wq hSw; (try dsimp only at hSw); go_simp; (try with_reducible rfl))
        (try simp only [Act.put, List.getElem_toArray, List.getElem_cons_succ, List.getElem_cons_zero, List.setIfInBounds_toArray, List.set_cons_zero, List.set_cons_succ])
        refine wpAnyH_take (i := 19) (v := ?vc19) rfl (by kernel_rfl) (by kernel_rfl) (by kernel_rfl) (fun _ _ _ h => h) (Or.inl ⟨by kernel_rfl, ?yc19⟩) (by assumption) ?rc19
        case yc19 => (intro wq hSw; (try dsimp only at hSw); go_simp; (try with_reducible rfl))
        (try simp only [Act.put, List.getElem_toArray, List.getElem_cons_succ, List.getElem_cons_zero, List.setIfInBounds_toArray, List.set_cons_zero, List.set_cons_succ])
        refine wpAnyH_take (i := 20) (v := ?vc20) rfl (by kernel_rfl) (by kernel_rfl) (by kernel_rfl) (fun _ _ _ h => h) (Or.inl ⟨by kernel_rfl, ?yc20⟩) (by assumption) ?rc20
        case yc20 => (intro wq hSw; (try dsimp only at hSw); go_simp; (try with_reducible rfl))
        (try simp only [Act.put, List.getElem_toArray, List.getElem_cons_succ, List.getElem_cons_zero, List.setIfInBounds_toArray, List.set_cons_zero, List.set_cons_succ])
        refine wpAnyH_take (i := 21) (v := ?vc21) rfl (by kernel_rfl) (by kernel_rfl) (by kernel_rfl) (fun _ _ _ h => h) (Or.inl ⟨by kernel_rfl, ?yc21⟩) (by assumption) ?rc21
        case yc21 => (intro wq hSw; (try dsimp only at hSw); go_simp; (try with_reducible rfl))
        (try simp only [Act.put, List.getElem_toArray, List.getElem_cons_succ, List.getElem_cons_zero, List.setIfInBounds_toArray, List.set_cons_zero, List.set_cons_succ])
        refine wpAnyH_take (i := 22) (v := ?vc22) rfl (by kernel_rfl) (by kernel_rfl) (by kernel_rfl) (fun _ _ _ h => h) (Or.inl ⟨by kernel_rfl, ?yc22⟩) (by assumption) ?rc22
        case yc22 => (intro wq hSw; (try dsimp only at hSw); go_simp; (try with_reducible rfl))
        (try simp only [Act.put, List.getElem_toArray, List.getElem_cons_succ, List.getElem_cons_zero, List.setIfInBounds_toArray, List.set_cons_zero, List.set_cons_succ])
        refine wpAnyH_take (i := 23) (v := ?vc23) rfl (by kernel_rfl) (by kernel_rfl) (by kernel_rfl) (fun _ _ _ h => h) (Or.inl ⟨by kernel_rfl, ?yc23⟩) (by assumption) ?rc23
        case yc23 => (intro wq hSw; (try dsimp only at hSw); go_simp; (try with_reducible rfl))
        (try simp only [Act.put, List.getElem_toArray, List.getElem_cons_succ, List.getElem_cons_zero, List.setIfInBounds_toArray, List.set_cons_zero, List.set_cons_succ])
        refine wpAnyH_take (i := 24) (v := ?vc24) rfl (by kernel_rfl) (by kernel_rfl) (by kernel_rfl) (fun _ _ _ h => h) (Or.inl ⟨by kernel_rfl, ?yc24⟩) (by assumption) ?rc24
        case yc24 => (intro wq hSw; (try dsimp only at hSw); go_simp; (try with_reducible rfl))
        (try simp only [Act.put, List.getElem_toArray, List.getElem_cons_succ, List.getElem_cons_zero, List.setIfInBounds_toArray, List.set_cons_zero, List.set_cons_succ])
        refine wpAnyH_take (i := 25) (v := ?vc25) rfl (by kernel_rfl) (by kernel_rfl) (by kernel_rfl) (fun _ _ _ h => h) (Or.inl ⟨by kernel_rfl, ?yc25⟩) (by assumption) ?rc25
        case yc25 => (intro wq hSw; (try dsimp only at hSw); go_simp; (try with_reducible rfl))
        (try simp only [Act.put, List.getElem_toArray, List.getElem_cons_succ, List.getElem_cons_zero, List.setIfInBounds_toArray, List.set_cons_zero, List.set_cons_succ])
        refine wpAnyH_take (i := 26) (v := ?vc26) rfl (by kernel_rfl) (by kernel_rfl) (by kernel_rfl) (fun _ _ _ h => h) (Or.inl ⟨by kernel_rfl, ?yc26⟩) (by assumption) ?rc26
        case yc26 => (intro wq hSw; (try dsimp only at hSw); go_simp; (try with_reducible rfl))
        (try simp only [Act.put, List.getElem_toArray, List.getElem_cons_succ, List.getElem_cons_zero, List.setIfInBounds_toArray, List.set_cons_zero, List.set_cons_succ])
        refine wpAnyH_take (i := 27) (v := ?vc27) rfl (by kernel_rfl) (by kernel_rfl) (by kernel_rfl) (fun _ _ _ h => h) (Or.inl ⟨by kernel_rfl, ?yc27⟩) (by assumption) ?rc27
        case yc27 => (intro wq hSw; (try dsimp only at hSw); go_simp; (try with_reducible rfl))
        (try simp only [Act.put, List.getElem_toArray, List.getElem_cons_succ, List.getElem_cons_zero, List.setIfInBounds_toArray, List.set_cons_zero, List.set_cons_succ])
        refine wpAnyH_ready (rs := [28]) (by kernel_rfl) (by simp) ?_
        refine AllReadyH.cons rfl (fun K hK => ?_) AllReadyH.nil
        go_simp
        refine (HSH.out _ (Below.refl _ _) win HOK.out.1).mono ?_
        rintro ex w7 ⟨rfl, hb0⟩; have B7 := Lib.hid hb0; clear hb0
        (try dsimp only)
        refine hK.out _ _ (by exact HS5.out _ B7.out) (fun hHeld => ?_)
        clear hK K
        (try simp only [Act.put, List.getElem_toArray, List.getElem_cons_succ, List.getElem_cons_zero, List.setIfInBounds_toArray, List.set_cons_zero, List.set_cons_succ])
        refine wpAnyH_take (i := 29) (v := ?vd29) rfl (by kernel_rfl) (by kernel_rfl) (by kernel_rfl) (fun _ _ _ h => h) (Or.inl ⟨by kernel_rfl, ?yd29⟩) (by assumption) ?rd29
        case yd29 => (intro wq hSw; (try dsimp only at hSw); go_simp; (try with_reducible rfl))
        (try simp only [Act.put, List.getElem_toArray, List.getElem_cons_succ, List.getElem_cons_zero, List.setIfInBounds_toArray, List.set_cons_zero, List.set_cons_succ])
        refine wpAnyH_take (i := 30) (v := ?vd30) rfl (by kernel_rfl) (by kernel_rfl) (by kernel_rfl) (fun _ _ _ h => h) (Or.inl ⟨by kernel_rfl, ?yd30⟩) (by assumption) ?rd30
        case yd30 => (intro wq hSw; (try dsimp only at hSw); go_simp; (try with_reducible rfl))
        (try simp only [Act.put, List.getElem_toArray, List.getElem_cons_succ, List.getElem_cons_zero, List.setIfInBounds_toArray, List.set_cons_zero, List.set_cons_succ])
        refine wpAnyH_take (i := 31) (v := ?vd31) rfl (by kernel_rfl) (by kernel_rfl) (by kernel_rfl) (fun _ _ _ h => h) (Or.inl ⟨by kernel_rfl, ?yd31⟩) (by assumption) ?rd31
        case yd31 => (intro wq hSw; (try dsimp only at hSw); go_simp; (try with_reducible rfl))
        (try simp only [Act.put, List.getElem_toArray, List.getElem_cons_succ, List.getElem_cons_zero, List.setIfInBounds_toArray, List.set_cons_zero, List.set_cons_succ])
        refine wpAnyH_take (i := 32) (v := ?vd32) rfl (by kernel_rfl) (by kernel_rfl) (by kernel_rfl) (fun _ _ _ h => h) (Or.inl ⟨by kernel_rfl, ?yd32⟩) (by assumption) ?rd32
        case yd32 => (intro wq hSw; (try dsimp only at hSw); go_simp; (try with_reducible rfl))
        (try simp only [Act.put, List.getElem_toArray, List.getElem_cons_succ, List.getElem_cons_zero, List.setIfInBounds_toArray, List.set_cons_zero, List.set_cons_succ])
        refine wpAnyH_take (i := 33) (v := ?vd33) rfl (by kernel_rfl) (by kernel_rfl) (by kernel_rfl) (fun _ _ _ h => h) (Or.inl ⟨by kernel_rfl, ?yd33⟩) (by assumption) ?rd33
        case yd33 => (intro wq hSw; (try dsimp only at hSw); go_simp; (try with_reducible rfl))
        (try simp only [Act.put, List.getElem_toArray, List.getElem_cons_succ, List.getElem_cons_zero, List.setIfInBounds_toArray, List.set_cons_zero, List.set_cons_succ])
        refine wpAnyH_take (i := 34) (v := ?vd34) rfl (by kernel_rfl) (by kernel_rfl) (by kernel_rfl) (fun _ _ _ h => h) (Or.inl ⟨by kernel_rfl, ?yd34⟩) (by assumption) ?rd34
        case yd34 => (intro wq hSw; (try dsimp only at hSw); go_simp; (try with_reducible rfl))
        (try simp only [Act.put, List.getElem_toArray, List.getElem_cons_succ, List.getElem_cons_zero, List.setIfInBounds_toArray, List.set_cons_zero, List.set_cons_succ])
        refine wpAnyH_take (i := 35) (v := ?vd35) rfl (by kernel_rfl) (by kernel_rfl) (by kernel_rfl) (fun _ _ _ h => h) (Or.inl ⟨by kernel_rfl, ?yd35⟩) (by assumption) ?rd35
        case yd35 => (intro wq hSw; (try dsimp only at hSw); go_simp; (try with_reducible rfl))
        (try simp only [Act.put, List.getElem_toArray, List.getElem_cons_succ, List.getElem_cons_zero, List.setIfInBounds_toArray, List.set_cons_zero, List.set_cons_succ])
        refine wpAnyH_take (i := 36) (v := ?vd36) rfl (by kernel_rfl) (by kernel_rfl) (by kernel_rfl) (fun _ _ _ h => h) (Or.inl ⟨by kernel_rfl, ?yd36⟩) (by assumption) ?rd36
        case yd36 => (intro wq hSw; (try dsimp only at hSw); go_simp; (try with_reducible rfl))
        (try simp only [Act.put, List.getElem_toArray, List.getElem_cons_succ, List.getElem_cons_zero, List.setIfInBounds_toArray, List.set_cons_zero, List.set_cons_succ])
        refine wpAnyH_take (i := 37) (v := ?vd37) rfl (by kernel_rfl) (by kernel_rfl) (by kernel_rfl) (fun _ _ _ h => h) (Or.inl ⟨by kernel_rfl, ?yd37⟩) (by assumption) ?rd37
        case yd37 => (intro wq hSw; (try dsimp only at hSw); go_simp; (try with_reducible rfl))
        (try simp only [Act.put, List.getElem_toArray, List.getElem_cons_succ, List.getElem_cons_zero, List.setIfInBounds_toArray, List.set_cons_zero, List.set_cons_succ])
        refine wpAnyH_take (i := 38) (v := ?vd38) rfl (by kernel_rfl) (by kernel_rfl) (by kernel_rfl) (fun _ _ _ h => h) (Or.inl ⟨by kernel_rfl, ?yd38⟩) (by assumption) ?rd38
        case yd38 => (intro wq hSw; (try dsimp only at hSw); go_simp; (try with_reducible rfl))
        (try simp only [Act.put, List.getElem_toArray, List.getElem_cons_succ, List.getElem_cons_zero, List.setIfInBounds_toArray, List.set_cons_zero, List.set_cons_succ])
        refine wpAnyH_take (i := 39) (v := ?vd39) rfl (by kernel_rfl) (by kernel_rfl) (by kernel_rfl) (fun _ _ _ h => h) (Or.inl ⟨by kernel_rfl, ?yd39⟩) (by assumption) ?rd39
        case yd39 => (intro wq hSw; (try dsimp only at hSw); go_simp; (try with_reducible rfl))
        (try simp only [Act.put, List.getElem_toArray, List.getElem_cons_succ, List.getElem_cons_zero, List.setIfInBounds_toArray, List.set_cons_zero, List.set_cons_succ])
        refine wpAnyH_take (i := 40) (v := ?vd40) rfl (by kernel_rfl) (by kernel_rfl) (by kernel_rfl) (fun _ _ _ h => h) (Or.inl ⟨by kernel_rfl, ?yd40⟩) (by assumption) ?rd40
        case yd40 => (intro wq hSw; (try dsimp only at hSw); go_simp; (try with_reducible rfl))
        (try simp only [Act.put, List.getElem_toArray, List.getElem_cons_succ, List.getElem_cons_zero, List.setIfInBounds_toArray, List.set_cons_zero, List.set_cons_succ])
        refine wpAnyH_ready (rs := [41]) (by kernel_rfl) (by simp) ?_
        refine AllReadyH.cons rfl (fun K hK => ?_) AllReadyH.nil
        go_simp
        refine (HSH.out _ B7.out oth HOK.out.2).mono ?_
        rintro ex w8 ⟨rfl, hb0⟩; have B8 := Lib.hid (hb0.on B7.out B7.out.size); clear hb0
        (try dsimp only)
        refine hK.out _ _ (by exact HS5.out _ B8.out) (fun hHeld => ?_)
        clear hK K
        (try simp only [Act.put, List.getElem_toArray, List.getElem_cons_succ, List.getElem_cons_zero, List.setIfInBounds_toArray, List.set_cons_zero, List.set_cons_succ])
        refine wpAnyH_take (i := 42) (v := ?ve42) rfl (by kernel_rfl) (by kernel_rfl) (by kernel_rfl) (fun _ _ _ h => h) (Or.inl ⟨by kernel_rfl, ?ye42⟩) (by assumption) ?re42
        case ye42 => (intro wq hSw; (try dsimp only at hSw); go_simp; (try with_reducible rfl))
        (try simp only [Act.put, List.getElem_toArray, List.getElem_cons_succ, List.getElem_cons_zero, List.setIfInBounds_toArray, List.set_cons_zero, List.set_cons_succ])
        refine wpAnyH_take (i := 43) (v := ?ve43) rfl (by kernel_rfl) (by kernel_rfl) (by kernel_rfl) (fun _ _ _ h => h) (Or.inl ⟨by kernel_rfl, ?ye43⟩) (by assumption) ?re43
        case ye43 => (intro wq hSw; (try dsimp only at hSw); go_simp; (try with_reducible rfl))
        (try simp only [Act.put, List.getElem_toArray, List.getElem_cons_succ, List.getElem_cons_zero, List.setIfInBounds_toArray, List.set_cons_zero, List.set_cons_succ])
        refine wpAnyH_take (i := 44) (v := ?ve44) rfl (by kernel_rfl) (by kernel_rfl) (by kernel_rfl) (fun _ _ _ h => h) (Or.inl ⟨by kernel_rfl, ?ye44⟩) (by assumption) ?re44
        case ye44 => (intro wq hSw; (try dsimp only at hSw); go_simp; (try with_reducible rfl))
        (try simp only [Act.put, List.getElem_toArray, List.getElem_cons_succ, List.getElem_cons_zero, List.setIfInBounds_toArray, List.set_cons_zero, List.set_cons_succ])
        refine wpAnyH_take (i := 45) (v := ?ve45) rfl (by kernel_rfl) (by kernel_rfl) (by kernel_rfl) (fun _ _ _ h => h) (Or.inl ⟨by kernel_rfl, ?ye45⟩) (by assumption) ?re45
        case ye45 => (intro wq hSw; (try dsimp only at hSw); go_simp; (try with_reducible rfl))
        (try simp only [Act.put, List.getElem_toArray, List.getElem_cons_succ, List.getElem_cons_zero, List.setIfInBounds_toArray, List.set_cons_zero, List.set_cons_succ])
        refine wpAnyH_take (i := 46) (v := ?ve46) rfl (by kernel_rfl) (by kernel_rfl) (by kernel_rfl) (fun _ _ _ h => h) (Or.inl ⟨by kernel_rfl, ?ye46⟩) (by assumption) ?re46
        case ye46 => (intro wq hSw; (try dsimp only at hSw); go_simp; (try with_reducible rfl))
        (try simp only [Act.put, List.getElem_toArray, List.getElem_cons_succ, List.getElem_cons_zero, List.setIfInBounds_toArray, List.set_cons_zero, List.set_cons_succ])
        refine wpAnyH_take (i := 47) (v := ?ve47) rfl (by kernel_rfl) (by kernel_rfl) (by kernel_rfl) (fun _ _ _ h => h) (Or.inl ⟨by kernel_rfl, ?ye47⟩) (by assumption) ?re47
        case ye47 => (intro wq hSw; (try dsimp only at hSw); go_simp; (try with_reducible rfl))
        (try simp only [Act.put, List.getElem_toArray, List.getElem_cons_succ, List.getElem_cons_zero, List.setIfInBounds_toArray, List.set_cons_zero, List.set_cons_succ])
        refine wpAnyH_take (i := 48) (v := ?ve48) rfl (by kernel_rfl) (by kernel_rfl) (by kernel_rfl) (fun _ _ _ h => h) (Or.inl ⟨by kernel_rfl, ?ye48⟩) (by assumption) ?re48
        case ye48 => (intro wq hSw; (try dsimp only at hSw); go_simp; (try with_reducible rfl))
        (try simp only [Act.put, List.getElem_toArray, List.getElem_cons_succ, List.getElem_cons_zero, List.setIfInBounds_toArray, List.set_cons_zero, List.set_cons_succ])
        refine wpAnyH_ready (rs := [49]) (by kernel_rfl) (by simp) ?_
        refine AllReadyH.cons rfl (fun K hK => ?_) AllReadyH.nil
        go_simp
        refine (HSH.out _ B8.out 0 i64_0).mono ?_
        rintro ex w9 ⟨rfl, hb0⟩; have B9 := Lib.hid (hb0.on B8.out B8.out.size); clear hb0
        (try dsimp only)
        refine hK.out _ _ (by exact HS5.out _ B9.out) (fun hHeld => ?_)
        clear hK K
        (try simp only [Act.put, List.getElem_toArray, List.getElem_cons_succ, List.getElem_cons_zero, List.setIfInBounds_toArray, List.set_cons_zero, List.set_cons_succ])
        refine wpAnyH_take (i := 50) (v := ?vf50) rfl (by kernel_rfl) (by kernel_rfl) (by kernel_rfl) (fun _ _ _ h => h) (Or.inl ⟨by kernel_rfl, ?yf50⟩) (by assumption) ?rf50
        case yf50 => (intro wq hSw; (try dsimp only at hSw); go_simp; (try with_reducible rfl))
        (try simp only [Act.put, List.getElem_toArray, List.getElem_cons_succ, List.getElem_cons_zero, List.setIfInBounds_toArray, List.set_cons_zero, List.set_cons_succ])
        refine wpAnyH_take (i := 51) (v := ?vf51) rfl (by kernel_rfl) (by kernel_rfl) (by kernel_rfl) (fun _ _ _ h => h) (Or.inl ⟨by kernel_rfl, ?yf51⟩) (by assumption) ?rf51
        case yf51 => (intro wq hSw; (try dsimp only at hSw); go_simp; (try with_reducible rfl))
        (try simp only [Act.put, List.getElem_toArray, List.getElem_cons_succ, List.getElem_cons_zero, List.setIfInBounds_toArray, List.set_cons_zero, List.set_cons_succ])
        refine wpAnyH_done (by kernel_rfl) ?_ _
        refine NoPanic.normal ?_
        obtain ⟨q0, q1, -⟩ := HS10.out w9 B9.out
        go_upto_region 13 with (go_at_call 15; ((with_reducible refine (HUC.out w9 B9.out).mono ?_); rintro ex w10 ⟨rfl, hb0⟩); have B10 := Lib.hid (hb0.on B9.out B9.out.size); clear hb0)
        refine wp_region_noPanic ?_
        refine wp_region_held_drew (S := fun wx => wx.cell? ⟨w.heap.size + 1, 0, none⟩ = some (.int .i64 px) ∧ wx.cell? ⟨w.heap.size + 1, 1, none⟩ = some (.int .i64 py) ∧ wx.cell? ⟨rb, 0, none⟩ = some (.int .i64 R'.x) ∧ wx.cell? ⟨rb, 1, none⟩ = some (.int .i64 R'.y) ∧ wx.cell? ⟨rb, 2, none⟩ = some (.int .i64 R'.w) ∧ wx.cell? ⟨rb, 3, none⟩ = some (.int .i64 R'.h) ∧ wx.cell? ⟨rb, 4, none⟩ = some (.int .i64 R'.last) ∧ wx.cell? ⟨rb, 5, none⟩ = some (.slice p5 n5 c5)) (by kernel_rfl) (by exact HS10.out _ B10.out.drew) (fun hHeld => ?_)
        refine wpAnyH_take (i := 0) (v := ?vg0) rfl (by kernel_rfl) (by kernel_rfl) (by kernel_rfl) (fun _ _ _ h => h) (Or.inl ⟨by kernel_rfl, ?yg0⟩) (by assumption) ?rg0
        case yg0 => (intro wq hSw; (try dsimp only at hSw); go_simp; (try with_reducible rfl))
        (try simp only [Act.put, List.getElem_toArray, List.getElem_cons_zero, List.setIfInBounds_toArray, List.set_cons_zero, List.set_cons_succ])
        refine wpAnyH_take (i := 1) (v := ?vg1) rfl (by kernel_rfl) (by kernel_rfl) (by kernel_rfl) (fun _ _ _ h => h) (Or.inl ⟨by kernel_rfl, ?yg1⟩) (by assumption) ?rg1
        case yg1 => (intro wq hSw; (try dsimp only at hSw); go_simp; (try with_reducible rfl))
        (try simp only [Act.put, List.getElem_toArray, List.getElem_cons_succ, List.getElem_cons_zero, List.setIfInBounds_toArray, List.set_cons_zero, List.set_cons_succ])
        refine wpAnyH_take (i := 2) (v := ?vg2) rfl (by kernel_rfl) (by kernel_rfl) (by kernel_rfl) (fun _ _ _ h => h) (Or.inl ⟨by kernel_rfl, ?yg2⟩) (by assumption) ?rg2
        case yg2 => (intro wq hSw; (try dsimp only at hSw); go_simp; (try with_reducible rfl))
        (try simp only [Act.put, List.getElem_toArray, List.getElem_cons_succ, List.getElem_cons_zero, List.setIfInBounds_toArray, List.set_cons_zero, List.set_cons_succ])
        refine wpAnyH_take (i := 3) (v := ?vg3) rfl (by kernel_rfl) (by kernel_rfl) (by kernel_rfl) (fun _ _ _ h => h) (Or.inl ⟨by kernel_rfl, ?yg3⟩) (by assumption) ?rg3
        case yg3 => (intro wq hSw; (try dsimp only at hSw); go_simp; (try with_reducible rfl))
        (try simp only [Act.put, List.getElem_toArray, List.getElem_cons_succ, List.getElem_cons_zero, List.setIfInBounds_toArray, List.set_cons_zero, List.set_cons_succ])
        refine wpAnyH_ready (rs := [4]) (by kernel_rfl) (by simp) ?_
        refine AllReadyH.cons rfl (fun K hK => ?_) AllReadyH.nil
        go_simp
        refine (HUR.out _ B10.out.drew).mono ?_
        rintro ex w11 ⟨rfl, hb0⟩; have B11 := Lib.hid (hb0.on B10.out.drew B10.out.size); clear hb0
        (try dsimp only)
        refine hK.out _ _ (by exact HS10.out _ B11.out) (fun hHeld => ?_)
        clear hK K
        (try simp only [Act.put, List.getElem_toArray, List.getElem_cons_succ, List.getElem_cons_zero, List.setIfInBounds_toArray, List.set_cons_zero, List.set_cons_succ])
        refine wpAnyH_take (i := 5) (v := ?vg5) rfl (by kernel_rfl) (by kernel_rfl) (by kernel_rfl) (fun _ _ _ h => h) (Or.inl ⟨by kernel_rfl, ?yg5⟩) (by assumption) ?rg5
        case yg5 => (intro wq hSw; (try dsimp only at hSw); go_simp; (try with_reducible rfl))
        (try simp only [Act.put, List.getElem_toArray, List.getElem_cons_succ, List.getElem_cons_zero, List.setIfInBounds_toArray, List.set_cons_zero, List.set_cons_succ])
        refine wpAnyH_take (i := 6) (v := ?vg6) rfl (by kernel_rfl) (by kernel_rfl) (by kernel_rfl) (fun _ _ _ h => h) (Or.inl ⟨by kernel_rfl, ?yg6⟩) (by assumption) ?rg6
        case yg6 => (intro wq hSw; (try dsimp only at hSw); go_simp; (try with_reducible rfl))
        (try simp only [Act.put, List.getElem_toArray, List.getElem_cons_succ, List.getElem_cons_zero, List.setIfInBounds_toArray, List.set_cons_zero, List.set_cons_succ])
        refine wpAnyH_take (i := 7) (v := ?vg7) rfl (by kernel_rfl) (by kernel_rfl) (by kernel_rfl) (fun _ _ _ h => h) (Or.inl ⟨by kernel_rfl, ?yg7⟩) (by assumption) ?rg7
        case yg7 => (intro wq hSw; (try dsimp only at hSw); go_simp; (try with_reducible rfl))
        (try simp only [Act.put, List.getElem_toArray, List.getElem_cons_succ, List.getElem_cons_zero, List.setIfInBounds_toArray, List.set_cons_zero, List.set_cons_succ])
        refine wpAnyH_take (i := 8) (v := ?vg8) rfl (by kernel_rfl) (by kernel_rfl) (by kernel_rfl) (fun _ _ _ h => h) (Or.inl ⟨by kernel_rfl, ?yg8⟩) (by assumption) ?rg8
        case yg8 => (intro wq hSw; (try dsimp only at hSw); go_simp; (try with_reducible rfl))
        (try simp only [Act.put, List.getElem_toArray, List.getElem_cons_succ, List.getElem_cons_zero, List.setIfInBounds_toArray, List.set_cons_zero, List.set_cons_succ])
        refine wpAnyH_take (i := 9) (v := ?vg9) rfl (by kernel_rfl) (by kernel_rfl) (by kernel_rfl) (fun _ _ _ h => h) (Or.inl ⟨by kernel_rfl, ?yg9⟩) (by assumption) ?rg9
        case yg9 => (intro wq hSw; (try dsimp only at hSw); go_simp; (try with_reducible rfl))
        (try simp only [Act.put, List.getElem_toArray, List.getElem_cons_succ, List.getElem_cons_zero, List.setIfInBounds_toArray, List.set_cons_zero, List.set_cons_succ])
        refine wpAnyH_done (by kernel_rfl) ?_ _
        refine NoPanic.normal ?_
        go_wp2_with fail
        go_roundw
        case rel => exact ⟨k + 1, by omega, by omega, by go_num, R', L', HSN5.out, HB5.out.next B11.out⟩
        case measure => simp [intOf]; omega
      · have hk2 : ¬ (k : Int) < 60 := by omega
        go_wp2_with (go_at_call 11; ((with_reducible refine (HA.out _).mono ?_); rintro ex w3 ⟨rfl, hb3⟩); have HB3 := Lib.hid hb3; clear hb3)
        go_ret
        exact ⟨rfl, HB3.out.on (HBR.out.below.on HB.out HB.out.size) (Nat.le_trans HB.out.size HBR.out.below.size)⟩
    · have hk1 : ¬ (k : Int) < (n : Int) := by omega
      go_wp2_with (go_at_call 11; ((with_reducible refine (HA.out _).mono ?_); rintro ex w3 ⟨rfl, hb3⟩); have HB3 := Lib.hid hb3; clear hb3)
      go_ret
      exact ⟨rfl, HB3.out.on (HBR.out.below.on HB.out HB.out.size) (Nat.le_trans HB.out.size HBR.out.below.size)⟩
theorem plays_w (va : Value) (As : List Ac) (hI : IsActs w.heap.size w va As) : Calls Try.prog 3 #[.agg #[.int .i64 x, .int .i64 y, .int .i64 a, .int .i64 e], va, .agg #[.int .i64 px, .int .i64 py]] w fun e w' => e = .returned (.bool true) ∧ Below w.heap.size w w' := by
  cases hE : emptyB x y a e with
  | true => exact plays_no va hE
  | false => exact plays_yes va As hI hE
end
theorem plays_t (x y a e : Int) (va : Value) (As : List Ac) (px py : Int) (w : World) (hI : IsActs w.heap.size w va As) : Calls Try.prog 3 #[.agg #[.int .i64 x, .int .i64 y, .int .i64 a, .int .i64 e], va, .agg #[.int .i64 px, .int .i64 py]] w fun e w' => e = .returned (.bool true) ∧ Below w.heap.size w w' := plays_w va As hI
end Go.Proofs.Ytphmlfklmleafaa
