/- Texts SwC. -/
import Derived.Test.YtnhchpiafchdgaaGreatVbf
import Derived.Test.YtnhchpiafchdgaaGreatTaa
namespace Go.Proofs.YtnhchpiafchdgaaGreat
open Go.RowKit Go.Shelf Go.Maps
section
variable {w w' w0 w1 w2 w3 : World} {s r : Nat} {Y : Yl} {Z : Zl} {X X' X1 : Xs} {k k' kd : Nat}
theorem SrvNew.be8 (h : SrvNew w0 s X k w) : Below w0.heap.size w0 w := by
 obtain ⟨Y, h1, h2, h3⟩ := h
 exact h2
set_option maxRecDepth 100000 in
set_option maxHeartbeats 16000000 in
theorem plays_w (rx ry rw rh : Int) (va : Value) (As : List A8) (name : ByteArray) (w : World) (hI : IsA8 w.heap.size w va As) (hn : name.size ≤ maxLen) : Calls Tryz.prog 3 #[.agg #[.int .i64 rx, .int .i64 ry, .int .i64 rw, .int .i64 rh], va, .string name] w fun e w' => e = .returned (.bool true) ∧ Below w.heap.size w w' := by
 have HI := Lib.hid hI
 obtain ⟨p, c, rfl, hn0, -⟩ := id hI
 have HNM := Lib.hid hn
 have HSH := Lib.hid (fun t W => short8_c t W)
 have HAW := Lib.hid (fun W => awake8_c W)
 have HE := Lib.hid (fun W => rempty_c rx ry rw rh W)
 have HRN := Lib.hid (fun W => rnew_c W rx ry rw rh)
 obtain ⟨n, hnl⟩ : ∃ n, n = As.length := ⟨_, rfl⟩
 rw [← hnl] at HI hn0 ⊢
 have HN := Lib.hid hnl
 obtain ⟨wb, hwb⟩ : ∃ wb, wb = w.alloc (.cells #[.int .i64 rx, .int .i64 ry, .int .i64 rw, .int .i64 rh] 23) := ⟨_, rfl⟩
 have hbel : Below w.heap.size w wb := by rw [hwb]; exact (Below.refl _ _).alloc (Nat.le_refl _) _
 have hbx : Blk wb w.heap.size 23 #[.int .i64 rx, .int .i64 ry, .int .i64 rw, .int .i64 rh] := by rw [hwb]; exact Blk.new w _ _
 have HW := Lib.hid hwb
 have HBW := Lib.hid hbel
 have HX := Lib.hid (fun (W : World) (hW : Below wb.heap.size wb W) => (hbx.next hW).c4.1)
 obtain ⟨x0, x1, x2, x3⟩ := hbx.c4.1
 clear hI hnl hn hbel hbx
 cases hem : emptyB rx ry rw rh with
 | true =>
  have HNW := Lib.hid (fun W => snew_wrong (x := rx) (y := ry) (a := rw) (b := rh) W hem)
  rw [hem] at HE
  clear hem
  go_enter Tryz.func3, Tryz.ntmps3
  go_upto_region 1 with fail
  rw [← HW.out]
  clear hwb
  go_wp2_with (first
   | (go_at_call 8; ((with_reducible refine (HNW.out _).mono ?_); rintro e w1 ⟨rfl, hb⟩); have HB1 := Lib.hid hb; obtain ⟨y0, y1, y2, y3⟩ := HX.out _ hb; clear hb)
   | (go_at_call 9; ((with_reducible refine (HE.out _).mono ?_); rintro e w2 ⟨rfl, hb⟩); have HB2 := Lib.hid hb; clear hb)
   | (go_at_call 10; ((with_reducible refine (HAW.out _).mono ?_); rintro e w3 ⟨rfl, hb⟩); have HB3 := Lib.hid hb; clear hb))
  go_ret
  have h2 := HB2.out.on HB1.out HB1.out.size
  have h3 := HB3.out.on h2 h2.size
  exact ⟨rfl, h3.on HBW.out HBW.out.size⟩
 | false =>
  have HNW := Lib.hid (fun W => snew_c (x := rx) (y := ry) (a := rw) (b := rh) W hem)
  rw [hem] at HE
  clear hem
  go_enter Tryz.func3, Tryz.ntmps3
  go_upto_region 1 with fail
  rw [← HW.out]
  clear hwb
  go_upto_region 7 with (first
   | (go_at_call 8; ((with_reducible refine (HNW.out _).mono ?_); rintro e w1 ⟨s, rfl, hS⟩); have HS := Lib.hid hS; have HB1 := Lib.hid hS.be8; obtain ⟨y0, y1, y2, y3⟩ := HX.out _ hS.be8; clear hS)
   | (go_at_call 9; ((with_reducible refine (HE.out _).mono ?_); rintro e w2 ⟨rfl, hb⟩); have HB2 := Lib.hid hb; obtain ⟨z0, z1, z2, z3⟩ := HX.out _ (hb.on HB1.out HB1.out.size); clear hb)
   | (go_at_call 11; ((with_reducible refine (HRN.out _).mono ?_); rintro e w3 ⟨r, rfl, hR, hr, hb3⟩); have HRR := Lib.hid (bm_begin HS.out HB2.out hR hr hb3); clear hR hr hb3))
  obtain ⟨Y, Z, hbm⟩ := HRR.out
  have HB0 := Lib.hid (show FlS wb s r 0 w3 from ⟨_, Y, Z, V.start rx ry rw rh, hbm⟩)
  clear hbm
  go_wp2_with fail
  go_loopw [10] (fun z wr => ∃ k : Nat, k ≤ n ∧ k ≤ 50 ∧ z = .int .i64 k ∧ FlS wb s r k wr) (fun z _ => 50 - (intOf z).toNat)
  case atStart => exact ⟨0, Nat.zero_le _, by omega, rfl, HB0.out⟩
  case round =>
   obtain ⟨k, hk, hk4, rfl, X, Y, Z, hV, hB⟩ := hrel
   have HV := Lib.hid hV
   have HB := Lib.hid hB
   have HWR := Lib.hid (hB.be.on HBW.out HBW.out.size)
   have hk0 : (0 : Int) ≤ (k : Int) := by omega
   clear hV hB
   by_cases hlt : k < n
   · have hk1 : (k : Int) < (n : Int) := by omega
     by_cases h40 : k < 50
     · have hk2 : (k : Int) < 50 := by omega
       obtain ⟨A, hA⟩ : ∃ A, As[k]? = some A := ⟨_, List.getElem?_eq_getElem (by rw [← HN.out]; exact hlt)⟩
       have hcell : ∃ b o, p = some ⟨b, o, none⟩ ∧ (∀ (W : World), Below w.heap.size w W → ∀ (i : Nat) (u : Value), A.cells[i]? = some u → W.cell? ⟨b, o + k * 11 + i, none⟩ = some u) ∧ A.ok := by
        obtain ⟨p', c', e', -, hcell⟩ := HI.out
        injection e' with e1 _ _
        subst e1
        obtain ⟨b, o, hpb, hlb, hc, hok⟩ := hcell k A hA
        exact ⟨b, o, hpb, fun W hW i u hu => (hW.cell (p := ⟨b, o + k * 11 + i, none⟩) hlb).trans (hc i u hu), hok⟩
       obtain ⟨b, o, rfl, hc, hok⟩ := hcell
       have HD := Lib.hid (show ∀ (W : World), Below wr.heap.size wr W → Calls Tryz.prog 13 #[srvP s, refP r, .agg ⟨A.cells⟩] W fun ex w' => ex = .returned (.bool true) ∧ Dn wb s r X X k A w' from fun W hW => (does8_c (Bm.next HB.out hW) HV.out (by omega) HV.out.toV0 (by omega) (.inl rfl) A hok).mono fun ex w' ⟨b, h1, h2, h3⟩ => ⟨by rw [h1, h2 rfl], h3⟩)
       have hV2 := HV.out.act (by omega) hok
       have HOK := Lib.hid (And.intro hok.win hok.other)
       obtain ⟨XA, hXA⟩ : ∃ XA, XA = X.act A := ⟨_, rfl⟩
       rw [← hXA] at hV2
       have HV2 := Lib.hid hV2
       have HXA := Lib.hid (fun W (h : Dn wb s r X X k A W) => (show ∃ Y' Z', Bm wb s r Y' Z' XA XA (k + 1) W from hXA ▸ h))
       have HSHW := Lib.hid (fun (Y : Yl) (Z : Zl) (W : World) (h : Bm wb s r Y Z XA XA (k + 1) W) (i : Int) (hi : I64 i) => shows8_c h HV2.out hi HNM.out)
       clear hXA hV2
       obtain ⟨ac, ⟨ki, wi, ot, x, y, a, e, ⟨nm, ty, da⟩⟩⟩ := A
       have HC := Lib.hid (fun (W : World) (hW : Below w.heap.size w W) => (show W.cell? ⟨b, o + k * 11, none⟩ = some (.int .i64 ac) ∧ W.cell? ⟨b, o + k * 11 + 1, none⟩ = some (.int .i64 ki) ∧ W.cell? ⟨b, o + k * 11 + 2, none⟩ = some (.int .i64 wi) ∧ W.cell? ⟨b, o + k * 11 + 3, none⟩ = some (.int .i64 ot) ∧ W.cell? ⟨b, o + k * 11 + 4, none⟩ = some (.int .i64 x) ∧ W.cell? ⟨b, o + k * 11 + 5, none⟩ = some (.int .i64 y) ∧ W.cell? ⟨b, o + k * 11 + 6, none⟩ = some (.int .i64 a) ∧ W.cell? ⟨b, o + k * 11 + 7, none⟩ = some (.int .i64 e) ∧ W.cell? ⟨b, o + k * 11 + 8, none⟩ = some (.string nm) ∧ W.cell? ⟨b, o + k * 11 + 9, none⟩ = some (.string ty) ∧ W.cell? ⟨b, o + k * 11 + 10, none⟩ = some (.string da) from
        ⟨hc W hW 0 _ rfl, hc W hW 1 _ rfl, hc W hW 2 _ rfl, hc W hW 3 _ rfl, hc W hW 4 _ rfl, hc W hW 5 _ rfl, hc W hW 6 _ rfl, hc W hW 7 _ rfl, hc W hW 8 _ rfl, hc W hW 9 _ rfl, hc W hW 10 _ rfl⟩))
       have HS1 := Lib.hid (show ∀ W, Calls Tryz.prog 12 #[.agg #[.int .i64 ac, .int .i64 ki, .int .i64 wi, .int .i64 ot, .int .i64 x, .int .i64 y, .int .i64 a, .int .i64 e, .string nm, .string ty, .string da]] W _ from fun W => HSH.out ⟨ac, ⟨ki, wi, ot, x, y, a, e, ⟨nm, ty, da⟩⟩⟩ W)
       have HD1 := Lib.hid (show ∀ W, Below wr.heap.size wr W → Calls Tryz.prog 13 #[srvP s, refP r, .agg #[.int .i64 ac, .int .i64 ki, .int .i64 wi, .int .i64 ot, .int .i64 x, .int .i64 y, .int .i64 a, .int .i64 e, .string nm, .string ty, .string da]] W _ from HD.out)
       clear hc hok hA HD
       obtain ⟨c0, c1, c2, c3, c4, c5, c6, c7, c8, c9, c10⟩ := HC.out wr HWR.out
       obtain ⟨sh, hsh⟩ : ∃ b, b = A8.short ⟨ac, ⟨ki, wi, ot, x, y, a, e, ⟨nm, ty, da⟩⟩⟩ := ⟨_, rfl⟩
       rw [← hsh] at HS1
       clear hsh
       cases sh with
       | true =>
        go_wp2_with (first
         | (go_at_call 12; ((with_reducible refine (HS1.out _).mono ?_); rintro ex w5 ⟨rfl, hW⟩); have HW5 := Lib.hid hW; obtain ⟨y0, y1, y2, y3, y4, y5, y6, y7, y8, y9, y10⟩ := HC.out _ (hW.on HWR.out HWR.out.size); clear hW)
         | (go_at_call 13; ((with_reducible refine (HD1.out _ HW5.out).mono ?_); rintro ex w6 ⟨rfl, hD⟩); obtain ⟨Y6, Z6, hB6⟩ := HXA.out _ hD; have HB6 := Lib.hid hB6; have HWE := Lib.hid (hB6.be.on HBW.out HBW.out.size); obtain ⟨z0, z1, z2, z3, z4, z5, z6, z7, z8, z9, z10⟩ := HC.out _ HWE.out; clear hD hB6)
         | (go_at_call 14; ((with_reducible refine (HSHW.out _ _ _ HB6.out wi HOK.out.1).mono ?_); rintro ex w7 ⟨rfl, hW⟩); have HB7 := Lib.hid (Bm.next HB6.out hW); have HWF := Lib.hid (hW.on HWE.out HWE.out.size); obtain ⟨u0, u1, u2, u3, u4, u5, u6, u7, u8, u9, u10⟩ := HC.out _ HWF.out; clear hW)
         | (go_at_call 14; ((with_reducible refine (HSHW.out _ _ _ HB7.out ot HOK.out.2).mono ?_); rintro ex w8 ⟨rfl, hW⟩); have HB8 := Lib.hid (Bm.next HB7.out hW); clear hW)
         | (go_at_call 14; ((with_reducible refine (HSHW.out _ _ _ HB8.out 0 i64_zero).mono ?_); rintro ex w9 ⟨rfl, hW⟩); have HB9 := Lib.hid (Bm.next HB8.out hW); clear hW))
        go_roundw
        case rel => exact ⟨k + 1, by omega, by omega, by go_num, ⟨XA, Y6, Z6, HV2.out, HB9.out⟩⟩
        case measure => simp [intOf]; omega
       | false =>
        go_wp2_with ((go_at_call 12; ((with_reducible refine (HS1.out _).mono ?_); rintro ex w5 ⟨rfl, hW⟩); have HW5 := Lib.hid hW; clear hW))
        go_roundw
        case rel => exact ⟨k + 1, by omega, by omega, by go_num, X, Y, Z, HV.out.le (Nat.le_succ k) (by omega), (Bm.next HB.out HW5.out).more (Nat.le_succ k)⟩
        case measure => simp [intOf]; omega
     · have hk2 : ¬ (k : Int) < 50 := by omega
       go_wp2_with (go_at_call 10; ((with_reducible refine (HAW.out _).mono ?_); rintro e w4 ⟨rfl, hW⟩); have HW4 := Lib.hid hW; clear hW)
       go_ret
       exact ⟨rfl, HW4.out.on HWR.out HWR.out.size⟩
   · have hk1 : ¬ (k : Int) < (n : Int) := by omega
     go_wp2_with (go_at_call 10; ((with_reducible refine (HAW.out _).mono ?_); rintro e w4 ⟨rfl, hW⟩); have HW4 := Lib.hid hW; clear hW)
     go_ret
     exact ⟨rfl, HW4.out.on HWR.out HWR.out.size⟩
theorem plays_l (rx ry rw rh : Int) (va : Value) (As : List A8) (name : ByteArray) (w : World) (hI : IsA8 w.heap.size w va As) (hn : name.size ≤ 140737488355328) : Calls Tryz.prog 3 #[.agg #[.int .i64 rx, .int .i64 ry, .int .i64 rw, .int .i64 rh], va, .string name] w fun e w' => e = .returned (.bool true) ∧ Below w.heap.size w w' := plays_w rx ry rw rh va As name w hI (Nat.le_trans hn (by decide))
end
end Go.Proofs.YtnhchpiafchdgaaGreat
