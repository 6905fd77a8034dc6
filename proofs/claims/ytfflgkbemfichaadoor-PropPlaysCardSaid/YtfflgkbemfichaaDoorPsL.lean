/- PropPlays, walked. -/
import Derived.Test.YtfflgkbemfichaaDoorPsK
import Derived.Deep.RegionHeld3
namespace Go.Proofs.YtfflgkbemfichaaDoor
open Go.RowKit Go.Shelf Go.Maps
attribute [local go_sem ↓] neq_prop
set_option maxRecDepth 100000 in
set_option maxHeartbeats 16000000 in
theorem plays_w (va : Value) (As : List Ac) (s : ByteArray) (w : World) (hm : MaxL w) (hI : IsActs w.heap.size w va As) (hs : s.size ≤ maxLen) :
    Calls Tryd.prog 3 #[va, .string s] w fun e w' => e = .returned (.bool true) ∧ Below w.heap.size w w' := by
  have HAW := Lib.hid (fun W (hW : Below w.heap.size w W) => awake_c W (hm.next hW))
  have HNEW := Lib.hid (tb_new w)
  have HSZ := Lib.hid (show s.size ≤ 9223372036854775807 from hs)
  have HSL := Lib.hid hs
  obtain ⟨pp, c, rfl, -, hact⟩ := hI
  have HACT := Lib.hid hact
  obtain ⟨n, hn⟩ : ∃ n, n = As.length := ⟨_, rfl⟩
  rw [← hn]
  have HNN := Lib.hid hn
  clear hact hn hm hs
  go_enter Tryd.func3, Tryd.ntmps3
  go_upto_region 2 with (go_at_call 9; ((with_reducible refine (HNEW.out).mono ?_); rintro ex w1 ⟨t, rfl, hT1⟩); have HT1 := Lib.hid hT1; clear hT1)
  go_wp2_with fail
  go_loopw [6, 7] (fun y z wr => ∃ k : Nat, k ≤ n ∧ k ≤ 60 ∧ z = .int .i64 k ∧ ∃ R ms ns, Tb w.heap.size w wr t ms ns k ∧ Inv R ms ns ∧ OH wr w.heap.size y R ∧ R.length ≤ k) (fun _ z _ => 60 - (intOf z).toNat)
  case atStart => exact ⟨0, Nat.zero_le _, by omega, rfl, [], _, _, HT1.out, Inv.begin, OwK.nil _ _, Nat.le_refl _⟩
  case round =>
    obtain ⟨k, hk, hk6, rfl, R, ms, ns, hT, hinv, hO, hlr⟩ := hrel
    have HT := Lib.hid hT
    have HINV := Lib.hid hinv
    have HO0 := Lib.hid hO
    have HLR0 := Lib.hid hlr
    have hk0 : (0 : Int) ≤ (k : Int) := by omega
    obtain ⟨py, cy, rfl⟩ := OwK.slice hO
    clear hT hinv hO hlr
    by_cases hb : k < n ∧ k < 60
    · have hk1 : (k : Int) < (n : Int) := by omega
      have hk2 : (k : Int) < 60 := by omega
      obtain ⟨Aj, hA⟩ : ∃ Aj, As[k]? = some Aj := ⟨_, List.getElem?_eq_getElem (by rw [← HNN.out]; exact hb.1)⟩
      obtain ⟨b, o, rfl, hbl, hc, hok⟩ := HACT.out k Aj hA
      obtain ⟨kk, win, p⟩ := Aj
      have HI := Lib.hid (show I64 win ∧ s.size ≤ maxLen ∧ p.name.size ≤ maxLen ∧ p.typ.size ≤ maxLen from ⟨hok.1, HSL.out, hok.2.1, hok.2.2.1⟩)
      have hW := HT.out.below
      obtain ⟨y0, y1, y2, y3, y4⟩ := (show wr.cell? ⟨b, o + k * 5, none⟩ = some (.int .i64 kk) ∧ wr.cell? ⟨b, o + k * 5 + 1, none⟩ = some (.int .i64 win) ∧ wr.cell? ⟨b, o + k * 5 + 2, none⟩ = some (.string p.name) ∧ wr.cell? ⟨b, o + k * 5 + 3, none⟩ = some (.string p.typ) ∧ wr.cell? ⟨b, o + k * 5 + 4, none⟩ = some (.string p.data) from
        ⟨(hW.cell (p := ⟨b, o + k * 5, none⟩) hbl).trans (hc 0 _ rfl), (hW.cell (p := ⟨b, o + k * 5 + 1, none⟩) hbl).trans (hc 1 _ rfl), (hW.cell (p := ⟨b, o + k * 5 + 2, none⟩) hbl).trans (hc 2 _ rfl), (hW.cell (p := ⟨b, o + k * 5 + 3, none⟩) hbl).trans (hc 3 _ rfl), (hW.cell (p := ⟨b, o + k * 5 + 4, none⟩) hbl).trans (hc 4 _ rfl)⟩)
      have HKN := Lib.hid hb
      clear hc hok hA hbl hb hW
      go_upto_region 6 with fail
      go_upto_region 7 with fail
      clear y0 y1 y2 y3 y4
      have hxw1 := Blk.new wr 29 #[.int .i64 kk, .int .i64 win, .string p.name, .string p.typ, .string p.data]
      have hbw1 := (Below.refl wr.heap.size wr).alloc (Nat.le_refl _) (.cells #[.int .i64 kk, .int .i64 win, .string p.name, .string p.typ, .string p.data] 29)
      obtain ⟨g8, hg8⟩ : ∃ g, g = wr.heap.size := ⟨_, rfl⟩
      rw [← hg8] at hxw1 ⊢
      clear hg8
      generalize wr.alloc (.cells #[.int .i64 kk, .int .i64 win, .string p.name, .string p.typ, .string p.data] 29) = w1 at hxw1 hbw1 ⊢
      have HT1 := Lib.hid (HT.out.next hbw1)
      have HO1 := Lib.hid (HO0.out.below hbw1)
      have HX1 := Lib.hid hxw1
      clear hbw1 hxw1
      obtain ⟨x0, x1, x2, x3, x4⟩ := HX1.out.at5
      by_cases h0 : kk = 0
      · subst h0
        have hop := rset_c HO1.out HT1.out.size HINV.out (by have := HLR0.out; have := HKN.out; omega) win p HI.out.2.2.1 HI.out.2.2.2
        obtain ⟨rr, hrr⟩ : ∃ r, r = setE p (ms win) (ns win) := ⟨_, rfl⟩
        rw [← hrr] at hop
        have HOP := Lib.hid hop
        have HTS := Lib.hid (fun W (hW : Below w1.heap.size w1 W) => (show Calls Tryd.prog 11 #[tabP t, .int .i64 win, .agg #[.string p.name, .string p.typ, .string p.data]] W fun e w' => e = .returned (.int .i64 rr) ∧ Tb w.heap.size w w' t (setM ms ns win p) (setN ms ns win p) (k + 1) ∧ Keep W w' from by have hh := tb_set (HT1.out.next hW) (by have := HKN.out; omega) HI.out.1 p HI.out.2.2.1 HI.out.2.2.2; rw [← hrr] at hh; exact hh))
        clear hop hrr
        go_upto_region 13 with (go_at_call 10; ((with_reducible refine (HOP.out).mono ?_); rintro ex w2 ⟨v3, rfl, hO2, hb2⟩); have HO2 := Lib.hid hO2; have HB2 := Lib.hid hb2; have HX2 := Lib.hid (HX1.out.next hb2); clear hO2 hb2)
        clear x0 x1 x2 x3 x4
        obtain ⟨x0, x1, x2, x3, x4⟩ := HX2.out.at5
        go_upto_region 20 with (go_at_call 11; ((with_reducible refine (HTS.out _ HB2.out).mono ?_); rintro ex w3 ⟨rfl, hT3, hk3⟩); have HT3 := Lib.hid (hT3); have HO3 := Lib.hid ((HO2.out).keep hk3); have HX3 := Lib.hid (hk3 _ _ _ (HX2.out)); clear hT3 hk3)
        have HIV := Lib.hid (HINV.out.set win p)
        have HLR := Lib.hid (show (setR R ms ns win p).length ≤ k + 1 from Nat.le_trans (setR_len _ _ _ _ _) (Nat.succ_le_succ HLR0.out))
        obtain ⟨R3, hR3⟩ : ∃ x, x = setR R ms ns win p := ⟨_, rfl⟩
        obtain ⟨ms3, hms3⟩ : ∃ x, x = setM ms ns win p := ⟨_, rfl⟩
        obtain ⟨ns3, hns3⟩ : ∃ x, x = setN ms ns win p := ⟨_, rfl⟩
        have ht3 := HT3.out
        have ho3 := HO3.out
        have hi3 := HIV.out
        have hl3 := HLR.out
        rw [← hms3, ← hns3] at ht3 hi3
        rw [← hR3] at ho3 hi3 hl3
        clear HT3 HO3 HIV HLR hR3 hms3 hns3
        have HT3 := Lib.hid ht3
        have HO3 := Lib.hid ho3
        have HIV := Lib.hid hi3
        have HLR := Lib.hid hl3
        clear ht3 ho3 hi3 hl3 x0 x1 x2 x3 x4
        have hg4 := tb_get HT3.out HI.out.1 HI.out.2.1
        obtain ⟨q, hq⟩ : ∃ q, q = (ms3 win s).getD noP := ⟨_, rfl⟩
        obtain ⟨bb, hbb⟩ : ∃ bb, bb = (ms3 win s).isSome := ⟨_, rfl⟩
        rw [← hq, ← hbb] at hg4
        have HG4 := Lib.hid hg4
        have HG6 := Lib.hid (fun W (hW : Below w3.heap.size w3 W) => (show Calls Tryd.prog 17 #[v3, .int .i64 win, .string s] W fun e w' => e = .returned (.tuple #[prV q, .bool bb]) ∧ Below W.heap.size W w' from by have hh := rget_c (OH.rd (HO3.out.below hW)) (by have := HLR.out; omega) win s; rw [HIV.out.get win s, ← hq, ← hbb] at hh; exact hh))
        clear hg4 hq hbb
        obtain ⟨p3, c3, hv3⟩ := OwK.slice HO3.out
        subst hv3
        obtain ⟨x0, x1, x2, x3, x4⟩ := (HX3.out).at5
        go_upto_region 21 with (go_at_call 16; ((with_reducible refine (HG4.out).mono ?_); rintro ex w4 ⟨rfl, hb4⟩); have HB4 := Lib.hid hb4; clear hb4)
        have hxw5 := Blk.new w4 27 #[.string q.name, .string q.typ, .string q.data]
        have hbw5 := HB4.out.alloc HB4.out.size (.cells #[.string q.name, .string q.typ, .string q.data] 27)
        obtain ⟨g13, hg13⟩ : ∃ g, g = w4.heap.size := ⟨_, rfl⟩
        rw [← hg13] at hxw5 ⊢
        clear hg13
        generalize w4.alloc (.cells #[.string q.name, .string q.typ, .string q.data] 27) = w5 at hxw5 hbw5 ⊢
        have HB5 := Lib.hid hbw5
        have HX5 := Lib.hid hxw5
        clear hbw5 hxw5 x0 x1 x2 x3 x4
        obtain ⟨x0, x1, x2, x3, x4⟩ := (HX3.out.next HB5.out).at5
        go_upto_region 22 with (go_at_call 17; ((with_reducible refine (HG6.out _ HB5.out).mono ?_); rintro ex w8 ⟨rfl, hb8⟩); have HB8 := Lib.hid hb8; clear hb8)
        have hxw9 := Blk.new w8 27 #[.string q.name, .string q.typ, .string q.data]
        have hbw9 := HB8.out.alloc HB8.out.size (.cells #[.string q.name, .string q.typ, .string q.data] 27)
        obtain ⟨g15, hg15⟩ : ∃ g, g = w8.heap.size := ⟨_, rfl⟩
        rw [← hg15] at hxw9 ⊢
        clear hg15
        generalize w8.alloc (.cells #[.string q.name, .string q.typ, .string q.data] 27) = w9 at hxw9 hbw9 ⊢
        have HB59 := Lib.hid hbw9
        have HB9 := Lib.hid (hbw9.on HB5.out HB5.out.size)
        have HX9 := Lib.hid hxw9
        clear hbw9 hxw9 x0 x1 x2 x3 x4
        have HS22 := Lib.hid (fun W (hW : Below w9.heap.size w9 W) => (show (W.cell? ⟨g8, 0, none⟩ = some (.int .i64 0) ∧ W.cell? ⟨g8, 1, none⟩ = some (.int .i64 win) ∧ W.cell? ⟨g8, 2, none⟩ = some (.string p.name) ∧ W.cell? ⟨g8, 3, none⟩ = some (.string p.typ) ∧ W.cell? ⟨g8, 4, none⟩ = some (.string p.data)) ∧ (W.cell? ⟨g13, 0, none⟩ = some (.string q.name) ∧ W.cell? ⟨g13, 1, none⟩ = some (.string q.typ) ∧ W.cell? ⟨g13, 2, none⟩ = some (.string q.data)) ∧ (W.cell? ⟨g15, 0, none⟩ = some (.string q.name) ∧ W.cell? ⟨g15, 1, none⟩ = some (.string q.typ) ∧ W.cell? ⟨g15, 2, none⟩ = some (.string q.data)) from ⟨(HX3.out.next (hW.on HB9.out HB9.out.size)).at5, (HX5.out.next (hW.on HB59.out HB59.out.size)).c3.1, (HX9.out.next hW).c3.1⟩))
        have HTG := Lib.hid (HT3.out.next HB9.out)
        have HL1 := Lib.hid (fun W (hW : Below w9.heap.size w9 W) => tb_list (HTG.out.next hW) HI.out.1)
        have HL2 := Lib.hid (fun W (hW : Below w9.heap.size w9 W) => rlist_c (OH.rd (HO3.out.below (hW.on HB9.out HB9.out.size))) (show R3.length ≤ 1048576 by have := HLR.out; omega) win)
        have HLL := Lib.hid (show (listR R3 win).length ≤ 1048576 from by rw [listR_len]; refine Nat.le_trans (List.length_filter_le _ _) ?_; have := HLR.out; omega)
        go_wp2_with fail
        refine wp_region_noPanic ?_
        refine wp_region_held_drew (S := fun wx => (wx.cell? ⟨g8, 0, none⟩ = some (.int .i64 0) ∧ wx.cell? ⟨g8, 1, none⟩ = some (.int .i64 win) ∧ wx.cell? ⟨g8, 2, none⟩ = some (.string p.name) ∧ wx.cell? ⟨g8, 3, none⟩ = some (.string p.typ) ∧ wx.cell? ⟨g8, 4, none⟩ = some (.string p.data)) ∧ (wx.cell? ⟨g13, 0, none⟩ = some (.string q.name) ∧ wx.cell? ⟨g13, 1, none⟩ = some (.string q.typ) ∧ wx.cell? ⟨g13, 2, none⟩ = some (.string q.data)) ∧ (wx.cell? ⟨g15, 0, none⟩ = some (.string q.name) ∧ wx.cell? ⟨g15, 1, none⟩ = some (.string q.typ) ∧ wx.cell? ⟨g15, 2, none⟩ = some (.string q.data))) (by kernel_rfl) (by exact HS22.out _ (Below.refl w9.heap.size w9).drew) (fun hHeld => ?_)
        refine wpAnyH_take (i := 0) (v := ?vsa0) rfl (by kernel_rfl) (by kernel_rfl) (by kernel_rfl) (fun _ _ _ h => h) (Or.inl ⟨by kernel_rfl, ?ysa0⟩) (by assumption) ?rsa0
        case ysa0 => (intro wq hSw; (try dsimp only at hSw); go_simp; (try with_reducible rfl))
        (try simp only [Act.put, List.getElem_toArray, List.getElem_cons_zero, List.setIfInBounds_toArray, List.set_cons_zero, List.set_cons_succ])
        refine wpAnyH_take (i := 1) (v := ?vsa1) rfl (by kernel_rfl) (by kernel_rfl) (by kernel_rfl) (fun _ _ _ h => h) (Or.inl ⟨by kernel_rfl, ?ysa1⟩) (by assumption) ?rsa1
        case ysa1 => (intro wq hSw; (try dsimp only at hSw); go_simp; (try with_reducible rfl))
        (try simp only [Act.put, List.getElem_toArray, List.getElem_cons_succ, List.getElem_cons_zero, List.setIfInBounds_toArray, List.set_cons_zero, List.set_cons_succ])
        refine wpAnyH_take (i := 2) (v := ?vsa2) rfl (by kernel_rfl) (by kernel_rfl) (by kernel_rfl) (fun _ _ _ h => h) (Or.inl ⟨by kernel_rfl, ?ysa2⟩) (by assumption) ?rsa2
        case ysa2 => (intro wq hSw; (try dsimp only at hSw); go_simp; (try with_reducible rfl))
        (try simp only [Act.put, List.getElem_toArray, List.getElem_cons_succ, List.getElem_cons_zero, List.setIfInBounds_toArray, List.set_cons_zero, List.set_cons_succ])
        refine wpAnyH_take (i := 3) (v := ?vsa3) rfl (by kernel_rfl) (by kernel_rfl) (by kernel_rfl) (fun _ _ _ h => h) (Or.inl ⟨by kernel_rfl, ?ysa3⟩) (by assumption) ?rsa3
        case ysa3 => (intro wq hSw; (try dsimp only at hSw); go_simp; (try with_reducible rfl))
        (try simp only [Act.put, List.getElem_toArray, List.getElem_cons_succ, List.getElem_cons_zero, List.setIfInBounds_toArray, List.set_cons_zero, List.set_cons_succ])
        refine wpAnyH_take (i := 4) (v := ?vsa4) rfl (by kernel_rfl) (by kernel_rfl) (by kernel_rfl) (fun _ _ _ h => h) (Or.inl ⟨by kernel_rfl, ?ysa4⟩) (by assumption) ?rsa4
        case ysa4 => (intro wq hSw; (try dsimp only at hSw); go_simp; (try with_reducible rfl))
        (try simp only [Act.put, List.getElem_toArray, List.getElem_cons_succ, List.getElem_cons_zero, List.setIfInBounds_toArray, List.set_cons_zero, List.set_cons_succ])
        refine wpAnyH_take (i := 5) (v := ?vsa5) rfl (by kernel_rfl) (by kernel_rfl) (by kernel_rfl) (fun _ _ _ h => h) (Or.inl ⟨by kernel_rfl, ?ysa5⟩) (by assumption) ?rsa5
        case ysa5 => (intro wq hSw; (try dsimp only at hSw); go_simp; (try with_reducible rfl))
        (try simp only [Act.put, List.getElem_toArray, List.getElem_cons_succ, List.getElem_cons_zero, List.setIfInBounds_toArray, List.set_cons_zero, List.set_cons_succ])
        refine wpAnyH_take (i := 6) (v := ?vsa6) rfl (by kernel_rfl) (by kernel_rfl) (by kernel_rfl) (fun _ _ _ h => h) (Or.inl ⟨by kernel_rfl, ?ysa6⟩) (by assumption) ?rsa6
        case ysa6 => (intro wq hSw; (try dsimp only at hSw); go_simp; (try with_reducible rfl))
        (try simp only [Act.put, List.getElem_toArray, List.getElem_cons_succ, List.getElem_cons_zero, List.setIfInBounds_toArray, List.set_cons_zero, List.set_cons_succ])
        refine wpAnyH_take (i := 7) (v := ?vsa7) rfl (by kernel_rfl) (by kernel_rfl) (by kernel_rfl) (fun _ _ _ h => h) (Or.inl ⟨by kernel_rfl, ?ysa7⟩) (by assumption) ?rsa7
        case ysa7 => (intro wq hSw; (try dsimp only at hSw); go_simp; (try with_reducible rfl))
        (try simp only [Act.put, List.getElem_toArray, List.getElem_cons_succ, List.getElem_cons_zero, List.setIfInBounds_toArray, List.set_cons_zero, List.set_cons_succ])
        refine wpAnyH_take (i := 8) (v := ?vsa8) rfl (by kernel_rfl) (by kernel_rfl) (by kernel_rfl) (fun _ _ _ h => h) (Or.inl ⟨by kernel_rfl, ?ysa8⟩) (by assumption) ?rsa8
        case ysa8 => (intro wq hSw; (try dsimp only at hSw); go_simp; (try with_reducible rfl))
        (try simp only [Act.put, List.getElem_toArray, List.getElem_cons_succ, List.getElem_cons_zero, List.setIfInBounds_toArray, List.set_cons_zero, List.set_cons_succ])
        refine wpAnyH_take (i := 9) (v := ?vsa9) rfl (by kernel_rfl) (by kernel_rfl) (by kernel_rfl) (fun _ _ _ h => h) (Or.inl ⟨by kernel_rfl, ?ysa9⟩) (by assumption) ?rsa9
        case ysa9 => (intro wq hSw; (try dsimp only at hSw); go_simp; (try with_reducible rfl))
        (try simp only [Act.put, List.getElem_toArray, List.getElem_cons_succ, List.getElem_cons_zero, List.setIfInBounds_toArray, List.set_cons_zero, List.set_cons_succ])
        refine wpAnyH_take (i := 10) (v := ?vsa10) rfl (by kernel_rfl) (by kernel_rfl) (by kernel_rfl) (fun _ _ _ h => h) (Or.inl ⟨by kernel_rfl, ?ysa10⟩) (by assumption) ?rsa10
        case ysa10 => (intro wq hSw; (try dsimp only at hSw); go_simp; (try with_reducible rfl))
        (try simp only [Act.put, List.getElem_toArray, List.getElem_cons_succ, List.getElem_cons_zero, List.setIfInBounds_toArray, List.set_cons_zero, List.set_cons_succ])
        refine wpAnyH_take (i := 11) (v := ?vsa11) rfl (by kernel_rfl) (by kernel_rfl) (by kernel_rfl) (fun _ _ _ h => h) (Or.inl ⟨by kernel_rfl, ?ysa11⟩) (by assumption) ?rsa11
        case ysa11 => (intro wq hSw; (try dsimp only at hSw); go_simp; (try with_reducible rfl))
        (try simp only [Act.put, List.getElem_toArray, List.getElem_cons_succ, List.getElem_cons_zero, List.setIfInBounds_toArray, List.set_cons_zero, List.set_cons_succ])
        refine wpAnyH_take (i := 13) (v := ?vsa13) rfl (by kernel_rfl) (by kernel_rfl) (by kernel_rfl) (fun _ _ _ h => h) (Or.inl ⟨by kernel_rfl, ?ysa13⟩) (by assumption) ?rsa13
        case ysa13 => (intro wq hSw; (try dsimp only at hSw); go_simp; (try with_reducible rfl))
        (try simp only [Act.put, List.getElem_toArray, List.getElem_cons_succ, List.getElem_cons_zero, List.setIfInBounds_toArray, List.set_cons_zero, List.set_cons_succ])
        refine wpAnyH_take (i := 14) (v := ?vsa14) rfl (by kernel_rfl) (by kernel_rfl) (by kernel_rfl) (fun _ _ _ h => h) (Or.inl ⟨by kernel_rfl, ?ysa14⟩) (by assumption) ?rsa14
        case ysa14 => (intro wq hSw; (try dsimp only at hSw); go_simp; (try with_reducible rfl))
        (try simp only [Act.put, List.getElem_toArray, List.getElem_cons_succ, List.getElem_cons_zero, List.setIfInBounds_toArray, List.set_cons_zero, List.set_cons_succ])
        refine wpAnyH_take (i := 15) (v := ?vsa15) rfl (by kernel_rfl) (by kernel_rfl) (by kernel_rfl) (fun _ _ _ h => h) (Or.inl ⟨by kernel_rfl, ?ysa15⟩) (by assumption) ?rsa15
        case ysa15 => (intro wq hSw; (try dsimp only at hSw); go_simp; (try with_reducible rfl))
        (try simp only [Act.put, List.getElem_toArray, List.getElem_cons_succ, List.getElem_cons_zero, List.setIfInBounds_toArray, List.set_cons_zero, List.set_cons_succ])
        refine wpAnyH_ready (rs := [12]) (by kernel_rfl) (by simp) ?_
        refine AllReadyH.cons rfl (fun K hK => ?_) AllReadyH.nil
        go_simp
        refine (HL1.out _ (Below.refl w9.heap.size w9).drew).mono ?_
        rintro ex wA ⟨va1, sA, rfl, hNA, hRA, hlA, hbA⟩; have HNA := Lib.hid hNA; have HRA := Lib.hid hRA; have HLA := Lib.hid hlA; have BA := Lib.hid (hbA.on (Below.refl w9.heap.size w9).drew (Nat.le_refl _)); clear hNA hRA hlA hbA
        (try dsimp only)
        refine hK.out _ _ (by exact HS22.out _ BA.out) (fun hHeld => ?_)
        clear hK K
        (try simp only [Act.put, List.getElem_toArray, List.getElem_cons_succ, List.getElem_cons_zero, List.setIfInBounds_toArray, List.set_cons_zero, List.set_cons_succ])
        refine wpAnyH_ready (rs := [16]) (by kernel_rfl) (by simp) ?_
        refine AllReadyH.cons rfl (fun K hK => ?_) AllReadyH.nil
        go_simp
        refine (HL2.out _ BA.out).mono ?_
        rintro ex wB ⟨vb1, rfl, hOB, hbB⟩; have HOB := Lib.hid hOB; have BAB := Lib.hid hbB; have BB := Lib.hid (hbB.on BA.out BA.out.size); clear hOB hbB
        (try dsimp only)
        refine hK.out _ _ (by exact HS22.out _ BB.out) (fun hHeld => ?_)
        clear hK K
        (try simp only [Act.put, List.getElem_toArray, List.getElem_cons_succ, List.getElem_cons_zero, List.setIfInBounds_toArray, List.set_cons_zero, List.set_cons_succ])
        refine wpAnyH_ready (rs := [17]) (by kernel_rfl) (by simp) ?_
        refine AllReadyH.cons rfl (fun K hK => ?_) AllReadyH.nil
        go_simp
        refine (props_c va1 vb1 _ _ _ (HRA.out.below BAB.out) (OwK.reads encP_len HOB.out) (by unfold propsOf; rw [List.length_map]; have := HLA.out; omega) HLL.out).mono ?_
        rintro ex wC ⟨⟨qq, rfl, hqq⟩, hbC⟩; obtain rfl := hqq.2 (HIV.out.list win HNA.out (fun s p hh => HTG.out.big win s p hh)); have BC := Lib.hid (hbC.on BB.out BB.out.size); clear hqq hbC
        (try dsimp only)
        refine hK.out _ _ (by exact HS22.out _ BC.out) (fun hHeld => ?_)
        clear hK K
        (try simp only [Act.put, List.getElem_toArray, List.getElem_cons_succ, List.getElem_cons_zero, List.setIfInBounds_toArray, List.set_cons_zero, List.set_cons_succ])
        refine wpAnyH_take (i := 18) (v := ?vsb18) rfl (by kernel_rfl) (by kernel_rfl) (by kernel_rfl) (fun _ _ _ h => h) (Or.inl ⟨by kernel_rfl, ?ysb18⟩) (by assumption) ?rsb18
        case ysb18 => (intro wq hSw; (try dsimp only at hSw); go_simp; (try with_reducible rfl))
        (try simp only [Act.put, List.getElem_toArray, List.getElem_cons_succ, List.getElem_cons_zero, List.setIfInBounds_toArray, List.set_cons_zero, List.set_cons_succ])
        refine wpAnyH_take (i := 19) (v := ?vsb19) rfl (by kernel_rfl) (by kernel_rfl) (by kernel_rfl) (fun _ _ _ h => h) (Or.inl ⟨by kernel_rfl, ?ysb19⟩) (by assumption) ?rsb19
        case ysb19 => (intro wq hSw; (try dsimp only at hSw); go_simp; (try with_reducible rfl))
        (try simp only [Act.put, List.getElem_toArray, List.getElem_cons_succ, List.getElem_cons_zero, List.setIfInBounds_toArray, List.set_cons_zero, List.set_cons_succ])
        refine wpAnyH_done (by kernel_rfl) ?_ _
        refine NoPanic.normal ?_
        go_wp2_with fail
        go_roundw
        case rel => exact ⟨k + 1, by have := HKN.out; omega, by have := HKN.out; omega, by go_num, R3, ms3, ns3, HTG.out.next BC.out, HIV.out, HO3.out.below (BC.out.on HB9.out HB9.out.size), HLR.out⟩
        case measure => have := HKN.out; simp [intOf]; omega
      · by_cases h1 : kk = 1
        · subst h1
          obtain ⟨hin, hbo⟩ := HINV.out.remove win p.name
          have hop := rremove_c (OH.rd HO1.out) (by have := HLR0.out; have := HKN.out; omega) win p.name
          rw [hbo] at hop
          obtain ⟨rr, hrr⟩ : ∃ r, r = (ms win p.name).isSome := ⟨_, rfl⟩
          rw [← hrr] at hop
          have HOP := Lib.hid hop
          have HTS := Lib.hid (fun W (hW : Below w1.heap.size w1 W) => (show Calls Tryd.prog 13 #[tabP t, .int .i64 win, .string p.name] W fun e w' => e = .returned (.bool rr) ∧ Tb w.heap.size w w' t (upI ms win (upS (ms win) p.name none)) (remN ms ns win p.name) k ∧ Keep W w' from by have hh := tb_remove (HT1.out.next hW) HI.out.1 HI.out.2.2.1; rw [← hrr] at hh; exact hh))
          have HIV := Lib.hid hin
          clear hop hrr hin hbo
          go_upto_region 18 with (go_at_call 12; ((with_reducible refine (HOP.out).mono ?_); rintro ex w2 ⟨v3, rfl, hO2, hb2⟩); have HO2 := Lib.hid (OwK.less hO2 HT1.out.size); have HB2 := Lib.hid hb2; have HX2 := Lib.hid (HX1.out.next hb2); clear hO2 hb2)
          clear x0 x1 x2 x3 x4
          obtain ⟨x0, x1, x2, x3, x4⟩ := HX2.out.at5
          go_upto_region 20 with (go_at_call 13; ((with_reducible refine (HTS.out _ HB2.out).mono ?_); rintro ex w3 ⟨rfl, hT3, hk3⟩); have HT3 := Lib.hid (hT3.more (Nat.le_succ k)); have HO3 := Lib.hid ((HO2.out).keep hk3); have HX3 := Lib.hid (hk3 _ _ _ (HX2.out)); clear hT3 hk3)
          have HLR := Lib.hid (show (remH win p.name R).length ≤ k + 1 from Nat.le_trans (List.length_filter_le _ _) (Nat.le_trans HLR0.out (Nat.le_succ k)))
          obtain ⟨R3, hR3⟩ : ∃ x, x = remH win p.name R := ⟨_, rfl⟩
          obtain ⟨ms3, hms3⟩ : ∃ x, x = upI ms win (upS (ms win) p.name none) := ⟨_, rfl⟩
          obtain ⟨ns3, hns3⟩ : ∃ x, x = remN ms ns win p.name := ⟨_, rfl⟩
          have ht3 := HT3.out
          have ho3 := HO3.out
          have hi3 := HIV.out
          have hl3 := HLR.out
          rw [← hms3, ← hns3] at ht3 hi3
          rw [← hR3] at ho3 hi3 hl3
          clear HT3 HO3 HIV HLR hR3 hms3 hns3
          have HT3 := Lib.hid ht3
          have HO3 := Lib.hid ho3
          have HIV := Lib.hid hi3
          have HLR := Lib.hid hl3
          clear ht3 ho3 hi3 hl3 x0 x1 x2 x3 x4
          have hg4 := tb_get HT3.out HI.out.1 HI.out.2.1
          obtain ⟨q, hq⟩ : ∃ q, q = (ms3 win s).getD noP := ⟨_, rfl⟩
          obtain ⟨bb, hbb⟩ : ∃ bb, bb = (ms3 win s).isSome := ⟨_, rfl⟩
          rw [← hq, ← hbb] at hg4
          have HG4 := Lib.hid hg4
          have HG6 := Lib.hid (fun W (hW : Below w3.heap.size w3 W) => (show Calls Tryd.prog 17 #[v3, .int .i64 win, .string s] W fun e w' => e = .returned (.tuple #[prV q, .bool bb]) ∧ Below W.heap.size W w' from by have hh := rget_c (OH.rd (HO3.out.below hW)) (by have := HLR.out; omega) win s; rw [HIV.out.get win s, ← hq, ← hbb] at hh; exact hh))
          clear hg4 hq hbb
          obtain ⟨p3, c3, hv3⟩ := OwK.slice HO3.out
          subst hv3
          obtain ⟨x0, x1, x2, x3, x4⟩ := (HX3.out).at5
          go_upto_region 21 with (go_at_call 16; ((with_reducible refine (HG4.out).mono ?_); rintro ex w4 ⟨rfl, hb4⟩); have HB4 := Lib.hid hb4; clear hb4)
          have hxw5 := Blk.new w4 27 #[.string q.name, .string q.typ, .string q.data]
          have hbw5 := HB4.out.alloc HB4.out.size (.cells #[.string q.name, .string q.typ, .string q.data] 27)
          obtain ⟨g13, hg13⟩ : ∃ g, g = w4.heap.size := ⟨_, rfl⟩
          rw [← hg13] at hxw5 ⊢
          clear hg13
          generalize w4.alloc (.cells #[.string q.name, .string q.typ, .string q.data] 27) = w5 at hxw5 hbw5 ⊢
          have HB5 := Lib.hid hbw5
          have HX5 := Lib.hid hxw5
          clear hbw5 hxw5 x0 x1 x2 x3 x4
          obtain ⟨x0, x1, x2, x3, x4⟩ := (HX3.out.next HB5.out).at5
          go_upto_region 22 with (go_at_call 17; ((with_reducible refine (HG6.out _ HB5.out).mono ?_); rintro ex w8 ⟨rfl, hb8⟩); have HB8 := Lib.hid hb8; clear hb8)
          have hxw9 := Blk.new w8 27 #[.string q.name, .string q.typ, .string q.data]
          have hbw9 := HB8.out.alloc HB8.out.size (.cells #[.string q.name, .string q.typ, .string q.data] 27)
          obtain ⟨g15, hg15⟩ : ∃ g, g = w8.heap.size := ⟨_, rfl⟩
          rw [← hg15] at hxw9 ⊢
          clear hg15
          generalize w8.alloc (.cells #[.string q.name, .string q.typ, .string q.data] 27) = w9 at hxw9 hbw9 ⊢
          have HB59 := Lib.hid hbw9
          have HB9 := Lib.hid (hbw9.on HB5.out HB5.out.size)
          have HX9 := Lib.hid hxw9
          clear hbw9 hxw9 x0 x1 x2 x3 x4
          have HS22 := Lib.hid (fun W (hW : Below w9.heap.size w9 W) => (show (W.cell? ⟨g8, 0, none⟩ = some (.int .i64 1) ∧ W.cell? ⟨g8, 1, none⟩ = some (.int .i64 win) ∧ W.cell? ⟨g8, 2, none⟩ = some (.string p.name) ∧ W.cell? ⟨g8, 3, none⟩ = some (.string p.typ) ∧ W.cell? ⟨g8, 4, none⟩ = some (.string p.data)) ∧ (W.cell? ⟨g13, 0, none⟩ = some (.string q.name) ∧ W.cell? ⟨g13, 1, none⟩ = some (.string q.typ) ∧ W.cell? ⟨g13, 2, none⟩ = some (.string q.data)) ∧ (W.cell? ⟨g15, 0, none⟩ = some (.string q.name) ∧ W.cell? ⟨g15, 1, none⟩ = some (.string q.typ) ∧ W.cell? ⟨g15, 2, none⟩ = some (.string q.data)) from ⟨(HX3.out.next (hW.on HB9.out HB9.out.size)).at5, (HX5.out.next (hW.on HB59.out HB59.out.size)).c3.1, (HX9.out.next hW).c3.1⟩))
          have HTG := Lib.hid (HT3.out.next HB9.out)
          have HL1 := Lib.hid (fun W (hW : Below w9.heap.size w9 W) => tb_list (HTG.out.next hW) HI.out.1)
          have HL2 := Lib.hid (fun W (hW : Below w9.heap.size w9 W) => rlist_c (OH.rd (HO3.out.below (hW.on HB9.out HB9.out.size))) (show R3.length ≤ 1048576 by have := HLR.out; omega) win)
          have HLL := Lib.hid (show (listR R3 win).length ≤ 1048576 from by rw [listR_len]; refine Nat.le_trans (List.length_filter_le _ _) ?_; have := HLR.out; omega)
          go_wp2_with fail
          refine wp_region_noPanic ?_
          refine wp_region_held_drew (S := fun wx => (wx.cell? ⟨g8, 0, none⟩ = some (.int .i64 1) ∧ wx.cell? ⟨g8, 1, none⟩ = some (.int .i64 win) ∧ wx.cell? ⟨g8, 2, none⟩ = some (.string p.name) ∧ wx.cell? ⟨g8, 3, none⟩ = some (.string p.typ) ∧ wx.cell? ⟨g8, 4, none⟩ = some (.string p.data)) ∧ (wx.cell? ⟨g13, 0, none⟩ = some (.string q.name) ∧ wx.cell? ⟨g13, 1, none⟩ = some (.string q.typ) ∧ wx.cell? ⟨g13, 2, none⟩ = some (.string q.data)) ∧ (wx.cell? ⟨g15, 0, none⟩ = some (.string q.name) ∧ wx.cell? ⟨g15, 1, none⟩ = some (.string q.typ) ∧ wx.cell? ⟨g15, 2, none⟩ = some (.string q.data))) (by kernel_rfl) (by exact HS22.out _ (Below.refl w9.heap.size w9).drew) (fun hHeld => ?_)
          refine wpAnyH_take (i := 0) (v := ?vra0) rfl (by kernel_rfl) (by kernel_rfl) (by kernel_rfl) (fun _ _ _ h => h) (Or.inl ⟨by kernel_rfl, ?yra0⟩) (by assumption) ?rra0
          case yra0 => (intro wq hSw; (try dsimp only at hSw); go_simp; (try with_reducible rfl))
          (try simp only [Act.put, List.getElem_toArray, List.getElem_cons_zero, List.setIfInBounds_toArray, List.set_cons_zero, List.set_cons_succ])
          refine wpAnyH_take (i := 1) (v := ?vra1) rfl (by kernel_rfl) (by kernel_rfl) (by kernel_rfl) (fun _ _ _ h => h) (Or.inl ⟨by kernel_rfl, ?yra1⟩) (by assumption) ?rra1
          case yra1 => (intro wq hSw; (try dsimp only at hSw); go_simp; (try with_reducible rfl))
          (try simp only [Act.put, List.getElem_toArray, List.getElem_cons_succ, List.getElem_cons_zero, List.setIfInBounds_toArray, List.set_cons_zero, List.set_cons_succ])
          refine wpAnyH_take (i := 2) (v := ?vra2) rfl (by kernel_rfl) (by kernel_rfl) (by kernel_rfl) (fun _ _ _ h => h) (Or.inl ⟨by kernel_rfl, ?yra2⟩) (by assumption) ?rra2
          case yra2 => (intro wq hSw; (try dsimp only at hSw); go_simp; (try with_reducible rfl))
          (try simp only [Act.put, List.getElem_toArray, List.getElem_cons_succ, List.getElem_cons_zero, List.setIfInBounds_toArray, List.set_cons_zero, List.set_cons_succ])
          refine wpAnyH_take (i := 3) (v := ?vra3) rfl (by kernel_rfl) (by kernel_rfl) (by kernel_rfl) (fun _ _ _ h => h) (Or.inl ⟨by kernel_rfl, ?yra3⟩) (by assumption) ?rra3
          case yra3 => (intro wq hSw; (try dsimp only at hSw); go_simp; (try with_reducible rfl))
          (try simp only [Act.put, List.getElem_toArray, List.getElem_cons_succ, List.getElem_cons_zero, List.setIfInBounds_toArray, List.set_cons_zero, List.set_cons_succ])
          refine wpAnyH_take (i := 4) (v := ?vra4) rfl (by kernel_rfl) (by kernel_rfl) (by kernel_rfl) (fun _ _ _ h => h) (Or.inl ⟨by kernel_rfl, ?yra4⟩) (by assumption) ?rra4
          case yra4 => (intro wq hSw; (try dsimp only at hSw); go_simp; (try with_reducible rfl))
          (try simp only [Act.put, List.getElem_toArray, List.getElem_cons_succ, List.getElem_cons_zero, List.setIfInBounds_toArray, List.set_cons_zero, List.set_cons_succ])
          refine wpAnyH_take (i := 5) (v := ?vra5) rfl (by kernel_rfl) (by kernel_rfl) (by kernel_rfl) (fun _ _ _ h => h) (Or.inl ⟨by kernel_rfl, ?yra5⟩) (by assumption) ?rra5
          case yra5 => (intro wq hSw; (try dsimp only at hSw); go_simp; (try with_reducible rfl))
          (try simp only [Act.put, List.getElem_toArray, List.getElem_cons_succ, List.getElem_cons_zero, List.setIfInBounds_toArray, List.set_cons_zero, List.set_cons_succ])
          refine wpAnyH_take (i := 6) (v := ?vra6) rfl (by kernel_rfl) (by kernel_rfl) (by kernel_rfl) (fun _ _ _ h => h) (Or.inl ⟨by kernel_rfl, ?yra6⟩) (by assumption) ?rra6
          case yra6 => (intro wq hSw; (try dsimp only at hSw); go_simp; (try with_reducible rfl))
          (try simp only [Act.put, List.getElem_toArray, List.getElem_cons_succ, List.getElem_cons_zero, List.setIfInBounds_toArray, List.set_cons_zero, List.set_cons_succ])
          refine wpAnyH_take (i := 7) (v := ?vra7) rfl (by kernel_rfl) (by kernel_rfl) (by kernel_rfl) (fun _ _ _ h => h) (Or.inl ⟨by kernel_rfl, ?yra7⟩) (by assumption) ?rra7
          case yra7 => (intro wq hSw; (try dsimp only at hSw); go_simp; (try with_reducible rfl))
          (try simp only [Act.put, List.getElem_toArray, List.getElem_cons_succ, List.getElem_cons_zero, List.setIfInBounds_toArray, List.set_cons_zero, List.set_cons_succ])
          refine wpAnyH_take (i := 8) (v := ?vra8) rfl (by kernel_rfl) (by kernel_rfl) (by kernel_rfl) (fun _ _ _ h => h) (Or.inl ⟨by kernel_rfl, ?yra8⟩) (by assumption) ?rra8
          case yra8 => (intro wq hSw; (try dsimp only at hSw); go_simp; (try with_reducible rfl))
          (try simp only [Act.put, List.getElem_toArray, List.getElem_cons_succ, List.getElem_cons_zero, List.setIfInBounds_toArray, List.set_cons_zero, List.set_cons_succ])
          refine wpAnyH_take (i := 9) (v := ?vra9) rfl (by kernel_rfl) (by kernel_rfl) (by kernel_rfl) (fun _ _ _ h => h) (Or.inl ⟨by kernel_rfl, ?yra9⟩) (by assumption) ?rra9
          case yra9 => (intro wq hSw; (try dsimp only at hSw); go_simp; (try with_reducible rfl))
          (try simp only [Act.put, List.getElem_toArray, List.getElem_cons_succ, List.getElem_cons_zero, List.setIfInBounds_toArray, List.set_cons_zero, List.set_cons_succ])
          refine wpAnyH_take (i := 10) (v := ?vra10) rfl (by kernel_rfl) (by kernel_rfl) (by kernel_rfl) (fun _ _ _ h => h) (Or.inl ⟨by kernel_rfl, ?yra10⟩) (by assumption) ?rra10
          case yra10 => (intro wq hSw; (try dsimp only at hSw); go_simp; (try with_reducible rfl))
          (try simp only [Act.put, List.getElem_toArray, List.getElem_cons_succ, List.getElem_cons_zero, List.setIfInBounds_toArray, List.set_cons_zero, List.set_cons_succ])
          refine wpAnyH_take (i := 11) (v := ?vra11) rfl (by kernel_rfl) (by kernel_rfl) (by kernel_rfl) (fun _ _ _ h => h) (Or.inl ⟨by kernel_rfl, ?yra11⟩) (by assumption) ?rra11
          case yra11 => (intro wq hSw; (try dsimp only at hSw); go_simp; (try with_reducible rfl))
          (try simp only [Act.put, List.getElem_toArray, List.getElem_cons_succ, List.getElem_cons_zero, List.setIfInBounds_toArray, List.set_cons_zero, List.set_cons_succ])
          refine wpAnyH_take (i := 13) (v := ?vra13) rfl (by kernel_rfl) (by kernel_rfl) (by kernel_rfl) (fun _ _ _ h => h) (Or.inl ⟨by kernel_rfl, ?yra13⟩) (by assumption) ?rra13
          case yra13 => (intro wq hSw; (try dsimp only at hSw); go_simp; (try with_reducible rfl))
          (try simp only [Act.put, List.getElem_toArray, List.getElem_cons_succ, List.getElem_cons_zero, List.setIfInBounds_toArray, List.set_cons_zero, List.set_cons_succ])
          refine wpAnyH_take (i := 14) (v := ?vra14) rfl (by kernel_rfl) (by kernel_rfl) (by kernel_rfl) (fun _ _ _ h => h) (Or.inl ⟨by kernel_rfl, ?yra14⟩) (by assumption) ?rra14
          case yra14 => (intro wq hSw; (try dsimp only at hSw); go_simp; (try with_reducible rfl))
          (try simp only [Act.put, List.getElem_toArray, List.getElem_cons_succ, List.getElem_cons_zero, List.setIfInBounds_toArray, List.set_cons_zero, List.set_cons_succ])
          refine wpAnyH_take (i := 15) (v := ?vra15) rfl (by kernel_rfl) (by kernel_rfl) (by kernel_rfl) (fun _ _ _ h => h) (Or.inl ⟨by kernel_rfl, ?yra15⟩) (by assumption) ?rra15
          case yra15 => (intro wq hSw; (try dsimp only at hSw); go_simp; (try with_reducible rfl))
          (try simp only [Act.put, List.getElem_toArray, List.getElem_cons_succ, List.getElem_cons_zero, List.setIfInBounds_toArray, List.set_cons_zero, List.set_cons_succ])
          refine wpAnyH_ready (rs := [12]) (by kernel_rfl) (by simp) ?_
          refine AllReadyH.cons rfl (fun K hK => ?_) AllReadyH.nil
          go_simp
          refine (HL1.out _ (Below.refl w9.heap.size w9).drew).mono ?_
          rintro ex wA ⟨va1, sA, rfl, hNA, hRA, hlA, hbA⟩; have HNA := Lib.hid hNA; have HRA := Lib.hid hRA; have HLA := Lib.hid hlA; have BA := Lib.hid (hbA.on (Below.refl w9.heap.size w9).drew (Nat.le_refl _)); clear hNA hRA hlA hbA
          (try dsimp only)
          refine hK.out _ _ (by exact HS22.out _ BA.out) (fun hHeld => ?_)
          clear hK K
          (try simp only [Act.put, List.getElem_toArray, List.getElem_cons_succ, List.getElem_cons_zero, List.setIfInBounds_toArray, List.set_cons_zero, List.set_cons_succ])
          refine wpAnyH_ready (rs := [16]) (by kernel_rfl) (by simp) ?_
          refine AllReadyH.cons rfl (fun K hK => ?_) AllReadyH.nil
          go_simp
          refine (HL2.out _ BA.out).mono ?_
          rintro ex wB ⟨vb1, rfl, hOB, hbB⟩; have HOB := Lib.hid hOB; have BAB := Lib.hid hbB; have BB := Lib.hid (hbB.on BA.out BA.out.size); clear hOB hbB
          (try dsimp only)
          refine hK.out _ _ (by exact HS22.out _ BB.out) (fun hHeld => ?_)
          clear hK K
          (try simp only [Act.put, List.getElem_toArray, List.getElem_cons_succ, List.getElem_cons_zero, List.setIfInBounds_toArray, List.set_cons_zero, List.set_cons_succ])
          refine wpAnyH_ready (rs := [17]) (by kernel_rfl) (by simp) ?_
          refine AllReadyH.cons rfl (fun K hK => ?_) AllReadyH.nil
          go_simp
          refine (props_c va1 vb1 _ _ _ (HRA.out.below BAB.out) (OwK.reads encP_len HOB.out) (by unfold propsOf; rw [List.length_map]; have := HLA.out; omega) HLL.out).mono ?_
          rintro ex wC ⟨⟨qq, rfl, hqq⟩, hbC⟩; obtain rfl := hqq.2 (HIV.out.list win HNA.out (fun s p hh => HTG.out.big win s p hh)); have BC := Lib.hid (hbC.on BB.out BB.out.size); clear hqq hbC
          (try dsimp only)
          refine hK.out _ _ (by exact HS22.out _ BC.out) (fun hHeld => ?_)
          clear hK K
          (try simp only [Act.put, List.getElem_toArray, List.getElem_cons_succ, List.getElem_cons_zero, List.setIfInBounds_toArray, List.set_cons_zero, List.set_cons_succ])
          refine wpAnyH_take (i := 18) (v := ?vrb18) rfl (by kernel_rfl) (by kernel_rfl) (by kernel_rfl) (fun _ _ _ h => h) (Or.inl ⟨by kernel_rfl, ?yrb18⟩) (by assumption) ?rrb18
          case yrb18 => (intro wq hSw; (try dsimp only at hSw); go_simp; (try with_reducible rfl))
          (try simp only [Act.put, List.getElem_toArray, List.getElem_cons_succ, List.getElem_cons_zero, List.setIfInBounds_toArray, List.set_cons_zero, List.set_cons_succ])
          refine wpAnyH_take (i := 19) (v := ?vrb19) rfl (by kernel_rfl) (by kernel_rfl) (by kernel_rfl) (fun _ _ _ h => h) (Or.inl ⟨by kernel_rfl, ?yrb19⟩) (by assumption) ?rrb19
          case yrb19 => (intro wq hSw; (try dsimp only at hSw); go_simp; (try with_reducible rfl))
          (try simp only [Act.put, List.getElem_toArray, List.getElem_cons_succ, List.getElem_cons_zero, List.setIfInBounds_toArray, List.set_cons_zero, List.set_cons_succ])
          refine wpAnyH_done (by kernel_rfl) ?_ _
          refine NoPanic.normal ?_
          go_wp2_with fail
          go_roundw
          case rel => exact ⟨k + 1, by have := HKN.out; omega, by have := HKN.out; omega, by go_num, R3, ms3, ns3, HTG.out.next BC.out, HIV.out, HO3.out.below (BC.out.on HB9.out HB9.out.size), HLR.out⟩
          case measure => have := HKN.out; simp [intOf]; omega
        · skip
          have HOP := Lib.hid (rdrop_c (OH.rd HO1.out) (by have := HLR0.out; have := HKN.out; omega) win)
          have HTS := Lib.hid (fun W (hW : Below w1.heap.size w1 W) => tb_drop (HT1.out.next hW) HI.out.1)
          have HIV := Lib.hid (HINV.out.drop win)
          go_upto_region 9 with (go_at_call 14; ((with_reducible refine (HOP.out).mono ?_); rintro ex w2 ⟨v3, rfl, hO2, hb2⟩); have HO2 := Lib.hid (OwK.less hO2 HT1.out.size); have HB2 := Lib.hid hb2; have HX2 := Lib.hid (HX1.out.next hb2); clear hO2 hb2)
          clear x0 x1 x2 x3 x4
          obtain ⟨x0, x1, x2, x3, x4⟩ := HX2.out.at5
          go_upto_region 20 with (go_at_call 15; ((with_reducible refine (HTS.out _ HB2.out).mono ?_); rintro ex w3 ⟨rfl, hT3, hk3⟩); have HT3 := Lib.hid (hT3.more (Nat.le_succ k)); have HO3 := Lib.hid ((HO2.out).keep hk3); have HX3 := Lib.hid (hk3 _ _ _ (HX2.out)); clear hT3 hk3)
          have HLR := Lib.hid (show (dropH win R).length ≤ k + 1 from Nat.le_trans (List.length_filter_le _ _) (Nat.le_trans HLR0.out (Nat.le_succ k)))
          obtain ⟨R3, hR3⟩ : ∃ x, x = dropH win R := ⟨_, rfl⟩
          obtain ⟨ms3, hms3⟩ : ∃ x, x = upI ms win (fun _ => none) := ⟨_, rfl⟩
          obtain ⟨ns3, hns3⟩ : ∃ x, x = upI ns win 0 := ⟨_, rfl⟩
          have ht3 := HT3.out
          have ho3 := HO3.out
          have hi3 := HIV.out
          have hl3 := HLR.out
          rw [← hms3, ← hns3] at ht3 hi3
          rw [← hR3] at ho3 hi3 hl3
          clear HT3 HO3 HIV HLR hR3 hms3 hns3
          have HT3 := Lib.hid ht3
          have HO3 := Lib.hid ho3
          have HIV := Lib.hid hi3
          have HLR := Lib.hid hl3
          clear ht3 ho3 hi3 hl3 x0 x1 x2 x3 x4
          have hg4 := tb_get HT3.out HI.out.1 HI.out.2.1
          obtain ⟨q, hq⟩ : ∃ q, q = (ms3 win s).getD noP := ⟨_, rfl⟩
          obtain ⟨bb, hbb⟩ : ∃ bb, bb = (ms3 win s).isSome := ⟨_, rfl⟩
          rw [← hq, ← hbb] at hg4
          have HG4 := Lib.hid hg4
          have HG6 := Lib.hid (fun W (hW : Below w3.heap.size w3 W) => (show Calls Tryd.prog 17 #[v3, .int .i64 win, .string s] W fun e w' => e = .returned (.tuple #[prV q, .bool bb]) ∧ Below W.heap.size W w' from by have hh := rget_c (OH.rd (HO3.out.below hW)) (by have := HLR.out; omega) win s; rw [HIV.out.get win s, ← hq, ← hbb] at hh; exact hh))
          clear hg4 hq hbb
          obtain ⟨p3, c3, hv3⟩ := OwK.slice HO3.out
          subst hv3
          obtain ⟨x0, x1, x2, x3, x4⟩ := (HX3.out).at5
          go_upto_region 21 with (go_at_call 16; ((with_reducible refine (HG4.out).mono ?_); rintro ex w4 ⟨rfl, hb4⟩); have HB4 := Lib.hid hb4; clear hb4)
          have hxw5 := Blk.new w4 27 #[.string q.name, .string q.typ, .string q.data]
          have hbw5 := HB4.out.alloc HB4.out.size (.cells #[.string q.name, .string q.typ, .string q.data] 27)
          obtain ⟨g13, hg13⟩ : ∃ g, g = w4.heap.size := ⟨_, rfl⟩
          rw [← hg13] at hxw5 ⊢
          clear hg13
          generalize w4.alloc (.cells #[.string q.name, .string q.typ, .string q.data] 27) = w5 at hxw5 hbw5 ⊢
          have HB5 := Lib.hid hbw5
          have HX5 := Lib.hid hxw5
          clear hbw5 hxw5 x0 x1 x2 x3 x4
          obtain ⟨x0, x1, x2, x3, x4⟩ := (HX3.out.next HB5.out).at5
          go_upto_region 22 with (go_at_call 17; ((with_reducible refine (HG6.out _ HB5.out).mono ?_); rintro ex w8 ⟨rfl, hb8⟩); have HB8 := Lib.hid hb8; clear hb8)
          have hxw9 := Blk.new w8 27 #[.string q.name, .string q.typ, .string q.data]
          have hbw9 := HB8.out.alloc HB8.out.size (.cells #[.string q.name, .string q.typ, .string q.data] 27)
          obtain ⟨g15, hg15⟩ : ∃ g, g = w8.heap.size := ⟨_, rfl⟩
          rw [← hg15] at hxw9 ⊢
          clear hg15
          generalize w8.alloc (.cells #[.string q.name, .string q.typ, .string q.data] 27) = w9 at hxw9 hbw9 ⊢
          have HB59 := Lib.hid hbw9
          have HB9 := Lib.hid (hbw9.on HB5.out HB5.out.size)
          have HX9 := Lib.hid hxw9
          clear hbw9 hxw9 x0 x1 x2 x3 x4
          have HS22 := Lib.hid (fun W (hW : Below w9.heap.size w9 W) => (show (W.cell? ⟨g8, 0, none⟩ = some (.int .i64 kk) ∧ W.cell? ⟨g8, 1, none⟩ = some (.int .i64 win) ∧ W.cell? ⟨g8, 2, none⟩ = some (.string p.name) ∧ W.cell? ⟨g8, 3, none⟩ = some (.string p.typ) ∧ W.cell? ⟨g8, 4, none⟩ = some (.string p.data)) ∧ (W.cell? ⟨g13, 0, none⟩ = some (.string q.name) ∧ W.cell? ⟨g13, 1, none⟩ = some (.string q.typ) ∧ W.cell? ⟨g13, 2, none⟩ = some (.string q.data)) ∧ (W.cell? ⟨g15, 0, none⟩ = some (.string q.name) ∧ W.cell? ⟨g15, 1, none⟩ = some (.string q.typ) ∧ W.cell? ⟨g15, 2, none⟩ = some (.string q.data)) from ⟨(HX3.out.next (hW.on HB9.out HB9.out.size)).at5, (HX5.out.next (hW.on HB59.out HB59.out.size)).c3.1, (HX9.out.next hW).c3.1⟩))
          have HTG := Lib.hid (HT3.out.next HB9.out)
          have HL1 := Lib.hid (fun W (hW : Below w9.heap.size w9 W) => tb_list (HTG.out.next hW) HI.out.1)
          have HL2 := Lib.hid (fun W (hW : Below w9.heap.size w9 W) => rlist_c (OH.rd (HO3.out.below (hW.on HB9.out HB9.out.size))) (show R3.length ≤ 1048576 by have := HLR.out; omega) win)
          have HLL := Lib.hid (show (listR R3 win).length ≤ 1048576 from by rw [listR_len]; refine Nat.le_trans (List.length_filter_le _ _) ?_; have := HLR.out; omega)
          go_wp2_with fail
          refine wp_region_noPanic ?_
          refine wp_region_held_drew (S := fun wx => (wx.cell? ⟨g8, 0, none⟩ = some (.int .i64 kk) ∧ wx.cell? ⟨g8, 1, none⟩ = some (.int .i64 win) ∧ wx.cell? ⟨g8, 2, none⟩ = some (.string p.name) ∧ wx.cell? ⟨g8, 3, none⟩ = some (.string p.typ) ∧ wx.cell? ⟨g8, 4, none⟩ = some (.string p.data)) ∧ (wx.cell? ⟨g13, 0, none⟩ = some (.string q.name) ∧ wx.cell? ⟨g13, 1, none⟩ = some (.string q.typ) ∧ wx.cell? ⟨g13, 2, none⟩ = some (.string q.data)) ∧ (wx.cell? ⟨g15, 0, none⟩ = some (.string q.name) ∧ wx.cell? ⟨g15, 1, none⟩ = some (.string q.typ) ∧ wx.cell? ⟨g15, 2, none⟩ = some (.string q.data))) (by kernel_rfl) (by exact HS22.out _ (Below.refl w9.heap.size w9).drew) (fun hHeld => ?_)
          refine wpAnyH_take (i := 0) (v := ?vda0) rfl (by kernel_rfl) (by kernel_rfl) (by kernel_rfl) (fun _ _ _ h => h) (Or.inl ⟨by kernel_rfl, ?yda0⟩) (by assumption) ?rda0
          case yda0 => (intro wq hSw; (try dsimp only at hSw); go_simp; (try with_reducible rfl))
          (try simp only [Act.put, List.getElem_toArray, List.getElem_cons_zero, List.setIfInBounds_toArray, List.set_cons_zero, List.set_cons_succ])
          refine wpAnyH_take (i := 1) (v := ?vda1) rfl (by kernel_rfl) (by kernel_rfl) (by kernel_rfl) (fun _ _ _ h => h) (Or.inl ⟨by kernel_rfl, ?yda1⟩) (by assumption) ?rda1
          case yda1 => (intro wq hSw; (try dsimp only at hSw); go_simp; (try with_reducible rfl))
          (try simp only [Act.put, List.getElem_toArray, List.getElem_cons_succ, List.getElem_cons_zero, List.setIfInBounds_toArray, List.set_cons_zero, List.set_cons_succ])
          refine wpAnyH_take (i := 2) (v := ?vda2) rfl (by kernel_rfl) (by kernel_rfl) (by kernel_rfl) (fun _ _ _ h => h) (Or.inl ⟨by kernel_rfl, ?yda2⟩) (by assumption) ?rda2
          case yda2 => (intro wq hSw; (try dsimp only at hSw); go_simp; (try with_reducible rfl))
          (try simp only [Act.put, List.getElem_toArray, List.getElem_cons_succ, List.getElem_cons_zero, List.setIfInBounds_toArray, List.set_cons_zero, List.set_cons_succ])
          refine wpAnyH_take (i := 3) (v := ?vda3) rfl (by kernel_rfl) (by kernel_rfl) (by kernel_rfl) (fun _ _ _ h => h) (Or.inl ⟨by kernel_rfl, ?yda3⟩) (by assumption) ?rda3
          case yda3 => (intro wq hSw; (try dsimp only at hSw); go_simp; (try with_reducible rfl))
          (try simp only [Act.put, List.getElem_toArray, List.getElem_cons_succ, List.getElem_cons_zero, List.setIfInBounds_toArray, List.set_cons_zero, List.set_cons_succ])
          refine wpAnyH_take (i := 4) (v := ?vda4) rfl (by kernel_rfl) (by kernel_rfl) (by kernel_rfl) (fun _ _ _ h => h) (Or.inl ⟨by kernel_rfl, ?yda4⟩) (by assumption) ?rda4
          case yda4 => (intro wq hSw; (try dsimp only at hSw); go_simp; (try with_reducible rfl))
          (try simp only [Act.put, List.getElem_toArray, List.getElem_cons_succ, List.getElem_cons_zero, List.setIfInBounds_toArray, List.set_cons_zero, List.set_cons_succ])
          refine wpAnyH_take (i := 5) (v := ?vda5) rfl (by kernel_rfl) (by kernel_rfl) (by kernel_rfl) (fun _ _ _ h => h) (Or.inl ⟨by kernel_rfl, ?yda5⟩) (by assumption) ?rda5
          case yda5 => (intro wq hSw; (try dsimp only at hSw); go_simp; (try with_reducible rfl))
          (try simp only [Act.put, List.getElem_toArray, List.getElem_cons_succ, List.getElem_cons_zero, List.setIfInBounds_toArray, List.set_cons_zero, List.set_cons_succ])
          refine wpAnyH_take (i := 6) (v := ?vda6) rfl (by kernel_rfl) (by kernel_rfl) (by kernel_rfl) (fun _ _ _ h => h) (Or.inl ⟨by kernel_rfl, ?yda6⟩) (by assumption) ?rda6
          case yda6 => (intro wq hSw; (try dsimp only at hSw); go_simp; (try with_reducible rfl))
          (try simp only [Act.put, List.getElem_toArray, List.getElem_cons_succ, List.getElem_cons_zero, List.setIfInBounds_toArray, List.set_cons_zero, List.set_cons_succ])
          refine wpAnyH_take (i := 7) (v := ?vda7) rfl (by kernel_rfl) (by kernel_rfl) (by kernel_rfl) (fun _ _ _ h => h) (Or.inl ⟨by kernel_rfl, ?yda7⟩) (by assumption) ?rda7
          case yda7 => (intro wq hSw; (try dsimp only at hSw); go_simp; (try with_reducible rfl))
          (try simp only [Act.put, List.getElem_toArray, List.getElem_cons_succ, List.getElem_cons_zero, List.setIfInBounds_toArray, List.set_cons_zero, List.set_cons_succ])
          refine wpAnyH_take (i := 8) (v := ?vda8) rfl (by kernel_rfl) (by kernel_rfl) (by kernel_rfl) (fun _ _ _ h => h) (Or.inl ⟨by kernel_rfl, ?yda8⟩) (by assumption) ?rda8
          case yda8 => (intro wq hSw; (try dsimp only at hSw); go_simp; (try with_reducible rfl))
          (try simp only [Act.put, List.getElem_toArray, List.getElem_cons_succ, List.getElem_cons_zero, List.setIfInBounds_toArray, List.set_cons_zero, List.set_cons_succ])
          refine wpAnyH_take (i := 9) (v := ?vda9) rfl (by kernel_rfl) (by kernel_rfl) (by kernel_rfl) (fun _ _ _ h => h) (Or.inl ⟨by kernel_rfl, ?yda9⟩) (by assumption) ?rda9
          case yda9 => (intro wq hSw; (try dsimp only at hSw); go_simp; (try with_reducible rfl))
          (try simp only [Act.put, List.getElem_toArray, List.getElem_cons_succ, List.getElem_cons_zero, List.setIfInBounds_toArray, List.set_cons_zero, List.set_cons_succ])
          refine wpAnyH_take (i := 10) (v := ?vda10) rfl (by kernel_rfl) (by kernel_rfl) (by kernel_rfl) (fun _ _ _ h => h) (Or.inl ⟨by kernel_rfl, ?yda10⟩) (by assumption) ?rda10
          case yda10 => (intro wq hSw; (try dsimp only at hSw); go_simp; (try with_reducible rfl))
          (try simp only [Act.put, List.getElem_toArray, List.getElem_cons_succ, List.getElem_cons_zero, List.setIfInBounds_toArray, List.set_cons_zero, List.set_cons_succ])
          refine wpAnyH_take (i := 11) (v := ?vda11) rfl (by kernel_rfl) (by kernel_rfl) (by kernel_rfl) (fun _ _ _ h => h) (Or.inl ⟨by kernel_rfl, ?yda11⟩) (by assumption) ?rda11
          case yda11 => (intro wq hSw; (try dsimp only at hSw); go_simp; (try with_reducible rfl))
          (try simp only [Act.put, List.getElem_toArray, List.getElem_cons_succ, List.getElem_cons_zero, List.setIfInBounds_toArray, List.set_cons_zero, List.set_cons_succ])
          refine wpAnyH_take (i := 13) (v := ?vda13) rfl (by kernel_rfl) (by kernel_rfl) (by kernel_rfl) (fun _ _ _ h => h) (Or.inl ⟨by kernel_rfl, ?yda13⟩) (by assumption) ?rda13
          case yda13 => (intro wq hSw; (try dsimp only at hSw); go_simp; (try with_reducible rfl))
          (try simp only [Act.put, List.getElem_toArray, List.getElem_cons_succ, List.getElem_cons_zero, List.setIfInBounds_toArray, List.set_cons_zero, List.set_cons_succ])
          refine wpAnyH_take (i := 14) (v := ?vda14) rfl (by kernel_rfl) (by kernel_rfl) (by kernel_rfl) (fun _ _ _ h => h) (Or.inl ⟨by kernel_rfl, ?yda14⟩) (by assumption) ?rda14
          case yda14 => (intro wq hSw; (try dsimp only at hSw); go_simp; (try with_reducible rfl))
          (try simp only [Act.put, List.getElem_toArray, List.getElem_cons_succ, List.getElem_cons_zero, List.setIfInBounds_toArray, List.set_cons_zero, List.set_cons_succ])
          refine wpAnyH_take (i := 15) (v := ?vda15) rfl (by kernel_rfl) (by kernel_rfl) (by kernel_rfl) (fun _ _ _ h => h) (Or.inl ⟨by kernel_rfl, ?yda15⟩) (by assumption) ?rda15
          case yda15 => (intro wq hSw; (try dsimp only at hSw); go_simp; (try with_reducible rfl))
          (try simp only [Act.put, List.getElem_toArray, List.getElem_cons_succ, List.getElem_cons_zero, List.setIfInBounds_toArray, List.set_cons_zero, List.set_cons_succ])
          refine wpAnyH_ready (rs := [12]) (by kernel_rfl) (by simp) ?_
          refine AllReadyH.cons rfl (fun K hK => ?_) AllReadyH.nil
          go_simp
          refine (HL1.out _ (Below.refl w9.heap.size w9).drew).mono ?_
          rintro ex wA ⟨va1, sA, rfl, hNA, hRA, hlA, hbA⟩; have HNA := Lib.hid hNA; have HRA := Lib.hid hRA; have HLA := Lib.hid hlA; have BA := Lib.hid (hbA.on (Below.refl w9.heap.size w9).drew (Nat.le_refl _)); clear hNA hRA hlA hbA
          (try dsimp only)
          refine hK.out _ _ (by exact HS22.out _ BA.out) (fun hHeld => ?_)
          clear hK K
          (try simp only [Act.put, List.getElem_toArray, List.getElem_cons_succ, List.getElem_cons_zero, List.setIfInBounds_toArray, List.set_cons_zero, List.set_cons_succ])
          refine wpAnyH_ready (rs := [16]) (by kernel_rfl) (by simp) ?_
          refine AllReadyH.cons rfl (fun K hK => ?_) AllReadyH.nil
          go_simp
          refine (HL2.out _ BA.out).mono ?_
          rintro ex wB ⟨vb1, rfl, hOB, hbB⟩; have HOB := Lib.hid hOB; have BAB := Lib.hid hbB; have BB := Lib.hid (hbB.on BA.out BA.out.size); clear hOB hbB
          (try dsimp only)
          refine hK.out _ _ (by exact HS22.out _ BB.out) (fun hHeld => ?_)
          clear hK K
          (try simp only [Act.put, List.getElem_toArray, List.getElem_cons_succ, List.getElem_cons_zero, List.setIfInBounds_toArray, List.set_cons_zero, List.set_cons_succ])
          refine wpAnyH_ready (rs := [17]) (by kernel_rfl) (by simp) ?_
          refine AllReadyH.cons rfl (fun K hK => ?_) AllReadyH.nil
          go_simp
          refine (props_c va1 vb1 _ _ _ (HRA.out.below BAB.out) (OwK.reads encP_len HOB.out) (by unfold propsOf; rw [List.length_map]; have := HLA.out; omega) HLL.out).mono ?_
          rintro ex wC ⟨⟨qq, rfl, hqq⟩, hbC⟩; obtain rfl := hqq.2 (HIV.out.list win HNA.out (fun s p hh => HTG.out.big win s p hh)); have BC := Lib.hid (hbC.on BB.out BB.out.size); clear hqq hbC
          (try dsimp only)
          refine hK.out _ _ (by exact HS22.out _ BC.out) (fun hHeld => ?_)
          clear hK K
          (try simp only [Act.put, List.getElem_toArray, List.getElem_cons_succ, List.getElem_cons_zero, List.setIfInBounds_toArray, List.set_cons_zero, List.set_cons_succ])
          refine wpAnyH_take (i := 18) (v := ?vdb18) rfl (by kernel_rfl) (by kernel_rfl) (by kernel_rfl) (fun _ _ _ h => h) (Or.inl ⟨by kernel_rfl, ?ydb18⟩) (by assumption) ?rdb18
          case ydb18 => (intro wq hSw; (try dsimp only at hSw); go_simp; (try with_reducible rfl))
          (try simp only [Act.put, List.getElem_toArray, List.getElem_cons_succ, List.getElem_cons_zero, List.setIfInBounds_toArray, List.set_cons_zero, List.set_cons_succ])
          refine wpAnyH_take (i := 19) (v := ?vdb19) rfl (by kernel_rfl) (by kernel_rfl) (by kernel_rfl) (fun _ _ _ h => h) (Or.inl ⟨by kernel_rfl, ?ydb19⟩) (by assumption) ?rdb19
          case ydb19 => (intro wq hSw; (try dsimp only at hSw); go_simp; (try with_reducible rfl))
          (try simp only [Act.put, List.getElem_toArray, List.getElem_cons_succ, List.getElem_cons_zero, List.setIfInBounds_toArray, List.set_cons_zero, List.set_cons_succ])
          refine wpAnyH_done (by kernel_rfl) ?_ _
          refine NoPanic.normal ?_
          go_wp2_with fail
          go_roundw
          case rel => exact ⟨k + 1, by have := HKN.out; omega, by have := HKN.out; omega, by go_num, R3, ms3, ns3, HTG.out.next BC.out, HIV.out, HO3.out.below (BC.out.on HB9.out HB9.out.size), HLR.out⟩
          case measure => have := HKN.out; simp [intOf]; omega
    · have HE := Lib.hid hb
      clear hb
      by_cases hkn : k < n
      · have hk1 : (k : Int) < (n : Int) := by omega
        have hk2 : ¬ (k : Int) < 60 := by have := HE.out; omega
        obtain ⟨bn, hbn⟩ : ∃ b, b = nameB s := ⟨_, rfl⟩
        have HNB := Lib.hid hbn
        clear hbn
        have HP1 := Lib.hid (fun W => (show Calls Tryd.prog 21 #[.string s] W fun e w' => e = .returned (.bool bn) ∧ Below W.heap.size W w' from HNB.out ▸ name_c s W HSZ.out))
        have HP2 := Lib.hid (fun W => (show Calls Tryd.prog 22 #[.string s] W fun e w' => e = .returned (.bool bn) ∧ Below W.heap.size W w' from HNB.out ▸ rname_c s W HSZ.out))
        have HBR := Lib.hid HT.out.below
        go_wp2_with (first
          | (go_at_call 21; ((with_reducible refine (HP1.out _).mono ?_); rintro ex wX ⟨rfl, hbX⟩); have HBX := Lib.hid (hbX.on HBR.out HBR.out.size); clear hbX)
          | (go_at_call 22; ((with_reducible refine (HP2.out _).mono ?_); rintro ex wY ⟨rfl, hbY⟩); have HBY := Lib.hid (hbY.on HBX.out HBX.out.size); clear hbY)
          | (go_at_call 23; ((with_reducible refine (HAW.out _ HBY.out).mono ?_); rintro ex wZ ⟨rfl, hbZ⟩); have HBZ := Lib.hid (hbZ.on HBY.out HBY.out.size); clear hbZ))
        go_ret
        exact ⟨rfl, HBZ.out⟩
      · have hk1 : ¬ (k : Int) < (n : Int) := by omega
        obtain ⟨bn, hbn⟩ : ∃ b, b = nameB s := ⟨_, rfl⟩
        have HNB := Lib.hid hbn
        clear hbn
        have HP1 := Lib.hid (fun W => (show Calls Tryd.prog 21 #[.string s] W fun e w' => e = .returned (.bool bn) ∧ Below W.heap.size W w' from HNB.out ▸ name_c s W HSZ.out))
        have HP2 := Lib.hid (fun W => (show Calls Tryd.prog 22 #[.string s] W fun e w' => e = .returned (.bool bn) ∧ Below W.heap.size W w' from HNB.out ▸ rname_c s W HSZ.out))
        have HBR := Lib.hid HT.out.below
        go_wp2_with (first
          | (go_at_call 21; ((with_reducible refine (HP1.out _).mono ?_); rintro ex wX ⟨rfl, hbX⟩); have HBX := Lib.hid (hbX.on HBR.out HBR.out.size); clear hbX)
          | (go_at_call 22; ((with_reducible refine (HP2.out _).mono ?_); rintro ex wY ⟨rfl, hbY⟩); have HBY := Lib.hid (hbY.on HBX.out HBX.out.size); clear hbY)
          | (go_at_call 23; ((with_reducible refine (HAW.out _ HBY.out).mono ?_); rintro ex wZ ⟨rfl, hbZ⟩); have HBZ := Lib.hid (hbZ.on HBY.out HBY.out.size); clear hbZ))
        go_ret
        exact ⟨rfl, HBZ.out⟩
end Go.Proofs.YtfflgkbemfichaaDoor
