/- fitWidth, walked. -/
import Derived.Test.YtdmoncpeoaoppaaSzI
namespace Go.Proofs.Ytdmoncpeoaoppaa
open Go.RowKit
namespace Sz
set_option maxHeartbeats 4000000 in
theorem fitWidth_c (h : Hn) (hb : Bd h) (n : Int) (n1 : 0 ≤ n) (n2 : n ≤ 65535) (w : World) : Calls Try.prog 59 #[.agg #[.int .i64 h.minW, .int .i64 h.minH, .int .i64 h.maxW, .int .i64 h.maxH, .int .i64 h.baseW, .int .i64 h.baseH, .int .i64 h.incW, .int .i64 h.incH, .int .i64 h.lowX, .int .i64 h.lowY, .int .i64 h.highX, .int .i64 h.highY], .int .i64 n] w fun e w' => ∃ x ok, e = .returned (.tuple #[.int .i64 x, .bool ok]) ∧ FwP h n x ok ∧ Below w.heap.size w w' := by
  have A0 := HB.new w h
  have W0 : Below w.heap.size w (w.alloc (.cells (#[.int .i64 h.minW, .int .i64 h.minH, .int .i64 h.maxW, .int .i64 h.maxH, .int .i64 h.baseW, .int .i64 h.baseH, .int .i64 h.incW, .int .i64 h.incH, .int .i64 h.lowX, .int .i64 h.lowY, .int .i64 h.highX, .int .i64 h.highY]) 25)) := by repeat' (first | (with_reducible exact Below.refl _ _) | (with_reducible assumption) | (with_reducible refine Below.alloc ?_ ?_ _) | (with_reducible refine Below.drew ?_) | (with_reducible refine Below.setCell ?_ ?_ _) | (with_reducible refine Below.on (by with_reducible assumption) ?_ ?_) | go_size)
  have okT := newS_ok hb.t
  have okW := widths_ok hb
  have HB' := Lib.hid hb
  obtain ⟨s, hs⟩ : ∃ s, widthsS h = s := ⟨_, rfl⟩
  rw [hs] at okW
  have HS := Lib.hid hs
  have HT := Lib.hid (fun W : World => tall_c h W)
  have HO := Lib.hid (fun W : World => some_c (tallS h) okT W)
  have HWd := Lib.hid (fun W : World => widths_c h hb W)
  rw [hs] at HWd
  have si1 := okW.i1
  have HD := Lib.hid (fun (v : Int) (a : -1 ≤ v) (b : v ≤ 4611686018427387904) (W : World) => down_c s okW v a b W)
  have HU := Lib.hid (fun (v : Int) (a : 0 ≤ v) (b : v ≤ 4611686018427387904) (W : World) => up_c s okW v a b W)
  have HH := Lib.hid (fun (v : Int) (a : 0 ≤ v) (b : v ≤ 65535) (W : World) => heights_c h hb v a b W)
  have HHO := Lib.hid (fun (v : Int) (a : 0 ≤ v) (b : v ≤ 65535) (W : World) => some_c (heightsS h v) (heights_ok hb a b) W)
  obtain ⟨tl, htl⟩ : ∃ t, tallS h = t := ⟨_, rfl⟩
  have HN := Lib.hid (none_fw (n := n) hb)
  rw [htl] at HT HO HN
  clear htl okT okW hs hb
  cases hso : someB tl
  · go_enter Try.func59, Try.ntmps59
    go_wp2_with first
      | (go_at_call 75; ((with_reducible refine (HT.out _).mono ?_); rintro e w1 ⟨rfl, hb1⟩); have A1 := A0.next hb1; have W1 := bnext W0 hb1 W0.size)
      | (go_at_call 76; ((with_reducible refine (HO.out _).mono ?_); rintro e w2 ⟨rfl, hb2⟩); have A2 := A1.next hb2; have W2 := bnext W1 hb2 W1.size)
    go_ret2
    exact ⟨_, _, rfl, HN.out hso, W2⟩
  · clear HN
    go_enter Try.func59, Try.ntmps59
    go_upto_region 3 with first
      | (go_at_call 75; ((with_reducible refine (HT.out _).mono ?_); rintro e w1 ⟨rfl, hb1⟩); have A1 := A0.next hb1; have W1 := bnext W0 hb1 W0.size)
      | (go_at_call 76; ((with_reducible refine (HO.out _).mono ?_); rintro e w2 ⟨rfl, hb2⟩); have A2 := A1.next hb2; have W2 := bnext W1 hb2 W1.size)
    clear A0 A1 W0 W1 hb1 hb2
    obtain ⟨⟨k0, k1, k2, k3, k4, k5, k6, k7, k8, k9, k10, k11⟩, ⟨kf0, kf1, kf2, kf3, kf4, kf5, kf6, kf7, kf8, kf9, kf10, kf11⟩⟩ := A2.out
    go_upto_region 4 with (go_at_call 77; ((with_reducible refine (HWd.out _).mono ?_); rintro e w3 ⟨rfl, hb3⟩); have A3 := A2.next hb3; have W3 := bnext W2 hb3 W2.size)
    clear k0 k1 k2 k3 k4 k5 k6 k7 k8 k9 k10 k11 kf0 kf1 kf2 kf3 kf4 kf5 kf6 kf7 kf8 kf9 kf10 kf11 A2 hb3 W2
    have hF : FwW w h s w3.heap.size (w3.alloc (.cells (#[.int .i64 s.l, .int .i64 s.m, .int .i64 s.b, .int .i64 s.i]) 70)) := ⟨A3.alloc _, SB.new w3 s, W3.alloc W3.size _⟩
    clear A3 W3
    generalize w3.alloc (.cells (#[.int .i64 s.l, .int .i64 s.m, .int .i64 s.b, .int .i64 s.i]) 70) = w4 at *
    generalize w3.heap.size = g at *
    have HF := Lib.hid hF
    clear hF HWd HT HO
    obtain ⟨⟨s0, s1, s2, s3⟩, ⟨sf0, sf1, sf2, sf3⟩⟩ := HF.out.2.1.out
    go_upto_region 5 with (go_at_call 78; ((with_reducible refine (HD.out n (by omega) (by omega) _).mono ?_); rintro e w5 ⟨rfl, hb5⟩); have HG := Lib.hid (HF.out.next hb5))
    clear s0 s1 s2 s3 sf0 sf1 sf2 sf3 hb5
    have HD0 := Lib.hid (Dn.start h s n)
    go_loopw [7, 8] (fun a b wr => ∃ v ok, a = .int .i64 v ∧ b = .bool ok ∧ Dn h s n v ok ∧ FwW w h s g wr) (fun a _ _ => (intOf a).toNat)
    case atStart => exact ⟨_, _, rfl, rfl, HD0.out, HG.out⟩
    case round =>
      obtain ⟨v, ok, rfl, rfl, hR, hW⟩ := hrel
      clear HF HG HD0
      cases ok
      · have HR := Lib.hid (hR.up HB'.out HS.out)
        have HG2 := Lib.hid hW
        clear hR hW
        obtain ⟨⟨s0, s1, s2, s3⟩, ⟨sf0, sf1, sf2, sf3⟩⟩ := HG2.out.2.1.out
        go_upto_region 9 with fail
        go_upto_region 10 with (go_at_call 79; ((with_reducible refine (HU.out (n + 1) (by omega) (by omega) _).mono ?_); rintro e w5 ⟨rfl, hb5⟩); have HG := Lib.hid (HG2.out.next hb5); clear hb5)
        clear s0 s1 s2 s3 sf0 sf1 sf2 sf3
        go_loopw [9, 10] (fun a b wr => ∃ v ok, a = .int .i64 v ∧ b = .bool ok ∧ Up h s n v ok ∧ FwW w h s g wr) (fun a _ _ => (65536 - intOf a).toNat)
        case atStart => exact ⟨_, _, rfl, rfl, HR.out, HG.out⟩
        case round =>
          obtain ⟨v, ok, rfl, rfl, hR, hW⟩ := hrel
          clear HG HG2 HR
          cases ok
          · have HR := Lib.hid (hR.out HB'.out HS.out)
            have HG2 := Lib.hid hW
            clear hR hW
            go_wp2_with fail
            go_ret2
            exact ⟨_, _, rfl, HR.out, HG2.out.2.2⟩
          · skip
            have di := hR.in_ HB'.out HS.out
            have HR := Lib.hid hR
            have HG2 := Lib.hid hW
            clear hR hW
            obtain ⟨⟨k0, k1, k2, k3, k4, k5, k6, k7, k8, k9, k10, k11⟩, ⟨kf0, kf1, kf2, kf3, kf4, kf5, kf6, kf7, kf8, kf9, kf10, kf11⟩⟩ := HG2.out.1.out
            cases ho : someB (heightsS h v)
            · have HM := Lib.hid (HR.out.miss HB'.out HS.out ho)
              obtain ⟨di1, di2, di3, di4⟩ := di
              clear di1
              go_upto_region 11 with first
                | (go_at_call 61; ((with_reducible refine (HH.out v (by omega) di3 _).mono ?_); rintro e w6 ⟨rfl, hb6⟩); have HG3 := Lib.hid (HG2.out.next hb6); clear hb6)
                | (go_at_call 76; ((with_reducible refine (HHO.out v (by omega) di3 _).mono ?_); rintro e w7 ⟨rfl, hb7⟩); have HG4 := Lib.hid (HG3.out.next hb7); clear hb7)
              clear k0 k1 k2 k3 k4 k5 k6 k7 k8 k9 k10 k11 kf0 kf1 kf2 kf3 kf4 kf5 kf6 kf7 kf8 kf9 kf10 kf11
              obtain ⟨⟨s0, s1, s2, s3⟩, ⟨sf0, sf1, sf2, sf3⟩⟩ := HG4.out.2.1.out
              go_wp2_with (go_at_call 79; ((with_reducible refine (HU.out (v + 1) (by omega) (by omega) _).mono ?_); rintro e w8 ⟨rfl, hb8⟩); have HG5 := Lib.hid (HG4.out.next hb8); clear hb8)
              refine ⟨⟨_, _, rfl, rfl, HM.out, HG5.out⟩, ?_⟩
              have := (up_ge s (by assumption) (v + 1)).1
              simp [intOf]; omega
            · have HM := Lib.hid (HR.out.hit HB'.out HS.out ho)
              obtain ⟨di1, di2, di3, di4⟩ := di
              clear di1
              go_upto_region 13 with first
                | (go_at_call 61; ((with_reducible refine (HH.out v (by omega) di3 _).mono ?_); rintro e w6 ⟨rfl, hb6⟩); have HG3 := Lib.hid (HG2.out.next hb6); clear hb6)
                | (go_at_call 76; ((with_reducible refine (HHO.out v (by omega) di3 _).mono ?_); rintro e w7 ⟨rfl, hb7⟩); have HG4 := Lib.hid (HG3.out.next hb7); clear hb7)
              clear k0 k1 k2 k3 k4 k5 k6 k7 k8 k9 k10 k11 kf0 kf1 kf2 kf3 kf4 kf5 kf6 kf7 kf8 kf9 kf10 kf11
              go_wp2_with fail
              go_ret2
              exact ⟨_, _, rfl, HM.out, HG4.out.2.2⟩
      · skip
        have di := hR.in_ HB'.out HS.out
        have HR := Lib.hid hR
        have HG2 := Lib.hid hW
        clear hR hW
        obtain ⟨⟨k0, k1, k2, k3, k4, k5, k6, k7, k8, k9, k10, k11⟩, ⟨kf0, kf1, kf2, kf3, kf4, kf5, kf6, kf7, kf8, kf9, kf10, kf11⟩⟩ := HG2.out.1.out
        cases ho : someB (heightsS h v)
        · have HM := Lib.hid (HR.out.miss HB'.out HS.out ho)
          obtain ⟨di1, di2, di3, di4⟩ := di
          clear di1
          go_upto_region 6 with first
            | (go_at_call 61; ((with_reducible refine (HH.out v (by omega) di3 _).mono ?_); rintro e w6 ⟨rfl, hb6⟩); have HG3 := Lib.hid (HG2.out.next hb6); clear hb6)
            | (go_at_call 76; ((with_reducible refine (HHO.out v (by omega) di3 _).mono ?_); rintro e w7 ⟨rfl, hb7⟩); have HG4 := Lib.hid (HG3.out.next hb7); clear hb7)
          clear k0 k1 k2 k3 k4 k5 k6 k7 k8 k9 k10 k11 kf0 kf1 kf2 kf3 kf4 kf5 kf6 kf7 kf8 kf9 kf10 kf11
          obtain ⟨⟨s0, s1, s2, s3⟩, ⟨sf0, sf1, sf2, sf3⟩⟩ := HG4.out.2.1.out
          go_wp2_with (go_at_call 78; ((with_reducible refine (HD.out (v - 1) (by omega) (by omega) _).mono ?_); rintro e w8 ⟨rfl, hb8⟩); have HG5 := Lib.hid (HG4.out.next hb8); clear hb8)
          refine ⟨⟨_, _, rfl, rfl, HM.out, HG5.out⟩, ?_⟩
          have := (down_le s (by assumption) (v - 1)).1
          simp [intOf]; omega
        · have HM := Lib.hid (HR.out.hit HB'.out HS.out ho)
          obtain ⟨di1, di2, di3, di4⟩ := di
          clear di1
          go_upto_region 8 with first
            | (go_at_call 61; ((with_reducible refine (HH.out v (by omega) di3 _).mono ?_); rintro e w6 ⟨rfl, hb6⟩); have HG3 := Lib.hid (HG2.out.next hb6); clear hb6)
            | (go_at_call 76; ((with_reducible refine (HHO.out v (by omega) di3 _).mono ?_); rintro e w7 ⟨rfl, hb7⟩); have HG4 := Lib.hid (HG3.out.next hb7); clear hb7)
          clear k0 k1 k2 k3 k4 k5 k6 k7 k8 k9 k10 k11 kf0 kf1 kf2 kf3 kf4 kf5 kf6 kf7 kf8 kf9 kf10 kf11
          go_wp2_with fail
          go_ret2
          exact ⟨_, _, rfl, HM.out, HG4.out.2.2⟩
end Sz
end Go.Proofs.Ytdmoncpeoaoppaa
