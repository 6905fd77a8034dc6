/- The document's Normal, walked. -/
import Derived.Test.YtdmoncpeoaoppaaSzV
import Derived.Test.YtdmoncpeoaoppaaSzH
import Derived.Deep.DeepCutAuto
import Derived.Deep.RegionLaw
namespace Go.Proofs.Ytdmoncpeoaoppaa
open Go.RowKit
namespace Sz
/-- Its first half: the ways are normal, and a copy without an aspect lies beside. -/
def NmW (w : World) (b : Hn) (W : World) : Prop := HB W w.heap.size b ∧ HB W (w.heap.size + 1) zeroH ∧ Below w.heap.size w W
theorem NmW.drew {w : World} {b : Hn} {W : World} (a : NmW w b W) : NmW w b W.drew := ⟨a.1, a.2.1, Below.drew a.2.2⟩
theorem NmW.mk (w : World) (b : Hn) : NmW w b ((w.alloc (.cells (#[.int .i64 b.minW, .int .i64 b.minH, .int .i64 b.maxW, .int .i64 b.maxH, .int .i64 b.baseW, .int .i64 b.baseH, .int .i64 b.incW, .int .i64 b.incH, .int .i64 b.lowX, .int .i64 b.lowY, .int .i64 b.highX, .int .i64 b.highY]) 25)).alloc (.cells (#[.int .i64 zeroH.minW, .int .i64 zeroH.minH, .int .i64 zeroH.maxW, .int .i64 zeroH.maxH, .int .i64 zeroH.baseW, .int .i64 zeroH.baseH, .int .i64 zeroH.incW, .int .i64 zeroH.incH, .int .i64 zeroH.lowX, .int .i64 zeroH.lowY, .int .i64 zeroH.highX, .int .i64 zeroH.highY]) 25)) := by
  have Z0 := HB.zero (w.alloc (.cells (#[.int .i64 b.minW, .int .i64 b.minH, .int .i64 b.maxW, .int .i64 b.maxH, .int .i64 b.baseW, .int .i64 b.baseH, .int .i64 b.incW, .int .i64 b.incH, .int .i64 b.lowX, .int .i64 b.lowY, .int .i64 b.highX, .int .i64 b.highY]) 25))
  simp only [World.size_alloc] at Z0
  exact ⟨(HB.new w b).alloc _, Z0, ((Below.refl _ _).alloc (Nat.le_refl _) _).alloc (by simp) _⟩
theorem zaB_ways (h : Hn) : zaB (waysH h) = true → bounded h = waysH h := by
  intro k
  have := (zaB_iff (h := waysH h) (way_span _ _ _ _) (way_span _ _ _ _)).1 k
  unfold bounded; split
  · rfl
  · next ha =>
    rcases this.a with ⟨z1, z2, z3, z4⟩ | c
    · exact Hn.same rfl rfl rfl rfl rfl rfl rfl rfl z1.symm z2.symm z3.symm z4.symm
    · exact absurd ((aspB_iff _ _ _ _).2 c) ha
theorem zaB_free (h : Hn) : zaB (waysH h) = false → bounded h = freeH (waysH h) := by
  intro k
  have ha : aspB h.lowX h.lowY h.highX h.highY = false := (Bool.or_eq_false_iff.1 (show (_ || aspB h.lowX h.lowY h.highX h.highY) = false from k)).2
  unfold bounded; rw [ha]; rfl
theorem free_bounded (h : Hn) : freeH (bounded h) = freeH (waysH h) := by unfold bounded; split <;> rfl
theorem oneM_le {l m : Int} (h : m ≤ 0) : oneM l m = 0 := by
  unfold oneM; rw [show max m 0 = 0 by omega]; rfl
theorem oneM_gt {l m : Int} (h : ¬ m ≤ 0) : oneM l m = spanI m l 65535 := by
  unfold oneM; rw [show max m 0 = m by omega, if_pos (by omega)]
theorem res_hints {fn : Func} {a : Tmp} (h : fn.results = #[.cell a 25]) (tmps : Array Value) {g : Nat} (ht : tmps.getD a undef = .pointer (some ⟨g, 0, none⟩)) {w : World} {b : Hn} (hB : HB w g b) : (results fn tmps).run Try.prog w = .ok (.agg #[.int .i64 b.minW, .int .i64 b.minH, .int .i64 b.maxW, .int .i64 b.maxH, .int .i64 b.baseW, .int .i64 b.baseH, .int .i64 b.incW, .int .i64 b.incH, .int .i64 b.lowX, .int .i64 b.lowY, .int .i64 b.highX, .int .i64 b.highY]) w := by
  obtain ⟨⟨c0, c1, c2, c3, c4, c5, c6, c7, c8, c9, c10, c11⟩, ⟨cf0, cf1, cf2, cf3, cf4, cf5, cf6, cf7, cf8, cf9, cf10, cf11⟩⟩ := hB.out
  have ht' : tmps[a]?.getD undef = .pointer (some ⟨g, 0, none⟩) := by simpa using ht
  simp [results, h, ht', go_sem, c0, c1, c2, c3, c4, c5, c6, c7, c8, c9, c10, c11]
set_option maxRecDepth 100000 in
set_option maxHeartbeats 8000000 in
theorem rnormal_c (h : Hn) (w : World)
    (HYes : ∀ b : Hn, Bd b → Some b → ∀ W : World, Calls Try.prog 49 #[.agg #[.int .i64 b.minW, .int .i64 b.minH, .int .i64 b.maxW, .int .i64 b.maxH, .int .i64 b.baseW, .int .i64 b.baseH, .int .i64 b.incW, .int .i64 b.incH, .int .i64 b.lowX, .int .i64 b.lowY, .int .i64 b.highX, .int .i64 b.highY], .int .i64 65535, .int .i64 65535] W fun e w' => ∃ x y, e = .returned (.tuple #[.int .i64 x, .int .i64 y]) ∧ 0 < x ∧ Below W.heap.size W w')
    (HNo : ∀ b : Hn, Bd b → ¬ Some b → ∀ W : World, Calls Try.prog 49 #[.agg #[.int .i64 b.minW, .int .i64 b.minH, .int .i64 b.maxW, .int .i64 b.maxH, .int .i64 b.baseW, .int .i64 b.baseH, .int .i64 b.incW, .int .i64 b.incH, .int .i64 b.lowX, .int .i64 b.lowY, .int .i64 b.highX, .int .i64 b.highY], .int .i64 65535, .int .i64 65535] W fun e w' => e = .returned (.tuple #[.int .i64 0, .int .i64 0]) ∧ Below W.heap.size W w') :
    Calls Try.prog 20 #[.agg #[.int .i64 h.minW, .int .i64 h.minH, .int .i64 h.maxW, .int .i64 h.maxH, .int .i64 h.baseW, .int .i64 h.baseH, .int .i64 h.incW, .int .i64 h.incH, .int .i64 h.lowX, .int .i64 h.lowY, .int .i64 h.highX, .int .i64 h.highY]] w fun e w' => ∃ n, e = .returned (.agg #[.int .i64 n.minW, .int .i64 n.minH, .int .i64 n.maxW, .int .i64 n.maxH, .int .i64 n.baseW, .int .i64 n.baseH, .int .i64 n.incW, .int .i64 n.incH, .int .i64 n.lowX, .int .i64 n.lowY, .int .i64 n.highX, .int .i64 n.highY]) ∧ NormP h n ∧ Below w.heap.size w w' := by
  have A0 := (HB.new w h).alloc (.cells (#[.int .i64 zeroH.minW, .int .i64 zeroH.minH, .int .i64 zeroH.maxW, .int .i64 zeroH.maxH, .int .i64 zeroH.baseW, .int .i64 zeroH.baseH, .int .i64 zeroH.incW, .int .i64 zeroH.incH, .int .i64 zeroH.lowX, .int .i64 zeroH.lowY, .int .i64 zeroH.highX, .int .i64 zeroH.highY]) 25)
  have Z0 := HB.zero (w.alloc (.cells (#[.int .i64 h.minW, .int .i64 h.minH, .int .i64 h.maxW, .int .i64 h.maxH, .int .i64 h.baseW, .int .i64 h.baseH, .int .i64 h.incW, .int .i64 h.incH, .int .i64 h.lowX, .int .i64 h.lowY, .int .i64 h.highX, .int .i64 h.highY]) 25))
  simp only [World.size_alloc] at Z0
  have W0 : Below w.heap.size w ((w.alloc (.cells (#[.int .i64 h.minW, .int .i64 h.minH, .int .i64 h.maxW, .int .i64 h.maxH, .int .i64 h.baseW, .int .i64 h.baseH, .int .i64 h.incW, .int .i64 h.incH, .int .i64 h.lowX, .int .i64 h.lowY, .int .i64 h.highX, .int .i64 h.highY]) 25)).alloc (.cells (#[.int .i64 zeroH.minW, .int .i64 zeroH.minH, .int .i64 zeroH.maxW, .int .i64 zeroH.maxH, .int .i64 zeroH.baseW, .int .i64 zeroH.baseH, .int .i64 zeroH.incW, .int .i64 zeroH.incH, .int .i64 zeroH.lowX, .int .i64 zeroH.lowY, .int .i64 zeroH.highX, .int .i64 zeroH.highY]) 25)) := by repeat' (first | (with_reducible exact Below.refl _ _) | (with_reducible assumption) | (with_reducible refine Below.alloc ?_ ?_ _) | (with_reducible refine Below.drew ?_) | (with_reducible refine Below.setCell ?_ ?_ _) | (with_reducible refine Below.on (by with_reducible assumption) ?_ ?_) | go_size)
  have ne : w.heap.size + 1 ≠ w.heap.size := by omega
  have hbd := bounded_bd h
  have hzt := zaB_ways h
  have hzf := zaB_free h
  have hff := free_bounded h
  have HP : ∀ n, (Some (bounded h) → n = bounded h) → (¬ Some (bounded h) → Some (freeH (bounded h)) → n = freeH (bounded h)) → (¬ Some (bounded h) → ¬ Some (freeH (bounded h)) → n = lastH (freeH (bounded h))) → NormP h n := fun n a b c => ⟨a, b, c⟩
  have hw1 : Way (waysH h).minW (waysH h).maxW (waysH h).baseW (waysH h).incW := way_span _ _ _ _
  have hw2 : Way (waysH h).minH (waysH h).maxH (waysH h).baseH (waysH h).incH := way_span _ _ _ _
  rw [hff] at HP
  clear hff
  obtain ⟨b, hb⟩ : ∃ b, bounded h = b := ⟨_, rfl⟩
  obtain ⟨y, hy⟩ : ∃ y, waysH h = y := ⟨_, rfl⟩
  rw [hb] at HP hbd hzt hzf
  rw [hy] at HP hzt hzf hw1 hw2
  have e1 : spanI h.minW 1 65535 = y.minW := by rw [← hy]; rfl
  have e2 : spanI h.minH 1 65535 = y.minH := by rw [← hy]; rfl
  have e3 : oneM (spanI h.minW 1 65535) h.maxW = y.maxW := by rw [← hy]; rfl
  have e4 : oneM (spanI h.minH 1 65535) h.maxH = y.maxH := by rw [← hy]; rfl
  have e5 : spanI h.baseW 0 65535 = y.baseW := by rw [← hy]; rfl
  have e6 : spanI h.baseH 0 65535 = y.baseH := by rw [← hy]; rfl
  have e7 : spanI h.incW 1 65535 = y.incW := by rw [← hy]; rfl
  have e8 : spanI h.incH 1 65535 = y.incH := by rw [← hy]; rfl
  have e9 : h.lowX = y.lowX := by rw [← hy]; rfl
  have e10 : h.lowY = y.lowY := by rw [← hy]; rfl
  have e11 : h.highX = y.highX := by rw [← hy]; rfl
  have e12 : h.highY = y.highY := by rw [← hy]; rfl
  rw [e1] at e3
  rw [e2] at e4
  have HIN := Lib.hid (fun W : World => normal_is y hw1 hw2 W)
  obtain ⟨f, hf⟩ : ∃ f, freeH y = f := ⟨_, rfl⟩
  have hfd : Bd f := by rw [← hf]; exact free_bd hw1 hw2
  rw [hf] at HP hzf
  have HPP := Lib.hid HP
  have HZT := Lib.hid hzt
  have HZF := Lib.hid hzf
  have S1 := Lib.hid (fun W : World => rspan_c h.minW 1 65535 W)
  have S2 := Lib.hid (fun W : World => rspan_c h.minH 1 65535 W)
  have S3 := Lib.hid (fun W : World => rspan_c h.incW 1 65535 W)
  have S4 := Lib.hid (fun W : World => rspan_c h.incH 1 65535 W)
  have S5 := Lib.hid (fun W : World => rspan_c h.baseW 0 65535 W)
  have S6 := Lib.hid (fun W : World => rspan_c h.baseH 0 65535 W)
  have S7 := Lib.hid (fun W : World => rspan_c h.maxW y.minW 65535 W)
  have S8 := Lib.hid (fun W : World => rspan_c h.maxH y.minH 65535 W)
  rw [e1] at S1; rw [e2] at S2; rw [e7] at S3; rw [e8] at S4; rw [e5] at S5; rw [e6] at S6
  have HF1 := Lib.hid (show f = ⟨y.minW, y.minH, y.maxW, y.maxH, y.baseW, y.baseH, y.incW, y.incH, 0, 0, 0, 0⟩ from hf.symm)
  have E3 := Lib.hid e3
  have E4 := Lib.hid e4
  have HLast := Lib.hid e9
  have HLast2 := Lib.hid e10
  have HLast3 := Lib.hid e11
  have HLast4 := Lib.hid e12
  have HN0 := Lib.hid (show NmW w h _ from ⟨A0, Z0, W0⟩)
  clear HP hb hy e1 e2 e3 e4 e5 e6 e7 e8 e9 e10 e11 e12 hf hw1 hw2 hzt hzf A0 Z0 W0
  go_enter Try.func20, Try.ntmps20
  go_upto_region 1 with fail
  go_cut [] (fun wx => NmW w ⟨y.minW, y.minH, h.maxW, h.maxH, h.baseW, h.baseH, h.incW, h.incH, h.lowX, h.lowY, h.highX, h.highY⟩ wx)
  case first =>
    go_region_law (go_simp; first | (go_at_call 42; ((with_reducible refine (S1.out _).mono ?_); rintro e w3 ⟨rfl, rfl⟩)) | (go_at_call 42; ((with_reducible refine (S2.out _).mono ?_); rintro e w3 ⟨rfl, rfl⟩)))
    all_goals (go_wp2_with fail; go_meet)
    all_goals exact (NmW.mk w _).drew
  case rest =>
    have HN := Lib.hid hcut
    clear hcut
    obtain ⟨w1, hw1⟩ : ∃ w1, w1 = wc := ⟨_, rfl⟩
    subst hw1
    obtain ⟨⟨k0, k1, k2, k3, k4, k5, k6, k7, k8, k9, k10, k11⟩, ⟨kf0, kf1, kf2, kf3, kf4, kf5, kf6, kf7, kf8, kf9, kf10, kf11⟩⟩ := HN.out.1.out
    go_upto_region 2 with fail
    go_cut [] (fun wx => NmW w ⟨y.minW, y.minH, h.maxW, h.maxH, h.baseW, h.baseH, y.incW, y.incH, h.lowX, h.lowY, h.highX, h.highY⟩ wx)
    case first =>
      go_region_law (go_simp; first | (go_at_call 42; ((with_reducible refine (S3.out _).mono ?_); rintro e w3 ⟨rfl, rfl⟩)) | (go_at_call 42; ((with_reducible refine (S4.out _).mono ?_); rintro e w3 ⟨rfl, rfl⟩)))
      all_goals (go_wp2_with fail; go_meet)
      all_goals exact ⟨Blk.set_ (Blk.set_ (HB.drew HN.out.1) 6 (.int .i64 y.incW)) 7 (.int .i64 y.incH), ((HB.drew HN.out.2.1).far ne _).far ne _, ((Below.drew HN.out.2.2).setCell (Nat.le_refl _) _).setCell (Nat.le_refl _) _⟩
    case rest =>
      clear k0 k1 k2 k3 k4 k5 k6 k7 k8 k9 k10 k11 kf0 kf1 kf2 kf3 kf4 kf5 kf6 kf7 kf8 kf9 kf10 kf11 HN
      have HN := Lib.hid hcut
      clear hcut
      obtain ⟨w1, hw1⟩ : ∃ w1, w1 = wc := ⟨_, rfl⟩
      subst hw1
      obtain ⟨⟨k0, k1, k2, k3, k4, k5, k6, k7, k8, k9, k10, k11⟩, ⟨kf0, kf1, kf2, kf3, kf4, kf5, kf6, kf7, kf8, kf9, kf10, kf11⟩⟩ := HN.out.1.out
      go_upto_region 3 with fail
      go_cut [] (fun wx => NmW w ⟨y.minW, y.minH, h.maxW, h.maxH, y.baseW, y.baseH, y.incW, y.incH, h.lowX, h.lowY, h.highX, h.highY⟩ wx)
      case first =>
        go_region_law (go_simp; first | (go_at_call 42; ((with_reducible refine (S5.out _).mono ?_); rintro e w3 ⟨rfl, rfl⟩)) | (go_at_call 42; ((with_reducible refine (S6.out _).mono ?_); rintro e w3 ⟨rfl, rfl⟩)))
        all_goals (go_wp2_with fail; go_meet)
        all_goals exact ⟨Blk.set_ (Blk.set_ (HB.drew HN.out.1) 4 (.int .i64 y.baseW)) 5 (.int .i64 y.baseH), ((HB.drew HN.out.2.1).far ne _).far ne _, ((Below.drew HN.out.2.2).setCell (Nat.le_refl _) _).setCell (Nat.le_refl _) _⟩
      case rest =>
        clear k0 k1 k2 k3 k4 k5 k6 k7 k8 k9 k10 k11 kf0 kf1 kf2 kf3 kf4 kf5 kf6 kf7 kf8 kf9 kf10 kf11 HN
        have HN := Lib.hid hcut
        clear hcut
        obtain ⟨w1, hw1⟩ : ∃ w1, w1 = wc := ⟨_, rfl⟩
        subst hw1
        obtain ⟨⟨k0, k1, k2, k3, k4, k5, k6, k7, k8, k9, k10, k11⟩, ⟨kf0, kf1, kf2, kf3, kf4, kf5, kf6, kf7, kf8, kf9, kf10, kf11⟩⟩ := HN.out.1.out
        go_upto_if 34 with fail
        go_cut [] (fun wx => NmW w ⟨y.minW, y.minH, y.maxW, h.maxH, y.baseW, y.baseH, y.incW, y.incH, h.lowX, h.lowY, h.highX, h.highY⟩ wx)
        case first =>
          by_cases c : h.maxW ≤ 0
          · have EE : y.maxW = 0 := by rw [← E3.out]; exact oneM_le c
            go_wp2_with fail
            go_meet
            rw [EE]
            exact ⟨Blk.set_ HN.out.1 2 (.int .i64 0), HN.out.2.1.far ne _, HN.out.2.2.setCell (Nat.le_refl _) _⟩
          · have EE : spanI h.maxW y.minW 65535 = y.maxW := by rw [← E3.out]; exact (oneM_gt c).symm
            go_wp2_with (go_at_call 42; ((with_reducible refine (S7.out _).mono ?_); rintro e w3 ⟨rfl, rfl⟩))
            go_meet
            exact ⟨Blk.set_ HN.out.1 2 (.int .i64 y.maxW), HN.out.2.1.far ne _, HN.out.2.2.setCell (Nat.le_refl _) _⟩
        case rest =>
          clear k0 k1 k2 k3 k4 k5 k6 k7 k8 k9 k10 k11 kf0 kf1 kf2 kf3 kf4 kf5 kf6 kf7 kf8 kf9 kf10 kf11 HN
          have HN := Lib.hid hcut
          clear hcut
          obtain ⟨w1, hw1⟩ : ∃ w1, w1 = wc := ⟨_, rfl⟩
          subst hw1
          obtain ⟨⟨k0, k1, k2, k3, k4, k5, k6, k7, k8, k9, k10, k11⟩, ⟨kf0, kf1, kf2, kf3, kf4, kf5, kf6, kf7, kf8, kf9, kf10, kf11⟩⟩ := HN.out.1.out
          go_upto_if 44 with fail
          go_cut [] (fun wx => NmW w ⟨y.minW, y.minH, y.maxW, y.maxH, y.baseW, y.baseH, y.incW, y.incH, h.lowX, h.lowY, h.highX, h.highY⟩ wx)
          case first =>
            by_cases c : h.maxH ≤ 0
            · have EE : y.maxH = 0 := by rw [← E4.out]; exact oneM_le c
              go_wp2_with fail
              go_meet
              rw [EE]
              exact ⟨Blk.set_ HN.out.1 3 (.int .i64 0), HN.out.2.1.far ne _, HN.out.2.2.setCell (Nat.le_refl _) _⟩
            · have EE : spanI h.maxH y.minH 65535 = y.maxH := by rw [← E4.out]; exact (oneM_gt c).symm
              go_wp2_with (go_at_call 42; ((with_reducible refine (S8.out _).mono ?_); rintro e w3 ⟨rfl, rfl⟩))
              go_meet
              exact ⟨Blk.set_ HN.out.1 3 (.int .i64 y.maxH), HN.out.2.1.far ne _, HN.out.2.2.setCell (Nat.le_refl _) _⟩
          case rest =>
            clear k0 k1 k2 k3 k4 k5 k6 k7 k8 k9 k10 k11 kf0 kf1 kf2 kf3 kf4 kf5 kf6 kf7 kf8 kf9 kf10 kf11 HN
            rw [HLast.out, HLast2.out, HLast3.out, HLast4.out] at hcut
            have HN := Lib.hid (show NmW w y wc from hcut)
            clear hcut
            obtain ⟨w1, hw1⟩ : ∃ w1, w1 = wc := ⟨_, rfl⟩
            subst hw1
            obtain ⟨⟨k0, k1, k2, k3, k4, k5, k6, k7, k8, k9, k10, k11⟩, ⟨kf0, kf1, kf2, kf3, kf4, kf5, kf6, kf7, kf8, kf9, kf10, kf11⟩⟩ := HN.out.1.out
            go_upto_region 12 with fail
            clear k0 k1 k2 k3 k4 k5 k6 k7 k8 k9 k10 k11 kf0 kf1 kf2 kf3 kf4 kf5 kf6 kf7 kf8 kf9 kf10 kf11
            rw [show w1.alloc (.cells #[.int .i64 y.minW, .int .i64 y.minH, .int .i64 y.maxW, .int .i64 y.maxH, .int .i64 y.baseW, .int .i64 y.baseH, .int .i64 y.incW, .int .i64 y.incH, .int .i64 0, .int .i64 0, .int .i64 0, .int .i64 0] 25) = w1.alloc (.cells (#[.int .i64 f.minW, .int .i64 f.minH, .int .i64 f.maxW, .int .i64 f.maxH, .int .i64 f.baseW, .int .i64 f.baseH, .int .i64 f.incW, .int .i64 f.incH, .int .i64 f.lowX, .int .i64 f.lowY, .int .i64 f.highX, .int .i64 f.highY]) 25) from by rw [HF1.out]]
            have B1 := HN.out.1.alloc (.cells (#[.int .i64 f.minW, .int .i64 f.minH, .int .i64 f.maxW, .int .i64 f.maxH, .int .i64 f.baseW, .int .i64 f.baseH, .int .i64 f.incW, .int .i64 f.incH, .int .i64 f.lowX, .int .i64 f.lowY, .int .i64 f.highX, .int .i64 f.highY]) 25)
            have Z1 := HN.out.2.1.alloc (.cells (#[.int .i64 f.minW, .int .i64 f.minH, .int .i64 f.maxW, .int .i64 f.maxH, .int .i64 f.baseW, .int .i64 f.baseH, .int .i64 f.incW, .int .i64 f.incH, .int .i64 f.lowX, .int .i64 f.lowY, .int .i64 f.highX, .int .i64 f.highY]) 25)
            have F1 := HB.new w1 f
            have W1 : Below w.heap.size w (w1.alloc (.cells (#[.int .i64 f.minW, .int .i64 f.minH, .int .i64 f.maxW, .int .i64 f.maxH, .int .i64 f.baseW, .int .i64 f.baseH, .int .i64 f.incW, .int .i64 f.incH, .int .i64 f.lowX, .int .i64 f.lowY, .int .i64 f.highX, .int .i64 f.highY]) 25)) := HN.out.2.2.alloc HN.out.2.2.size _
            have l0 := Nat.ne_of_lt HN.out.1.raw.lt
            have l1 := Nat.ne_of_lt HN.out.2.1.raw.lt
            have l2 := HN.out.2.2.size
            clear HN
            generalize w1.alloc (.cells (#[.int .i64 f.minW, .int .i64 f.minH, .int .i64 f.maxW, .int .i64 f.maxH, .int .i64 f.baseW, .int .i64 f.baseH, .int .i64 f.incW, .int .i64 f.incH, .int .i64 f.lowX, .int .i64 f.lowY, .int .i64 f.highX, .int .i64 f.highY]) 25) = w2 at *
            generalize w1.heap.size = g at *
            clear w1
            obtain ⟨⟨k0, k1, k2, k3, k4, k5, k6, k7, k8, k9, k10, k11⟩, ⟨kf0, kf1, kf2, kf3, kf4, kf5, kf6, kf7, kf8, kf9, kf10, kf11⟩⟩ := B1.out
            obtain ⟨z, hz⟩ : ∃ z, zaB y = z := ⟨_, rfl⟩
            rw [hz] at HIN HZT HZF
            clear hz
            go_upto_if 59 with (go_at_call 48; ((with_reducible refine (HIN.out _).mono ?_); rintro e w3 ⟨rfl, hb3⟩); have B3 := B1.next hb3; have Z3 := Z1.next hb3; have F3 := F1.next hb3; have W3 := bnext W1 hb3 W1.size; clear hb3)
            clear k0 k1 k2 k3 k4 k5 k6 k7 k8 k9 k10 k11 kf0 kf1 kf2 kf3 kf4 kf5 kf6 kf7 kf8 kf9 kf10 kf11 B1 Z1 F1 W1
            obtain ⟨⟨k0, k1, k2, k3, k4, k5, k6, k7, k8, k9, k10, k11⟩, ⟨kf0, kf1, kf2, kf3, kf4, kf5, kf6, kf7, kf8, kf9, kf10, kf11⟩⟩ := B3.out
            obtain ⟨⟨f0, f1, f2, f3, f4, f5, f6, f7, f8, f9, f10, f11⟩, ⟨ff0, ff1, ff2, ff3, ff4, ff5, ff6, ff7, ff8, ff9, ff10, ff11⟩⟩ := F3.out
            go_cut [] (fun wx => HB wx w.heap.size b ∧ HB wx (w.heap.size + 1) zeroH ∧ HB wx g f ∧ Below w.heap.size w wx)
            case first =>
              cases z
              · have E := HZF.out rfl
                go_wp2_with fail
                go_meet
                rw [E]
                exact ⟨B3.put12 f, Z3.far12 ne f, F3.far12 (Ne.symm l0) f, below_set12 W3 (Nat.le_refl _) f⟩
              · have E := HZT.out rfl
                go_wp2_with fail
                go_meet
                rw [E]
                exact ⟨B3, Z3, F3, W3⟩
            case rest =>
              obtain ⟨B1, Z1, F1, W1⟩ := hcut
              obtain ⟨w1, hw1⟩ : ∃ w1, w1 = wc := ⟨_, rfl⟩
              subst hw1
              clear k0 k1 k2 k3 k4 k5 k6 k7 k8 k9 k10 k11 kf0 kf1 kf2 kf3 kf4 kf5 kf6 kf7 kf8 kf9 kf10 kf11 f0 f1 f2 f3 f4 f5 f6 f7 f8 f9 f10 f11 ff0 ff1 ff2 ff3 ff4 ff5 ff6 ff7 ff8 ff9 ff10 ff11 B3 Z3 F3 W3 HZT HZF HIN
              obtain ⟨⟨k0, k1, k2, k3, k4, k5, k6, k7, k8, k9, k10, k11⟩, ⟨kf0, kf1, kf2, kf3, kf4, kf5, kf6, kf7, kf8, kf9, kf10, kf11⟩⟩ := B1.out
              by_cases hs : Some b
              · have HFd := Lib.hid (HYes b hbd hs)
                have HR := Lib.hid (HPP.out b (fun _ => rfl) (fun c => absurd hs c) (fun c => absurd hs c))
                clear hs hbd hfd HYes HNo HPP
                go_upto_region 16 with (go_at_call 49; ((with_reducible refine (HFd.out _).mono ?_); rintro e w4 ⟨x, q, rfl, hx, hb4⟩); have B2 := B1.next hb4; have Z2 := Z1.next hb4; have W2 := bnext W1 hb4 W1.size; clear hb4)
                clear k0 k1 k2 k3 k4 k5 k6 k7 k8 k9 k10 k11 kf0 kf1 kf2 kf3 kf4 kf5 kf6 kf7 kf8 kf9 kf10 kf11 B1 Z1 W1
                obtain ⟨⟨k0, k1, k2, k3, k4, k5, k6, k7, k8, k9, k10, k11⟩, ⟨kf0, kf1, kf2, kf3, kf4, kf5, kf6, kf7, kf8, kf9, kf10, kf11⟩⟩ := B2.out
                obtain ⟨⟨c0, c1, c2, c3, c4, c5, c6, c7, c8, c9, c10, c11⟩, ⟨cf0, cf1, cf2, cf3, cf4, cf5, cf6, cf7, cf8, cf9, cf10, cf11⟩⟩ := Z2.out
                go_cut [] (fun wx => HB wx (w.heap.size + 1) b ∧ Below w.heap.size w wx)
                case first =>
                  go_wp2_with fail
                  go_meet
                  exact ⟨Z2.put12 b, below_set12 W2 (Nat.le_succ _) b⟩
                case rest =>
                  obtain ⟨X1, X2⟩ := hcut
                  rename_i K2 aK2
                  refine aK2 _ _ ?_
                  refine wp_ret ?_
                  (try simp only [Exit.then])
                  exact bodyPost_ret (res_hints rfl _ rfl X1) rfl ⟨b, rfl, HR.out, X2⟩
              · have HFd := Lib.hid (HNo b hbd hs)
                go_upto_region 17 with (go_at_call 49; ((with_reducible refine (HFd.out _).mono ?_); rintro e w4 ⟨rfl, hb4⟩); have F2 := F1.next hb4; have Z2 := Z1.next hb4; have W2 := bnext W1 hb4 W1.size; clear hb4)
                clear k0 k1 k2 k3 k4 k5 k6 k7 k8 k9 k10 k11 kf0 kf1 kf2 kf3 kf4 kf5 kf6 kf7 kf8 kf9 kf10 kf11 B1 Z1 W1 F1
                obtain ⟨⟨k0, k1, k2, k3, k4, k5, k6, k7, k8, k9, k10, k11⟩, ⟨kf0, kf1, kf2, kf3, kf4, kf5, kf6, kf7, kf8, kf9, kf10, kf11⟩⟩ := F2.out
                by_cases hs2 : Some f
                · have HFe := Lib.hid (HYes f hfd hs2)
                  have HR := Lib.hid (HPP.out f (fun c => absurd c hs) (fun _ _ => rfl) (fun _ c => absurd hs2 c))
                  clear hs hs2 hbd hfd HYes HNo HPP
                  go_upto_region 19 with (go_at_call 49; ((with_reducible refine (HFe.out _).mono ?_); rintro e w5 ⟨x, q, rfl, hx, hb5⟩); have F4 := F2.next hb5; have Z4 := Z2.next hb5; have W4 := bnext W2 hb5 W2.size; clear hb5)
                  clear k0 k1 k2 k3 k4 k5 k6 k7 k8 k9 k10 k11 kf0 kf1 kf2 kf3 kf4 kf5 kf6 kf7 kf8 kf9 kf10 kf11 F2 Z2 W2
                  obtain ⟨⟨k0, k1, k2, k3, k4, k5, k6, k7, k8, k9, k10, k11⟩, ⟨kf0, kf1, kf2, kf3, kf4, kf5, kf6, kf7, kf8, kf9, kf10, kf11⟩⟩ := F4.out
                  obtain ⟨⟨c0, c1, c2, c3, c4, c5, c6, c7, c8, c9, c10, c11⟩, ⟨cf0, cf1, cf2, cf3, cf4, cf5, cf6, cf7, cf8, cf9, cf10, cf11⟩⟩ := Z4.out
                  go_cut [] (fun wx => HB wx (w.heap.size + 1) f ∧ Below w.heap.size w wx)
                  case first =>
                    go_wp2_with fail
                    go_meet
                    exact ⟨Z4.put12 f, below_set12 W4 (Nat.le_succ _) f⟩
                  case rest =>
                    obtain ⟨X1, X2⟩ := hcut
                    rename_i K2 aK2
                    refine aK2 _ _ ?_
                    refine wp_ret ?_
                    (try simp only [Exit.then])
                    exact bodyPost_ret (res_hints rfl _ rfl X1) rfl ⟨f, rfl, HR.out, X2⟩
                · have HFe := Lib.hid (HNo f hfd hs2)
                  have HR := Lib.hid (HPP.out (lastH f) (fun c => absurd c hs) (fun _ c => absurd c hs2) (fun _ _ => rfl))
                  clear hs hs2 hbd hfd HYes HNo HPP
                  go_upto_region 20 with (go_at_call 49; ((with_reducible refine (HFe.out _).mono ?_); rintro e w5 ⟨rfl, hb5⟩); have F4 := F2.next hb5; have Z4 := Z2.next hb5; have W4 := bnext W2 hb5 W2.size; clear hb5)
                  clear k0 k1 k2 k3 k4 k5 k6 k7 k8 k9 k10 k11 kf0 kf1 kf2 kf3 kf4 kf5 kf6 kf7 kf8 kf9 kf10 kf11 F2 Z2 W2
                  obtain ⟨⟨k0, k1, k2, k3, k4, k5, k6, k7, k8, k9, k10, k11⟩, ⟨kf0, kf1, kf2, kf3, kf4, kf5, kf6, kf7, kf8, kf9, kf10, kf11⟩⟩ := F4.out
                  go_upto_region 21 with fail
                  have F5 : HB ((((w5.setCell ⟨g, 6, none⟩ (.int .i64 1)).setCell ⟨g, 7, none⟩ (.int .i64 1)).setCell ⟨g, 4, none⟩ (.int .i64 0)).setCell ⟨g, 5, none⟩ (.int .i64 0)) g (lastH f) := Blk.set_ (Blk.set_ (Blk.set_ (Blk.set_ F4 6 (.int .i64 1)) 7 (.int .i64 1)) 4 (.int .i64 0)) 5 (.int .i64 0)
                  have Z5 : HB ((((w5.setCell ⟨g, 6, none⟩ (.int .i64 1)).setCell ⟨g, 7, none⟩ (.int .i64 1)).setCell ⟨g, 4, none⟩ (.int .i64 0)).setCell ⟨g, 5, none⟩ (.int .i64 0)) (w.heap.size + 1) zeroH := (((Z4.far l1 _).far l1 _).far l1 _).far l1 _
                  have W5 : Below w.heap.size w ((((w5.setCell ⟨g, 6, none⟩ (.int .i64 1)).setCell ⟨g, 7, none⟩ (.int .i64 1)).setCell ⟨g, 4, none⟩ (.int .i64 0)).setCell ⟨g, 5, none⟩ (.int .i64 0)) := (((W4.setCell l2 _).setCell l2 _).setCell l2 _).setCell l2 _
                  clear k0 k1 k2 k3 k4 k5 k6 k7 k8 k9 k10 k11 kf0 kf1 kf2 kf3 kf4 kf5 kf6 kf7 kf8 kf9 kf10 kf11 F4 Z4 W4
                  generalize (((w5.setCell ⟨g, 6, none⟩ (.int .i64 1)).setCell ⟨g, 7, none⟩ (.int .i64 1)).setCell ⟨g, 4, none⟩ (.int .i64 0)).setCell ⟨g, 5, none⟩ (.int .i64 0) = w6 at *
                  obtain ⟨⟨k0, k1, k2, k3, k4, k5, k6, k7, k8, k9, k10, k11⟩, ⟨kf0, kf1, kf2, kf3, kf4, kf5, kf6, kf7, kf8, kf9, kf10, kf11⟩⟩ := F5.out
                  obtain ⟨⟨c0, c1, c2, c3, c4, c5, c6, c7, c8, c9, c10, c11⟩, ⟨cf0, cf1, cf2, cf3, cf4, cf5, cf6, cf7, cf8, cf9, cf10, cf11⟩⟩ := Z5.out
                  go_cut [] (fun wx => HB wx (w.heap.size + 1) (lastH f) ∧ Below w.heap.size w wx)
                  case first =>
                    go_wp2_with fail
                    go_meet
                    exact ⟨Z5.put12 (lastH f), below_set12 W5 (Nat.le_succ _) (lastH f)⟩
                  case rest =>
                    obtain ⟨X1, X2⟩ := hcut
                    rename_i K2 aK2
                    refine aK2 _ _ ?_
                    refine wp_ret ?_
                    (try simp only [Exit.then])
                    exact bodyPost_ret (res_hints rfl _ rfl X1) rfl ⟨lastH f, rfl, HR.out, X2⟩
end Sz
end Go.Proofs.Ytdmoncpeoaoppaa
