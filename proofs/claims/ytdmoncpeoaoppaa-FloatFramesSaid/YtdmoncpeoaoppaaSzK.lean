/- Hints compared; some, Normal in the code. -/
import Derived.Test.YtdmoncpeoaoppaaSzJ
namespace Go.Proofs.Ytdmoncpeoaoppaa
open Go.RowKit
namespace Sz
theorem eql_hints (h k : Hn) (w : World) : (binOp .eql 25 (.agg #[.int .i64 h.minW, .int .i64 h.minH, .int .i64 h.maxW, .int .i64 h.maxH, .int .i64 h.baseW, .int .i64 h.baseH, .int .i64 h.incW, .int .i64 h.incH, .int .i64 h.lowX, .int .i64 h.lowY, .int .i64 h.highX, .int .i64 h.highY]) (.agg #[.int .i64 k.minW, .int .i64 k.minH, .int .i64 k.maxW, .int .i64 k.maxH, .int .i64 k.baseW, .int .i64 k.baseH, .int .i64 k.incW, .int .i64 k.incH, .int .i64 k.lowX, .int .i64 k.lowY, .int .i64 k.highX, .int .i64 k.highY])).run Try.prog w = .ok (.bool (eqB h k)) w := by
  simp [go_sem]
  unfold eqB
  by_cases c0 : h.minW = k.minW
  rotate_left
  · simp [c0]
  by_cases c1 : h.minH = k.minH
  rotate_left
  · simp [c1]
  by_cases c2 : h.maxW = k.maxW
  rotate_left
  · simp [c2]
  by_cases c3 : h.maxH = k.maxH
  rotate_left
  · simp [c3]
  by_cases c4 : h.baseW = k.baseW
  rotate_left
  · simp [c4]
  by_cases c5 : h.baseH = k.baseH
  rotate_left
  · simp [c5]
  by_cases c6 : h.incW = k.incW
  rotate_left
  · simp [c6]
  by_cases c7 : h.incH = k.incH
  rotate_left
  · simp [c7]
  by_cases c8 : h.lowX = k.lowX
  rotate_left
  · simp [c8]
  by_cases c9 : h.lowY = k.lowY
  rotate_left
  · simp [c9]
  by_cases c10 : h.highX = k.highX
  rotate_left
  · simp [c10]
  by_cases c11 : h.highY = k.highY
  rotate_left
  · simp [c11]
  simp [c0, c1, c2, c3, c4, c5, c6, c7, c8, c9, c10, c11]
theorem fw_some {h : Hn} {x : Int} {ok : Bool} (k : FwP h 65535 x ok) : ok = true ↔ Some h := by
  rcases k with ⟨rfl, k⟩ | ⟨rfl, k⟩
  · exact ⟨fun _ => ⟨x, k.1⟩, fun _ => rfl⟩
  · exact ⟨fun c => (by cases c), fun ⟨z, hz⟩ => absurd hz (k z)⟩
theorem some_hc (h : Hn) (hb : Bd h) (w : World) : Calls Try.prog 73 #[.agg #[.int .i64 h.minW, .int .i64 h.minH, .int .i64 h.maxW, .int .i64 h.maxH, .int .i64 h.baseW, .int .i64 h.baseH, .int .i64 h.incW, .int .i64 h.incH, .int .i64 h.lowX, .int .i64 h.lowY, .int .i64 h.highX, .int .i64 h.highY]] w fun e w' => ∃ b, e = .returned (.bool b) ∧ (b = true ↔ Some h) ∧ Below w.heap.size w w' := by
  have W0 : Below w.heap.size w (w.alloc (.cells (#[.int .i64 h.minW, .int .i64 h.minH, .int .i64 h.maxW, .int .i64 h.maxH, .int .i64 h.baseW, .int .i64 h.baseH, .int .i64 h.incW, .int .i64 h.incH, .int .i64 h.lowX, .int .i64 h.lowY, .int .i64 h.highX, .int .i64 h.highY]) 25)) := by repeat' (first | (with_reducible exact Below.refl _ _) | (with_reducible assumption) | (with_reducible refine Below.alloc ?_ ?_ _) | (with_reducible refine Below.drew ?_) | (with_reducible refine Below.setCell ?_ ?_ _) | (with_reducible refine Below.on (by with_reducible assumption) ?_ ?_) | go_size)
  go_enter Try.func73, Try.ntmps73
  go_wp2_with (go_at_call 59; ((with_reducible refine (fitWidth_c h hb 65535 (by omega) (by omega) _).mono ?_); rintro e w1 ⟨x, ok, rfl, hP, hb1⟩); skip)
  go_ret
  exact ⟨_, rfl, fw_some hP, bnext W0 hb1 W0.size⟩
theorem some_yes {h : Hn} (hb : Bd h) (hs : Some h) (w : World) : Calls Try.prog 73 #[.agg #[.int .i64 h.minW, .int .i64 h.minH, .int .i64 h.maxW, .int .i64 h.maxH, .int .i64 h.baseW, .int .i64 h.baseH, .int .i64 h.incW, .int .i64 h.incH, .int .i64 h.lowX, .int .i64 h.lowY, .int .i64 h.highX, .int .i64 h.highY]] w fun e w' => e = .returned (.bool true) ∧ Below w.heap.size w w' :=
  (some_hc h hb w).mono (by rintro e w1 ⟨b, rfl, hb1, hb2⟩; exact ⟨by rw [hb1.2 hs], hb2⟩)
theorem some_no {h : Hn} (hb : Bd h) (hs : ¬ Some h) (w : World) : Calls Try.prog 73 #[.agg #[.int .i64 h.minW, .int .i64 h.minH, .int .i64 h.maxW, .int .i64 h.maxH, .int .i64 h.baseW, .int .i64 h.baseH, .int .i64 h.incW, .int .i64 h.incH, .int .i64 h.lowX, .int .i64 h.lowY, .int .i64 h.highX, .int .i64 h.highY]] w fun e w' => e = .returned (.bool false) ∧ Below w.heap.size w w' :=
  (some_hc h hb w).mono (by rintro e w1 ⟨b, rfl, hb1, hb2⟩; exact ⟨by cases b; rfl; exact absurd (hb1.1 rfl) hs, hb2⟩)
set_option maxHeartbeats 2000000 in
theorem normal_c (h : Hn) (w : World) : Calls Try.prog 58 #[.agg #[.int .i64 h.minW, .int .i64 h.minH, .int .i64 h.maxW, .int .i64 h.maxH, .int .i64 h.baseW, .int .i64 h.baseH, .int .i64 h.incW, .int .i64 h.incH, .int .i64 h.lowX, .int .i64 h.lowY, .int .i64 h.highX, .int .i64 h.highY]] w fun e w' => ∃ n, e = .returned (.agg #[.int .i64 n.minW, .int .i64 n.minH, .int .i64 n.maxW, .int .i64 n.maxH, .int .i64 n.baseW, .int .i64 n.baseH, .int .i64 n.incW, .int .i64 n.incH, .int .i64 n.lowX, .int .i64 n.lowY, .int .i64 n.highX, .int .i64 n.highY]) ∧ NormP h n ∧ Below w.heap.size w w' := by
  have A0 := (HB.new w h).alloc (.cells #[.int .i64 0, .int .i64 0, .int .i64 0, .int .i64 0, .int .i64 0, .int .i64 0, .int .i64 0, .int .i64 0, .int .i64 0, .int .i64 0, .int .i64 0, .int .i64 0] 25)
  have Z0 := HB.zero (w.alloc (.cells (#[.int .i64 h.minW, .int .i64 h.minH, .int .i64 h.maxW, .int .i64 h.maxH, .int .i64 h.baseW, .int .i64 h.baseH, .int .i64 h.incW, .int .i64 h.incH, .int .i64 h.lowX, .int .i64 h.lowY, .int .i64 h.highX, .int .i64 h.highY]) 25))
  simp only [World.size_alloc] at Z0
  have W0 : Below w.heap.size w ((w.alloc (.cells (#[.int .i64 h.minW, .int .i64 h.minH, .int .i64 h.maxW, .int .i64 h.maxH, .int .i64 h.baseW, .int .i64 h.baseH, .int .i64 h.incW, .int .i64 h.incH, .int .i64 h.lowX, .int .i64 h.lowY, .int .i64 h.highX, .int .i64 h.highY]) 25)).alloc (.cells #[.int .i64 0, .int .i64 0, .int .i64 0, .int .i64 0, .int .i64 0, .int .i64 0, .int .i64 0, .int .i64 0, .int .i64 0, .int .i64 0, .int .i64 0, .int .i64 0] 25)) := by repeat' (first | (with_reducible exact Below.refl _ _) | (with_reducible assumption) | (with_reducible refine Below.alloc ?_ ?_ _) | (with_reducible refine Below.drew ?_) | (with_reducible refine Below.setCell ?_ ?_ _) | (with_reducible refine Below.on (by with_reducible assumption) ?_ ?_) | go_size)
  have ne : w.heap.size + 1 ≠ w.heap.size := by omega
  have hbd := bounded_bd h
  have HP : ∀ n, (Some (bounded h) → n = bounded h) → (¬ Some (bounded h) → Some (freeH (bounded h)) → n = freeH (bounded h)) → (¬ Some (bounded h) → ¬ Some (freeH (bounded h)) → n = lastH (freeH (bounded h))) → NormP h n := fun n a b c => ⟨a, b, c⟩
  obtain ⟨k, hk⟩ : ∃ k, bounded h = k := ⟨_, rfl⟩
  have HBo := Lib.hid (fun W : World => bounded_c h W)
  rw [hk] at HP HBo hbd
  have HPP := Lib.hid HP
  clear HP hk
  obtain ⟨f, hf⟩ : ∃ f, freeH k = f := ⟨_, rfl⟩
  have hfd : Bd f := by rw [← hf]; exact free_bd hbd.w hbd.t
  have HF := Lib.hid (fun W : World => free_c k W)
  rw [hf] at HF HPP
  clear hf
  have post : ∀ (W2 : World) (n : Hn), HB W2 w.heap.size n → True := fun _ _ _ => trivial
  clear post
  go_enter Try.func58, Try.ntmps58
  go_upto_region 2 with (go_at_call 72; ((with_reducible refine (HBo.out _).mono ?_); rintro e w1 ⟨rfl, hb1⟩); have A1 := A0.next hb1; have Z1 := Z0.next hb1; have W1 := bnext W0 hb1 W0.size; obtain ⟨⟨k0, k1, k2, k3, k4, k5, k6, k7, k8, k9, k10, k11⟩, ⟨kf0, kf1, kf2, kf3, kf4, kf5, kf6, kf7, kf8, kf9, kf10, kf11⟩⟩ := A1.out)
  have A2 := A1.put12 k
  have Z2 := Z1.far12 ne k
  have W2 := below_set12 W1 (Nat.le_refl _) k
  clear k0 k1 k2 k3 k4 k5 k6 k7 k8 k9 k10 k11 kf0 kf1 kf2 kf3 kf4 kf5 kf6 kf7 kf8 kf9 kf10 kf11 A1 Z1 W1 A0 Z0 W0 hb1
  generalize (World.setCell (World.setCell (World.setCell (World.setCell (World.setCell (World.setCell (World.setCell (World.setCell (World.setCell (World.setCell (World.setCell (World.setCell w1 ⟨w.heap.size, 0, none⟩ (.int .i64 k.minW)) ⟨w.heap.size, 1, none⟩ (.int .i64 k.minH)) ⟨w.heap.size, 2, none⟩ (.int .i64 k.maxW)) ⟨w.heap.size, 3, none⟩ (.int .i64 k.maxH)) ⟨w.heap.size, 4, none⟩ (.int .i64 k.baseW)) ⟨w.heap.size, 5, none⟩ (.int .i64 k.baseH)) ⟨w.heap.size, 6, none⟩ (.int .i64 k.incW)) ⟨w.heap.size, 7, none⟩ (.int .i64 k.incH)) ⟨w.heap.size, 8, none⟩ (.int .i64 k.lowX)) ⟨w.heap.size, 9, none⟩ (.int .i64 k.lowY)) ⟨w.heap.size, 10, none⟩ (.int .i64 k.highX)) ⟨w.heap.size, 11, none⟩ (.int .i64 k.highY)) = w2 at *
  clear w1
  obtain ⟨⟨k0, k1, k2, k3, k4, k5, k6, k7, k8, k9, k10, k11⟩, ⟨kf0, kf1, kf2, kf3, kf4, kf5, kf6, kf7, kf8, kf9, kf10, kf11⟩⟩ := A2.out
  by_cases hs : Some k
  · have HS := Lib.hid (fun W : World => some_yes hbd hs W)
    have HR := Lib.hid (HPP.out k (fun _ => rfl) (fun c => absurd hs c) (fun c => absurd hs c))
    clear hs hbd hfd
    go_upto_region 4 with (go_at_call 73; ((with_reducible refine (HS.out _).mono ?_); rintro e w3 ⟨rfl, hb3⟩); have A3 := A2.next hb3; have Z3 := Z2.next hb3; have W3 := bnext W2 hb3 W2.size; clear hb3)
    clear k0 k1 k2 k3 k4 k5 k6 k7 k8 k9 k10 k11 kf0 kf1 kf2 kf3 kf4 kf5 kf6 kf7 kf8 kf9 kf10 kf11 A2 Z2 W2
    obtain ⟨⟨k0, k1, k2, k3, k4, k5, k6, k7, k8, k9, k10, k11⟩, ⟨kf0, kf1, kf2, kf3, kf4, kf5, kf6, kf7, kf8, kf9, kf10, kf11⟩⟩ := A3.out
    go_upto_region 6 with (go_at_call 73; ((with_reducible refine (HS.out _).mono ?_); rintro e w4 ⟨rfl, hb4⟩); have A4 := A3.next hb4; have Z4 := Z3.next hb4; have W4 := bnext W3 hb4 W3.size; clear hb4)
    clear k0 k1 k2 k3 k4 k5 k6 k7 k8 k9 k10 k11 kf0 kf1 kf2 kf3 kf4 kf5 kf6 kf7 kf8 kf9 kf10 kf11 A3 Z3 W3
    obtain ⟨⟨k0, k1, k2, k3, k4, k5, k6, k7, k8, k9, k10, k11⟩, ⟨kf0, kf1, kf2, kf3, kf4, kf5, kf6, kf7, kf8, kf9, kf10, kf11⟩⟩ := A4.out
    obtain ⟨⟨c0, c1, c2, c3, c4, c5, c6, c7, c8, c9, c10, c11⟩, ⟨cf0, cf1, cf2, cf3, cf4, cf5, cf6, cf7, cf8, cf9, cf10, cf11⟩⟩ := Z4.out
    go_wp2_with fail
    exact bodyPost_ret (v := .agg #[.int .i64 k.minW, .int .i64 k.minH, .int .i64 k.maxW, .int .i64 k.maxH, .int .i64 k.baseW, .int .i64 k.baseH, .int .i64 k.incW, .int .i64 k.incH, .int .i64 k.lowX, .int .i64 k.lowY, .int .i64 k.highX, .int .i64 k.highY]) (by simp [results, Try.results58, go_sem, c0, c1, c2, c3, c4, c5, c6, c7, c8, c9, c10, c11]) rfl ⟨k, rfl, HR.out, by repeat' (first | (with_reducible exact Below.refl _ _) | (with_reducible assumption) | (with_reducible refine Below.alloc ?_ ?_ _) | (with_reducible refine Below.drew ?_) | (with_reducible refine Below.setCell ?_ ?_ _) | (with_reducible refine Below.on (by with_reducible assumption) ?_ ?_) | go_size)⟩
  · have HS := Lib.hid (fun W : World => some_no hbd hs W)
    go_upto_region 3 with (go_at_call 73; ((with_reducible refine (HS.out _).mono ?_); rintro e w3 ⟨rfl, hb3⟩); have A3 := A2.next hb3; have Z3 := Z2.next hb3; have W3 := bnext W2 hb3 W2.size; clear hb3)
    clear k0 k1 k2 k3 k4 k5 k6 k7 k8 k9 k10 k11 kf0 kf1 kf2 kf3 kf4 kf5 kf6 kf7 kf8 kf9 kf10 kf11 A2 Z2 W2
    obtain ⟨⟨k0, k1, k2, k3, k4, k5, k6, k7, k8, k9, k10, k11⟩, ⟨kf0, kf1, kf2, kf3, kf4, kf5, kf6, kf7, kf8, kf9, kf10, kf11⟩⟩ := A3.out
    go_upto_region 4 with (go_at_call 74; ((with_reducible refine (HF.out _).mono ?_); rintro e w4 ⟨rfl, hb4⟩); have A4 := A3.next hb4; have Z4 := Z3.next hb4; have W4 := bnext W3 hb4 W3.size; clear hb4; clear k0 k1 k2 k3 k4 k5 k6 k7 k8 k9 k10 k11 kf0 kf1 kf2 kf3 kf4 kf5 kf6 kf7 kf8 kf9 kf10 kf11; obtain ⟨⟨k0, k1, k2, k3, k4, k5, k6, k7, k8, k9, k10, k11⟩, ⟨kf0, kf1, kf2, kf3, kf4, kf5, kf6, kf7, kf8, kf9, kf10, kf11⟩⟩ := A4.out)
    have A5 := A4.put12 f
    have Z5 := Z4.far12 ne f
    have W5 := below_set12 W4 (Nat.le_refl _) f
    clear k0 k1 k2 k3 k4 k5 k6 k7 k8 k9 k10 k11 kf0 kf1 kf2 kf3 kf4 kf5 kf6 kf7 kf8 kf9 kf10 kf11 A3 Z3 W3 A4 Z4 W4
    generalize (World.setCell (World.setCell (World.setCell (World.setCell (World.setCell (World.setCell (World.setCell (World.setCell (World.setCell (World.setCell (World.setCell (World.setCell w4 ⟨w.heap.size, 0, none⟩ (.int .i64 f.minW)) ⟨w.heap.size, 1, none⟩ (.int .i64 f.minH)) ⟨w.heap.size, 2, none⟩ (.int .i64 f.maxW)) ⟨w.heap.size, 3, none⟩ (.int .i64 f.maxH)) ⟨w.heap.size, 4, none⟩ (.int .i64 f.baseW)) ⟨w.heap.size, 5, none⟩ (.int .i64 f.baseH)) ⟨w.heap.size, 6, none⟩ (.int .i64 f.incW)) ⟨w.heap.size, 7, none⟩ (.int .i64 f.incH)) ⟨w.heap.size, 8, none⟩ (.int .i64 f.lowX)) ⟨w.heap.size, 9, none⟩ (.int .i64 f.lowY)) ⟨w.heap.size, 10, none⟩ (.int .i64 f.highX)) ⟨w.heap.size, 11, none⟩ (.int .i64 f.highY)) = w5 at *
    obtain ⟨⟨k0, k1, k2, k3, k4, k5, k6, k7, k8, k9, k10, k11⟩, ⟨kf0, kf1, kf2, kf3, kf4, kf5, kf6, kf7, kf8, kf9, kf10, kf11⟩⟩ := A5.out
    by_cases hs2 : Some f
    · have HS2 := Lib.hid (fun W : World => some_yes hfd hs2 W)
      have HR := Lib.hid (HPP.out f (fun c => absurd c hs) (fun _ _ => rfl) (fun _ c => absurd hs2 c))
      clear hs hs2 hbd hfd
      go_upto_region 6 with (go_at_call 73; ((with_reducible refine (HS2.out _).mono ?_); rintro e w6 ⟨rfl, hb6⟩); have A6 := A5.next hb6; have Z6 := Z5.next hb6; have W6 := bnext W5 hb6 W5.size; clear hb6)
      clear k0 k1 k2 k3 k4 k5 k6 k7 k8 k9 k10 k11 kf0 kf1 kf2 kf3 kf4 kf5 kf6 kf7 kf8 kf9 kf10 kf11 A5 Z5 W5
      obtain ⟨⟨k0, k1, k2, k3, k4, k5, k6, k7, k8, k9, k10, k11⟩, ⟨kf0, kf1, kf2, kf3, kf4, kf5, kf6, kf7, kf8, kf9, kf10, kf11⟩⟩ := A6.out
      obtain ⟨⟨c0, c1, c2, c3, c4, c5, c6, c7, c8, c9, c10, c11⟩, ⟨cf0, cf1, cf2, cf3, cf4, cf5, cf6, cf7, cf8, cf9, cf10, cf11⟩⟩ := Z6.out
      go_wp2_with fail
      exact bodyPost_ret (v := .agg #[.int .i64 f.minW, .int .i64 f.minH, .int .i64 f.maxW, .int .i64 f.maxH, .int .i64 f.baseW, .int .i64 f.baseH, .int .i64 f.incW, .int .i64 f.incH, .int .i64 f.lowX, .int .i64 f.lowY, .int .i64 f.highX, .int .i64 f.highY]) (by simp [results, Try.results58, go_sem, c0, c1, c2, c3, c4, c5, c6, c7, c8, c9, c10, c11]) rfl ⟨f, rfl, HR.out, by repeat' (first | (with_reducible exact Below.refl _ _) | (with_reducible assumption) | (with_reducible refine Below.alloc ?_ ?_ _) | (with_reducible refine Below.drew ?_) | (with_reducible refine Below.setCell ?_ ?_ _) | (with_reducible refine Below.on (by with_reducible assumption) ?_ ?_) | go_size)⟩
    · have HS2 := Lib.hid (fun W : World => some_no hfd hs2 W)
      have HR := Lib.hid (HPP.out (lastH f) (fun c => absurd c hs) (fun _ c => absurd c hs2) (fun _ _ => rfl))
      clear hs hs2 hbd hfd
      go_upto_region 6 with (go_at_call 73; ((with_reducible refine (HS2.out _).mono ?_); rintro e w6 ⟨rfl, hb6⟩); have A6 := A5.next hb6; have Z6 := Z5.next hb6; have W6 := bnext W5 hb6 W5.size; clear hb6; clear k0 k1 k2 k3 k4 k5 k6 k7 k8 k9 k10 k11 kf0 kf1 kf2 kf3 kf4 kf5 kf6 kf7 kf8 kf9 kf10 kf11; obtain ⟨⟨k0, k1, k2, k3, k4, k5, k6, k7, k8, k9, k10, k11⟩, ⟨kf0, kf1, kf2, kf3, kf4, kf5, kf6, kf7, kf8, kf9, kf10, kf11⟩⟩ := A6.out)
      clear A5 Z5 W5
      obtain ⟨⟨c0, c1, c2, c3, c4, c5, c6, c7, c8, c9, c10, c11⟩, ⟨cf0, cf1, cf2, cf3, cf4, cf5, cf6, cf7, cf8, cf9, cf10, cf11⟩⟩ := Z6.out
      go_wp2_with fail
      exact bodyPost_ret (v := .agg #[.int .i64 (lastH f).minW, .int .i64 (lastH f).minH, .int .i64 (lastH f).maxW, .int .i64 (lastH f).maxH, .int .i64 (lastH f).baseW, .int .i64 (lastH f).baseH, .int .i64 (lastH f).incW, .int .i64 (lastH f).incH, .int .i64 (lastH f).lowX, .int .i64 (lastH f).lowY, .int .i64 (lastH f).highX, .int .i64 (lastH f).highY]) (by simp [results, Try.results58, go_sem, c0, c1, c2, c3, c4, c5, c6, c7, c8, c9, c10, c11, lastH]) rfl ⟨lastH f, rfl, HR.out, by repeat' (first | (with_reducible exact Below.refl _ _) | (with_reducible assumption) | (with_reducible refine Below.alloc ?_ ?_ _) | (with_reducible refine Below.drew ?_) | (with_reducible refine Below.setCell ?_ ?_ _) | (with_reducible refine Below.on (by with_reducible assumption) ?_ ?_) | go_size)⟩
end Sz
end Go.Proofs.Ytdmoncpeoaoppaa
