/- Sides in the code: heights, widths. -/
import Derived.Test.YtdmoncpeoaoppaaSzE
import Derived.Deep.DeepCutAuto
namespace Go.Proofs.Ytdmoncpeoaoppaa
open Go.RowKit
namespace Sz
set_option maxHeartbeats 2000000 in
theorem heights_c (h : Hn) (hb : Bd h) (x : Int) (x1 : 0 ≤ x) (x2 : x ≤ 65535) (w : World) : Calls Try.prog 61 #[.agg #[.int .i64 h.minW, .int .i64 h.minH, .int .i64 h.maxW, .int .i64 h.maxH, .int .i64 h.baseW, .int .i64 h.baseH, .int .i64 h.incW, .int .i64 h.incH, .int .i64 h.lowX, .int .i64 h.lowY, .int .i64 h.highX, .int .i64 h.highY], .int .i64 x] w fun e w' => e = .returned (.agg #[.int .i64 (heightsS h x).l, .int .i64 (heightsS h x).m, .int .i64 (heightsS h x).b, .int .i64 (heightsS h x).i]) ∧ Below w.heap.size w w' := by
  have A0 := ((HB.new w h).alloc (.cells #[.int .i64 0, .int .i64 0, .int .i64 0, .int .i64 0] 70))
  have A1 := SB.zero (w.alloc (.cells (#[.int .i64 h.minW, .int .i64 h.minH, .int .i64 h.maxW, .int .i64 h.maxH, .int .i64 h.baseW, .int .i64 h.baseH, .int .i64 h.incW, .int .i64 h.incH, .int .i64 h.lowX, .int .i64 h.lowY, .int .i64 h.highX, .int .i64 h.highY]) 25))
  simp only [World.size_alloc] at A1
  by_cases h0 : h.lowX = 0
  · have E : heightsS h x = tallS h := by unfold heightsS; rw [if_pos h0]
    rw [E]; clear E hb
    have h1 : (h.lowX == 0) = true := by simp [h0]
    clear h0
    obtain ⟨s, hs⟩ : ∃ s, tallS h = s := ⟨_, rfl⟩
    rw [hs]
    have HT := Lib.hid (fun W : World => tall_c h W)
    rw [hs] at HT; clear hs
    have W0 : Below w.heap.size w ((w.alloc (.cells (#[.int .i64 h.minW, .int .i64 h.minH, .int .i64 h.maxW, .int .i64 h.maxH, .int .i64 h.baseW, .int .i64 h.baseH, .int .i64 h.incW, .int .i64 h.incH, .int .i64 h.lowX, .int .i64 h.lowY, .int .i64 h.highX, .int .i64 h.highY]) 25)).alloc (.cells #[.int .i64 0, .int .i64 0, .int .i64 0, .int .i64 0] 70)) := by repeat' (first | (with_reducible exact Below.refl _ _) | (with_reducible assumption) | (with_reducible refine Below.alloc ?_ ?_ _) | (with_reducible refine Below.drew ?_) | (with_reducible refine Below.setCell ?_ ?_ _) | (with_reducible refine Below.on (by with_reducible assumption) ?_ ?_) | go_size)
    go_enter Try.func61, Try.ntmps61
    go_upto_region 2 with (go_at_call 75; ((with_reducible refine (HT.out _).mono ?_); rintro e w1 ⟨rfl, hb⟩; have B1 := A0.next hb; have C1 := A1.next hb; have W1 : Below w.heap.size w w1 := W0.trans (hb.mono W0.size); clear A0 A1 W0 hb))
    have z0 := B1.raw.lt
    have z1 := C1.raw.lt
    have B2 := B1.alloc (.cells (#[.int .i64 s.l, .int .i64 s.m, .int .i64 s.b, .int .i64 s.i]) 70)
    have C2 := C1.alloc (.cells (#[.int .i64 s.l, .int .i64 s.m, .int .i64 s.b, .int .i64 s.i]) 70)
    have D2 := SB.new w1 s
    have W2 : Below w.heap.size w (w1.alloc (.cells (#[.int .i64 s.l, .int .i64 s.m, .int .i64 s.b, .int .i64 s.i]) 70)) := W1.alloc (by omega) _
    clear B1 C1 W1
    generalize w1.alloc (.cells (#[.int .i64 s.l, .int .i64 s.m, .int .i64 s.b, .int .i64 s.i]) 70) = w2 at *
    generalize w1.heap.size = g at *
    have W2s : w.heap.size ≤ w2.heap.size := W2.size
    obtain ⟨⟨k0, k1, k2, k3, k4, k5, k6, k7, k8, k9, k10, k11⟩, ⟨kf0, kf1, kf2, kf3, kf4, kf5, kf6, kf7, kf8, kf9, kf10, kf11⟩⟩ := B2.out
    obtain ⟨⟨c0, c1, c2, c3⟩, ⟨cf0, cf1, cf2, cf3⟩⟩ := C2.out
    obtain ⟨⟨d0, d1, d2, d3⟩, ⟨df0, df1, df2, df3⟩⟩ := D2.out
    go_wp2_with fail
    exact bodyPost_ret (v := .agg #[.int .i64 s.l, .int .i64 s.m, .int .i64 s.b, .int .i64 s.i]) (by simp [results, Try.results61, go_sem, c0, c1, c2, c3]) rfl ⟨rfl, by repeat' (first | (with_reducible exact Below.refl _ _) | (with_reducible assumption) | (with_reducible refine Below.alloc ?_ ?_ _) | (with_reducible refine Below.drew ?_) | (with_reducible refine Below.setCell ?_ ?_ _) | (with_reducible refine Below.on (by with_reducible assumption) ?_ ?_) | go_size)⟩
  · rcases hb.a with ⟨ha, -⟩ | ha
    · exact absurd ha h0
    obtain ⟨a1, a2, b1, b2, c1', c2', d1, d2, -⟩ := ha
    have p1 := mul_b x1 x2 (by omega : 0 ≤ h.highY) d2
    have p2 := mul_b x1 x2 (by omega : 0 ≤ h.lowY) b2
    obtain ⟨P, hP⟩ : ∃ P, x * h.highY = P := ⟨_, rfl⟩
    obtain ⟨Q, hQ⟩ : ∃ Q, x * h.lowY = Q := ⟨_, rfl⟩
    rw [hP] at p1; rw [hQ] at p2
    have E : heightsS h x = inS (tallS h) (qUp P h.highX) (Q / h.lowX) := by unfold heightsS; rw [if_neg h0, hP, hQ]
    rw [E]; clear E hb
    obtain ⟨s, hs⟩ : ∃ s, tallS h = s := ⟨_, rfl⟩
    rw [hs]
    have HT := Lib.hid (fun W : World => tall_c h W)
    rw [hs] at HT; clear hs
    have HI := Lib.hid (fun W : World => within_c s P h.highX Q h.lowX p1.1 p1.2 c1' c2' p2.1 p2.2 a1 a2 W)
    obtain ⟨v, hv⟩ : ∃ v, inS s (qUp P h.highX) (Q / h.lowX) = v := ⟨_, rfl⟩
    rw [hv] at HI; rw [hv]; clear hv
    have h1 : (h.lowX == 0) = false := by simp [h0]
    have f1 : IntKind.i64.wrap P = P := IntWalk.i64_in _ (by omega)
    have f2 : IntKind.i64.wrap Q = Q := IntWalk.i64_in _ (by omega)
    clear h0 a1 a2 b1 b2 c1' c2' d1 d2 p1 p2
    have W0 : Below w.heap.size w ((w.alloc (.cells (#[.int .i64 h.minW, .int .i64 h.minH, .int .i64 h.maxW, .int .i64 h.maxH, .int .i64 h.baseW, .int .i64 h.baseH, .int .i64 h.incW, .int .i64 h.incH, .int .i64 h.lowX, .int .i64 h.lowY, .int .i64 h.highX, .int .i64 h.highY]) 25)).alloc (.cells #[.int .i64 0, .int .i64 0, .int .i64 0, .int .i64 0] 70)) := by repeat' (first | (with_reducible exact Below.refl _ _) | (with_reducible assumption) | (with_reducible refine Below.alloc ?_ ?_ _) | (with_reducible refine Below.drew ?_) | (with_reducible refine Below.setCell ?_ ?_ _) | (with_reducible refine Below.on (by with_reducible assumption) ?_ ?_) | go_size)
    go_enter Try.func61, Try.ntmps61
    go_upto_region 2 with (go_at_call 75; ((with_reducible refine (HT.out _).mono ?_); rintro e w1 ⟨rfl, hb⟩; have B1 := A0.next hb; have C1 := A1.next hb; have W1 : Below w.heap.size w w1 := W0.trans (hb.mono W0.size); clear A0 A1 W0 hb))
    have z0 := B1.raw.lt
    have z1 := C1.raw.lt
    have B2 := B1.alloc (.cells (#[.int .i64 s.l, .int .i64 s.m, .int .i64 s.b, .int .i64 s.i]) 70)
    have C2 := C1.alloc (.cells (#[.int .i64 s.l, .int .i64 s.m, .int .i64 s.b, .int .i64 s.i]) 70)
    have D2 := SB.new w1 s
    have W2 : Below w.heap.size w (w1.alloc (.cells (#[.int .i64 s.l, .int .i64 s.m, .int .i64 s.b, .int .i64 s.i]) 70)) := W1.alloc (by omega) _
    clear B1 C1 W1
    generalize w1.alloc (.cells (#[.int .i64 s.l, .int .i64 s.m, .int .i64 s.b, .int .i64 s.i]) 70) = w2 at *
    generalize w1.heap.size = g at *
    have W2s : w.heap.size ≤ w2.heap.size := W2.size
    obtain ⟨⟨k0, k1, k2, k3, k4, k5, k6, k7, k8, k9, k10, k11⟩, ⟨kf0, kf1, kf2, kf3, kf4, kf5, kf6, kf7, kf8, kf9, kf10, kf11⟩⟩ := B2.out
    obtain ⟨⟨c0, c1, c2, c3⟩, ⟨cf0, cf1, cf2, cf3⟩⟩ := C2.out
    obtain ⟨⟨d0, d1, d2, d3⟩, ⟨df0, df1, df2, df3⟩⟩ := D2.out
    go_wp2_with (go_at_call 81; ((with_reducible refine (HI.out _).mono ?_); rintro e w3 ⟨rfl, hc⟩; have C3 := C2.next hc; clear c0 c1 c2 c3 cf0 cf1 cf2 cf3; obtain ⟨⟨c0, c1, c2, c3⟩, ⟨cf0, cf1, cf2, cf3⟩⟩ := C3.out))
    exact bodyPost_ret (v := .agg #[.int .i64 v.l, .int .i64 v.m, .int .i64 v.b, .int .i64 v.i]) (by simp [results, Try.results61, go_sem, c0, c1, c2, c3]) rfl ⟨rfl, by repeat' (first | (with_reducible exact Below.refl _ _) | (with_reducible assumption) | (with_reducible refine Below.alloc ?_ ?_ _) | (with_reducible refine Below.drew ?_) | (with_reducible refine Below.setCell ?_ ?_ _) | (with_reducible refine Below.on (by with_reducible assumption) ?_ ?_) | go_size)⟩
end Sz
end Go.Proofs.Ytdmoncpeoaoppaa
