/- Sides in the code: within, heights, widths. -/
import Derived.Test.YtdmoncpeoaoppaaSzD
import Derived.Deep.RegionHeld3
import Derived.Deep.RegionLaw
namespace Go.Proofs.Ytdmoncpeoaoppaa
open Go.RowKit
namespace Sz
set_option maxHeartbeats 2000000 in
theorem within_c (s : Sd) (a b c d : Int) (a1 : 0 ≤ a) (a2 : a ≤ 4294836225) (b1 : 1 ≤ b) (b2 : b ≤ 65535) (c1 : 0 ≤ c) (c2 : c ≤ 4294836225) (d1 : 1 ≤ d) (d2 : d ≤ 65535) (w : World) : Calls Try.prog 81 #[.agg #[.int .i64 s.l, .int .i64 s.m, .int .i64 s.b, .int .i64 s.i], .agg #[.int .i64 a, .int .i64 b], .agg #[.int .i64 c, .int .i64 d]] w fun e w' => e = .returned (.agg #[.int .i64 (inS s (qUp a b) (c / d)).l, .int .i64 (inS s (qUp a b) (c / d)).m, .int .i64 (inS s (qUp a b) (c / d)).b, .int .i64 (inS s (qUp a b) (c / d)).i]) ∧ Below w.heap.size w w' := by
  have HU := Lib.hid (fun W : World => qup_c a b a1 a2 b1 b2 W)
  have HD := Lib.hid (fun W : World => qdown_c c d c1 c2 d1 d2 W)
  obtain ⟨u, hu⟩ : ∃ u, qUp a b = u := ⟨_, rfl⟩
  obtain ⟨v, hv⟩ : ∃ v, c / d = v := ⟨_, rfl⟩
  have E : inS s (qUp a b) (c / d) = ⟨max s.l u, min s.m v, s.b, s.i⟩ := by rw [hu, hv]; rfl
  rw [E]; rw [hu] at HU; rw [hv] at HD; clear E hu hv
  go_enter Try.func81, Try.ntmps81
  have hL : (if s.l < u then u else s.l) = max s.l u := by omega
  obtain ⟨L, hL2⟩ : ∃ L, max s.l u = L := ⟨_, rfl⟩
  rw [hL2] at hL; rw [hL2]; clear hL2
  have hM : (if v < s.m then v else s.m) = min s.m v := by omega
  have hM' : (if s.m ≤ v then s.m else v) = min s.m v := by omega
  obtain ⟨M, hM2⟩ : ∃ M, min s.m v = M := ⟨_, rfl⟩
  rw [hM2] at hM hM'; rw [hM2]; clear hM2
  go_wp2_with fail
  have A0 := SB.new w s
  have B0 : SB _ w.heap.size s := ((A0.alloc (.cells #[.int .i64 a, .int .i64 b] 80)).alloc (.cells #[.int .i64 c, .int .i64 d] 80)).alloc (.cells #[.int .i64 0, .int .i64 0, .int .i64 0, .int .i64 0] 70)
  go_region_law (go_simp; (go_at_call 88; (with_reducible refine (HU.out _).mono ?_); rintro e w1 ⟨rfl, hb⟩; have B1 := (SB.drew B0).next hb; obtain ⟨⟨k0, k1, k2, k3⟩, ⟨kf0, kf1, kf2, kf3⟩⟩ := B1.out))
  all_goals
    have Z1 : SB (w1.setCell ⟨w.heap.size, 0, none⟩ (.int .i64 L)) w.heap.size ⟨L, s.m, s.b, s.i⟩ := Blk.set_ B1 0 _
    have C0 := (SB.zero (((w.alloc (.cells #[.int .i64 s.l, .int .i64 s.m, .int .i64 s.b, .int .i64 s.i] 70)).alloc (.cells #[.int .i64 a, .int .i64 b] 80)).alloc (.cells #[.int .i64 c, .int .i64 d] 80)))
    simp only [World.size_alloc] at C0
    have C1 := ((SB.drew C0).next hb).far (p := ⟨w.heap.size, 0, none⟩) (by show _ ≠ _; simp only []; omega) (.int .i64 L)
    have D0 := (Blk.new ((w.alloc (.cells #[.int .i64 s.l, .int .i64 s.m, .int .i64 s.b, .int .i64 s.i] 70)).alloc (.cells #[.int .i64 a, .int .i64 b] 80)) 80 #[.int .i64 c, .int .i64 d]).alloc (.cells #[.int .i64 0, .int .i64 0, .int .i64 0, .int .i64 0] 70)
    simp only [World.size_alloc] at D0
    have D1 := ((Blk.drew D0).next hb).far (p := ⟨w.heap.size, 0, none⟩) (by show _ ≠ _; simp only []; omega) (.int .i64 L)
    have W1 : Below w.heap.size w (w1.setCell ⟨w.heap.size, 0, none⟩ (.int .i64 L)) := by repeat' (first | (with_reducible exact Below.refl _ _) | (with_reducible assumption) | (with_reducible refine Below.alloc ?_ ?_ _) | (with_reducible refine Below.drew ?_) | (with_reducible refine Below.setCell ?_ ?_ _) | (with_reducible refine Below.on (by with_reducible assumption) ?_ ?_) | go_size)
    clear hL A0 B0 B1 hb C0 D0 k0 k1 k2 k3 kf0 kf1 kf2 kf3
    generalize w1.setCell ⟨w.heap.size, 0, none⟩ (.int .i64 L) = w2 at Z1 C1 D1 W1
    obtain ⟨⟨z0, z1, z2, z3⟩, ⟨zf0, zf1, zf2, zf3⟩⟩ := Z1.out
    obtain ⟨⟨d0, d1⟩, ⟨df0, df1⟩⟩ := D1.c2
    go_wp2_with fail
    go_region_law (go_simp; (go_at_call 89; (with_reducible refine (HD.out _).mono ?_); rintro e w3 ⟨rfl, hb⟩; have Z2 := (SB.drew Z1).next hb; have C2 := (SB.drew C1).next hb; clear z0 z1 z2 z3 zf0 zf1 zf2 zf3; obtain ⟨⟨z0, z1, z2, z3⟩, ⟨zf0, zf1, zf2, zf3⟩⟩ := Z2.out))
    all_goals
      have Z3 : SB (w3.setCell ⟨w.heap.size, 1, none⟩ (.int .i64 M)) w.heap.size ⟨L, M, s.b, s.i⟩ := Blk.set_ Z2 1 _
      have C3 := C2.far (p := ⟨w.heap.size, 1, none⟩) (by show _ ≠ _; simp only []; omega) (.int .i64 M)
      have W1s : w.heap.size ≤ w2.drew.heap.size := W1.size
      have W3 : Below w.heap.size w (w3.setCell ⟨w.heap.size, 1, none⟩ (.int .i64 M)) := by repeat' (first | (with_reducible exact Below.refl _ _) | (with_reducible assumption) | (with_reducible refine Below.alloc ?_ ?_ _) | (with_reducible refine Below.drew ?_) | (with_reducible refine Below.setCell ?_ ?_ _) | (with_reducible refine Below.on (by with_reducible assumption) ?_ ?_) | go_size)
      clear z0 z1 z2 z3 zf0 zf1 zf2 zf3 hb C2 C1 D1 W1 Z1 Z2 hM hM'
      generalize w3.setCell ⟨w.heap.size, 1, none⟩ (.int .i64 M) = w4 at Z3 C3 W3
      obtain ⟨⟨z0, z1, z2, z3⟩, ⟨zf0, zf1, zf2, zf3⟩⟩ := Z3.out
      obtain ⟨⟨c0, c1, c2, c3⟩, ⟨cf0, cf1, cf2, cf3⟩⟩ := C3.out
      go_wp2_with fail
      exact bodyPost_ret (v := .agg #[.int .i64 L, .int .i64 M, .int .i64 s.b, .int .i64 s.i]) (by simp [results, Try.results81, go_sem, c0, c1, c2, c3]) rfl ⟨rfl, by repeat' (first | (with_reducible exact Below.refl _ _) | (with_reducible assumption) | (with_reducible refine Below.alloc ?_ ?_ _) | (with_reducible refine Below.drew ?_) | (with_reducible refine Below.setCell ?_ ?_ _) | (with_reducible refine Below.on (by with_reducible assumption) ?_ ?_) | go_size)⟩
end Sz
end Go.Proofs.Ytdmoncpeoaoppaa
