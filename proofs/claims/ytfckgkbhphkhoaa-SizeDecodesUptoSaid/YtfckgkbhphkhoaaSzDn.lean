/- Decode of the code where there are no numbers, or too few. -/
import Derived.Test.YtfckgkbhphkhoaaSzP
import Derived.Test.YtfckgkbhphkhoaaSzX
namespace Go.Proofs.Ytfckgkbhphkhoaa
open Go.RowKit
namespace Sz
def noH : Hn := ⟨1, 1, 0, 0, 0, 0, 1, 1, 0, 0, 0, 0⟩
set_option maxRecDepth 100000 in
set_option maxHeartbeats 4000000 in
theorem decode_bad (s : ByteArray) (w : World) (hs : s.size ≤ 1048576) (h4 : ¬ s.size % 4 = 0) : Calls Try.prog 10 #[.string s] w fun e w' => e = .returned (.agg #[.int .i64 noH.minW, .int .i64 noH.minH, .int .i64 noH.maxW, .int .i64 noH.maxH, .int .i64 noH.baseW, .int .i64 noH.baseH, .int .i64 noH.incW, .int .i64 noH.incH, .int .i64 noH.lowX, .int .i64 noH.lowY, .int .i64 noH.highX, .int .i64 noH.highY]) ∧ Below w.heap.size w w' := by
  have A0 := (HB.zero w).alloc (.cells (#[.int .i64 noH.minW, .int .i64 noH.minH, .int .i64 noH.maxW, .int .i64 noH.maxH, .int .i64 noH.baseW, .int .i64 noH.baseH, .int .i64 noH.incW, .int .i64 noH.incH, .int .i64 noH.lowX, .int .i64 noH.lowY, .int .i64 noH.highX, .int .i64 noH.highY]) 23)
  have A1 := HB.new (w.alloc (.cells (#[.int .i64 zeroH.minW, .int .i64 zeroH.minH, .int .i64 zeroH.maxW, .int .i64 zeroH.maxH, .int .i64 zeroH.baseW, .int .i64 zeroH.baseH, .int .i64 zeroH.incW, .int .i64 zeroH.incH, .int .i64 zeroH.lowX, .int .i64 zeroH.lowY, .int .i64 zeroH.highX, .int .i64 zeroH.highY]) 23)) noH
  simp only [World.size_alloc] at A1
  have W0 : Below w.heap.size w ((w.alloc (.cells (#[.int .i64 zeroH.minW, .int .i64 zeroH.minH, .int .i64 zeroH.maxW, .int .i64 zeroH.maxH, .int .i64 zeroH.baseW, .int .i64 zeroH.baseH, .int .i64 zeroH.incW, .int .i64 zeroH.incH, .int .i64 zeroH.lowX, .int .i64 zeroH.lowY, .int .i64 zeroH.highX, .int .i64 zeroH.highY]) 23)).alloc (.cells (#[.int .i64 noH.minW, .int .i64 noH.minH, .int .i64 noH.maxW, .int .i64 noH.maxH, .int .i64 noH.baseW, .int .i64 noH.baseH, .int .i64 noH.incW, .int .i64 noH.incH, .int .i64 noH.lowX, .int .i64 noH.lowY, .int .i64 noH.highX, .int .i64 noH.highY]) 23)) := by repeat' (first | (with_reducible exact Below.refl _ _) | (with_reducible assumption) | (with_reducible refine Below.alloc ?_ ?_ _) | (with_reducible refine Below.drew ?_) | (with_reducible refine Below.setCell ?_ ?_ _) | (with_reducible refine Below.on (by with_reducible assumption) ?_ ?_) | go_size)
  have HNU := Lib.hid (fun W : World => numbers_no s W hs h4)
  go_enter Try.func10, Try.ntmps10
  go_upto_region 3 with (go_at_call 21; ((with_reducible refine (HNU.out _).mono ?_); rintro e w1 ⟨rfl, hb1⟩); skip)
  have B0 := (A0.next hb1).alloc (.cells #[.slice none 0 0] 34)
  have B1 := (A1.next hb1).alloc (.cells #[.slice none 0 0] 34)
  have W1 := (bnext W0 hb1 W0.size)
  have W2 : Below w.heap.size w (w1.alloc (.cells #[.slice none 0 0] 34)) := W1.alloc W1.size _
  clear A0 A1 W0 W1 hb1
  generalize w1.alloc (.cells #[.slice none 0 0] 34) = w2 at *
  obtain ⟨⟨k0, k1, k2, k3, k4, k5, k6, k7, k8, k9, k10, k11⟩, ⟨kf0, kf1, kf2, kf3, kf4, kf5, kf6, kf7, kf8, kf9, kf10, kf11⟩⟩ := B1.out
  obtain ⟨⟨c0, c1, c2, c3, c4, c5, c6, c7, c8, c9, c10, c11⟩, ⟨cf0, cf1, cf2, cf3, cf4, cf5, cf6, cf7, cf8, cf9, cf10, cf11⟩⟩ := B0.out
  go_upto_region 4 with fail
  go_cut [] (fun wx => HB wx w.heap.size noH ∧ Below w.heap.size w wx)
  case first =>
    go_wp2_with fail
    go_meet
    exact ⟨B0.put12 noH, below_set12 W2 (Nat.le_refl _) noH⟩
  case rest =>
    obtain ⟨X1, X2⟩ := hcut
    rename_i K2 aK2
    refine aK2 _ _ ?_
    refine wp_ret ?_
    (try simp only [Exit.then])
    exact bodyPost_ret (res_hints rfl _ rfl X1) rfl ⟨rfl, X2⟩
set_option maxRecDepth 100000 in
set_option maxHeartbeats 4000000 in
theorem decode_few (s : ByteArray) (w : World) (hs : s.size ≤ 8388608) (h4 : s.size % 4 = 0) (h17 : s.size / 4 < 17) : Calls Try.prog 10 #[.string s] w fun e w' => e = .returned (.agg #[.int .i64 noH.minW, .int .i64 noH.minH, .int .i64 noH.maxW, .int .i64 noH.maxH, .int .i64 noH.baseW, .int .i64 noH.baseH, .int .i64 noH.incW, .int .i64 noH.incH, .int .i64 noH.lowX, .int .i64 noH.lowY, .int .i64 noH.highX, .int .i64 noH.highY]) ∧ Below w.heap.size w w' := by
  have A0 := (HB.zero w).alloc (.cells (#[.int .i64 noH.minW, .int .i64 noH.minH, .int .i64 noH.maxW, .int .i64 noH.maxH, .int .i64 noH.baseW, .int .i64 noH.baseH, .int .i64 noH.incW, .int .i64 noH.incH, .int .i64 noH.lowX, .int .i64 noH.lowY, .int .i64 noH.highX, .int .i64 noH.highY]) 23)
  have A1 := HB.new (w.alloc (.cells (#[.int .i64 zeroH.minW, .int .i64 zeroH.minH, .int .i64 zeroH.maxW, .int .i64 zeroH.maxH, .int .i64 zeroH.baseW, .int .i64 zeroH.baseH, .int .i64 zeroH.incW, .int .i64 zeroH.incH, .int .i64 zeroH.lowX, .int .i64 zeroH.lowY, .int .i64 zeroH.highX, .int .i64 zeroH.highY]) 23)) noH
  simp only [World.size_alloc] at A1
  have W0 : Below w.heap.size w ((w.alloc (.cells (#[.int .i64 zeroH.minW, .int .i64 zeroH.minH, .int .i64 zeroH.maxW, .int .i64 zeroH.maxH, .int .i64 zeroH.baseW, .int .i64 zeroH.baseH, .int .i64 zeroH.incW, .int .i64 zeroH.incH, .int .i64 zeroH.lowX, .int .i64 zeroH.lowY, .int .i64 zeroH.highX, .int .i64 zeroH.highY]) 23)).alloc (.cells (#[.int .i64 noH.minW, .int .i64 noH.minH, .int .i64 noH.maxW, .int .i64 noH.maxH, .int .i64 noH.baseW, .int .i64 noH.baseH, .int .i64 noH.incW, .int .i64 noH.incH, .int .i64 noH.lowX, .int .i64 noH.lowY, .int .i64 noH.highX, .int .i64 noH.highY]) 23)) := by repeat' (first | (with_reducible exact Below.refl _ _) | (with_reducible assumption) | (with_reducible refine Below.alloc ?_ ?_ _) | (with_reducible refine Below.drew ?_) | (with_reducible refine Below.setCell ?_ ?_ _) | (with_reducible refine Below.on (by with_reducible assumption) ?_ ?_) | go_size)
  have HNU := Lib.hid (fun W : World => numbers_at s W hs h4)
  obtain ⟨len, hlen⟩ : ∃ n, s.size / 4 = n := ⟨_, rfl⟩
  rw [hlen] at HNU h17
  have hl : (len : Int) < 17 := by omega
  clear hlen
  go_enter Try.func10, Try.ntmps10
  go_upto_region 3 with (go_at_call 21; ((with_reducible refine (HNU.out _).mono ?_); rintro e w1 ⟨v, rfl, hRd, hb1, hv⟩); skip)
  subst hv
  clear hRd
  have B0 := (A0.next hb1).alloc (.cells #[.slice (some ⟨w.heap.size + 1 + 1, 0, none⟩) len len] 34)
  have B1 := (A1.next hb1).alloc (.cells #[.slice (some ⟨w.heap.size + 1 + 1, 0, none⟩) len len] 34)
  have W1 := (bnext W0 hb1 W0.size)
  have W2 : Below w.heap.size w (w1.alloc (.cells #[.slice (some ⟨w.heap.size + 1 + 1, 0, none⟩) len len] 34)) := W1.alloc W1.size _
  clear A0 A1 W0 W1 hb1
  have hC : (w1.alloc (.cells #[.slice (some ⟨w.heap.size + 1 + 1, 0, none⟩) len len] 34)).cell? ⟨w1.heap.size, 0, none⟩ = some (.slice (some ⟨w.heap.size + 1 + 1, 0, none⟩) len len) := (Blk.new w1 34 #[.slice (some ⟨w.heap.size + 1 + 1, 0, none⟩) len len]).at_ (i := 0) rfl
  generalize w1.alloc (.cells #[.slice (some ⟨w.heap.size + 1 + 1, 0, none⟩) len len] 34) = w2 at *
  obtain ⟨⟨k0, k1, k2, k3, k4, k5, k6, k7, k8, k9, k10, k11⟩, ⟨kf0, kf1, kf2, kf3, kf4, kf5, kf6, kf7, kf8, kf9, kf10, kf11⟩⟩ := B1.out
  obtain ⟨⟨c0, c1, c2, c3, c4, c5, c6, c7, c8, c9, c10, c11⟩, ⟨cf0, cf1, cf2, cf3, cf4, cf5, cf6, cf7, cf8, cf9, cf10, cf11⟩⟩ := B0.out
  have xc := hC
  go_upto_region 4 with fail
  go_cut [] (fun wx => HB wx w.heap.size noH ∧ Below w.heap.size w wx)
  case first =>
    go_wp2_with fail
    go_meet
    exact ⟨B0.put12 noH, below_set12 W2 (Nat.le_refl _) noH⟩
  case rest =>
    obtain ⟨X1, X2⟩ := hcut
    rename_i K2 aK2
    refine aK2 _ _ ?_
    refine wp_ret ?_
    (try simp only [Exit.then])
    exact bodyPost_ret (res_hints rfl _ rfl X1) rfl ⟨rfl, X2⟩
end Sz
end Go.Proofs.Ytfckgkbhphkhoaa
