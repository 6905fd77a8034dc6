/- The document's Decode where there are no numbers, or too few; SizeDecodes, walked. -/
import Derived.Test.YtfckgkbhphkhoaaSzDr
import Derived.Test.YtfckgkbhphkhoaaSzDc
import Derived.Test.YtfckgkbhphkhoaaSzDn
import Derived.Test.YtfckgkbhphkhoaaSzZ
import Derived.Test.YtfckgkbhphkhoaaSzK
namespace Go.Proofs.Ytfckgkbhphkhoaa
open Go.RowKit
namespace Sz
set_option maxRecDepth 100000 in
set_option maxHeartbeats 4000000 in
theorem rdecode_no (s : ByteArray) (w : World) (hs : s.size ≤ 1048576) (hno : ¬ (s.size % 4 = 0 ∧ 17 ≤ s.size / 4)) : Calls Try.prog 11 #[.string s] w fun e w' => e = .returned (.agg #[.int .i64 noH.minW, .int .i64 noH.minH, .int .i64 noH.maxW, .int .i64 noH.maxH, .int .i64 noH.baseW, .int .i64 noH.baseH, .int .i64 noH.incW, .int .i64 noH.incH, .int .i64 noH.lowX, .int .i64 noH.lowY, .int .i64 noH.highX, .int .i64 noH.highY]) ∧ Below w.heap.size w w' := by
  have A0 := (HB.zero w).alloc (.cells (#[.int .i64 noH.minW, .int .i64 noH.minH, .int .i64 noH.maxW, .int .i64 noH.maxH, .int .i64 noH.baseW, .int .i64 noH.baseH, .int .i64 noH.incW, .int .i64 noH.incH, .int .i64 noH.lowX, .int .i64 noH.lowY, .int .i64 noH.highX, .int .i64 noH.highY]) 23)
  have A1 := HB.new (w.alloc (.cells (#[.int .i64 zeroH.minW, .int .i64 zeroH.minH, .int .i64 zeroH.maxW, .int .i64 zeroH.maxH, .int .i64 zeroH.baseW, .int .i64 zeroH.baseH, .int .i64 zeroH.incW, .int .i64 zeroH.incH, .int .i64 zeroH.lowX, .int .i64 zeroH.lowY, .int .i64 zeroH.highX, .int .i64 zeroH.highY]) 23)) noH
  simp only [World.size_alloc] at A1
  have W0 : Below w.heap.size w ((w.alloc (.cells (#[.int .i64 zeroH.minW, .int .i64 zeroH.minH, .int .i64 zeroH.maxW, .int .i64 zeroH.maxH, .int .i64 zeroH.baseW, .int .i64 zeroH.baseH, .int .i64 zeroH.incW, .int .i64 zeroH.incH, .int .i64 zeroH.lowX, .int .i64 zeroH.lowY, .int .i64 zeroH.highX, .int .i64 zeroH.highY]) 23)).alloc (.cells (#[.int .i64 noH.minW, .int .i64 noH.minH, .int .i64 noH.maxW, .int .i64 noH.maxH, .int .i64 noH.baseW, .int .i64 noH.baseH, .int .i64 noH.incW, .int .i64 noH.incH, .int .i64 noH.lowX, .int .i64 noH.lowY, .int .i64 noH.highX, .int .i64 noH.highY]) 23)) := by repeat' (first | (with_reducible exact Below.refl _ _) | (with_reducible assumption) | (with_reducible refine Below.alloc ?_ ?_ _) | (with_reducible refine Below.drew ?_) | (with_reducible refine Below.setCell ?_ ?_ _) | (with_reducible refine Below.on (by with_reducible assumption) ?_ ?_) | go_size)
  obtain ⟨ok, n, hn, HNU⟩ : ∃ (ok : Bool) (n : Nat), (ok = true → (n : Int) < 17) ∧ Hid (∀ W : World, Calls Try.prog 23 #[.string s] W fun e w' => ∃ p c, e = .returned (.tuple #[.slice p n c, .bool ok]) ∧ Below W.heap.size W w') := by
    by_cases h4 : s.size % 4 = 0
    · refine ⟨true, s.size / 4, fun _ => by omega, Lib.hid fun W => (rnumbers_yes s W hs h4).mono ?_⟩
      rintro e w1 ⟨v, rfl, ⟨p, c, rfl, _⟩, hb⟩
      exact ⟨p, c, by rw [List.length_map, numsL_len], hb⟩
    · refine ⟨false, 0, fun h => (by cases h), Lib.hid fun W => (rnumbers_no s W hs h4).mono ?_⟩
      rintro e w1 ⟨rfl, hb⟩
      exact ⟨none, 0, rfl, hb⟩
  clear hno
  cases ok
  · clear hn
    go_enter Try.func11, Try.ntmps11
    go_upto_region 3 with (go_at_call 23; ((with_reducible refine (HNU.out _).mono ?_); rintro e w1 ⟨p, c, rfl, hb1⟩); skip)
    have B0 := A0.next hb1
    have B1 := A1.next hb1
    have W1 := (bnext W0 hb1 W0.size)
    clear A0 A1 W0 hb1
    obtain ⟨⟨k0, k1, k2, k3, k4, k5, k6, k7, k8, k9, k10, k11⟩, ⟨kf0, kf1, kf2, kf3, kf4, kf5, kf6, kf7, kf8, kf9, kf10, kf11⟩⟩ := B1.out
    obtain ⟨⟨c0, c1, c2, c3, c4, c5, c6, c7, c8, c9, c10, c11⟩, ⟨cf0, cf1, cf2, cf3, cf4, cf5, cf6, cf7, cf8, cf9, cf10, cf11⟩⟩ := B0.out
    go_upto_region 4 with fail
    go_cut [] (fun wx => HB wx w.heap.size noH ∧ Below w.heap.size w wx)
    case first =>
      go_wp2_with fail
      go_meet
      exact ⟨B0.put12 noH, below_set12 W1 (Nat.le_refl _) noH⟩
    case rest =>
      obtain ⟨X1, X2⟩ := hcut
      rename_i K2 aK2
      refine aK2 _ _ ?_
      refine wp_ret ?_
      (try simp only [Exit.then])
      exact bodyPost_ret (res_hints rfl _ rfl X1) rfl ⟨rfl, X2⟩
  · have hl := hn rfl
    clear hn
    go_enter Try.func11, Try.ntmps11
    go_upto_region 3 with (go_at_call 23; ((with_reducible refine (HNU.out _).mono ?_); rintro e w1 ⟨p, c, rfl, hb1⟩); skip)
    have B0 := A0.next hb1
    have B1 := A1.next hb1
    have W1 := (bnext W0 hb1 W0.size)
    clear A0 A1 W0 hb1
    obtain ⟨⟨k0, k1, k2, k3, k4, k5, k6, k7, k8, k9, k10, k11⟩, ⟨kf0, kf1, kf2, kf3, kf4, kf5, kf6, kf7, kf8, kf9, kf10, kf11⟩⟩ := B1.out
    obtain ⟨⟨c0, c1, c2, c3, c4, c5, c6, c7, c8, c9, c10, c11⟩, ⟨cf0, cf1, cf2, cf3, cf4, cf5, cf6, cf7, cf8, cf9, cf10, cf11⟩⟩ := B0.out
    go_upto_region 4 with fail
    go_cut [] (fun wx => HB wx w.heap.size noH ∧ Below w.heap.size w wx)
    case first =>
      go_wp2_with fail
      go_meet
      exact ⟨B0.put12 noH, below_set12 W1 (Nat.le_refl _) noH⟩
    case rest =>
      obtain ⟨X1, X2⟩ := hcut
      rename_i K2 aK2
      refine aK2 _ _ ?_
      refine wp_ret ?_
      (try simp only [Exit.then])
      exact bodyPost_ret (res_hints rfl _ rfl X1) rfl ⟨rfl, X2⟩
theorem decodes_both (s : ByteArray) (hs : s.size ≤ 1048576) : ∃ h : Hn, (∀ W : World, Calls Try.prog 10 #[.string s] W fun e w' => e = .returned (.agg #[.int .i64 h.minW, .int .i64 h.minH, .int .i64 h.maxW, .int .i64 h.maxH, .int .i64 h.baseW, .int .i64 h.baseH, .int .i64 h.incW, .int .i64 h.incH, .int .i64 h.lowX, .int .i64 h.lowY, .int .i64 h.highX, .int .i64 h.highY]) ∧ Below W.heap.size W w') ∧ (∀ W : World, Calls Try.prog 11 #[.string s] W fun e w' => e = .returned (.agg #[.int .i64 h.minW, .int .i64 h.minH, .int .i64 h.maxW, .int .i64 h.maxH, .int .i64 h.baseW, .int .i64 h.baseH, .int .i64 h.incW, .int .i64 h.incH, .int .i64 h.lowX, .int .i64 h.lowY, .int .i64 h.highX, .int .i64 h.highY]) ∧ Below W.heap.size W w') := by
  by_cases h4 : s.size % 4 = 0
  · by_cases h17 : 17 ≤ s.size / 4
    · exact ⟨_, fun W => decode_yes s W (by omega) h4 h17, fun W => rdecode_yes s W hs h4 h17⟩
    · exact ⟨noH, fun W => decode_few s W (by omega) h4 (by omega), fun W => rdecode_no s W hs (fun h => h17 h.2)⟩
  · exact ⟨noH, fun W => decode_bad s W hs h4, fun W => rdecode_no s W hs (fun h => h4 h.1)⟩
attribute [local go_sem ↓] eql_hints
set_option maxHeartbeats 2000000 in
theorem decodes_w (s : ByteArray) (w : World) (hs : s.size ≤ 1048576) : Calls Try.prog 3 #[.string s] w fun e w' => e = .returned (.bool true) ∧ Below w.heap.size w w' := by
  obtain ⟨h, hc, hr⟩ := decodes_both s hs
  have HC := Lib.hid hc
  have HR := Lib.hid hr
  have hq : eqB h h = true := by unfold eqB; simp
  clear hc hr hs
  go_enter Try.func3, Try.ntmps3
  go_wp2_with (first
    | (go_at_call 10; ((with_reducible refine (HC.out _).mono ?_); rintro e w1 ⟨rfl, hb1⟩); skip)
    | (go_at_call 11; ((with_reducible refine (HR.out _).mono ?_); rintro e w2 ⟨rfl, hb2⟩); have W2 := bnext hb1 hb2 hb1.size)
    | (go_at_call 12; ((with_reducible refine (awake_c _).mono ?_); rintro e w6 ⟨rfl, hb6⟩); have W6 := bnext W2 hb6 W2.size))
  go_ret
  exact ⟨rfl, W6⟩
end Sz
end Go.Proofs.Ytfckgkbhphkhoaa
