/- Numbers of both, Ints. -/
import Derived.Test.YthppjmhocmppfaaDoorPrN
import Derived.Deep.OwnRows
namespace Go.Proofs.YthppjmhocmppfaaDoor
open Go.RowKit Go.Maps
theorem numsL_len (s : ByteArray) : (numsL s).length = s.size / 4 := by unfold numsL; simp
theorem numsL_at {s : ByteArray} {k : Nat} (h : k < s.size / 4) : (numsL s)[k]? = some (numAt s (4 * k)) := by
  unfold numsL
  rw [List.getElem?_map, List.getElem?_range h]; rfl
theorem numAt_ext {s : ByteArray} {a : Nat} (h : a + 4 ≤ s.size) : numAt (s.extract a s.size) 0 = numAt s a := by
  unfold numAt
  rw [byt_ext (by omega), byt_ext (by omega), byt_ext (by omega), byt_ext (by omega)]
  simp only [Nat.add_zero, Nat.zero_add]
set_option maxRecDepth 100000 in
set_option maxHeartbeats 2000000 in
theorem numbers_no (s : ByteArray) (w : World) (hs : s.size ≤ 1048576) (h4 : ¬ s.size % 4 = 0) : Calls Tryd.prog 27 #[.string s] w fun e w' => e = .returned (.tuple #[.slice none 0 0, .bool false]) ∧ Below w.heap.size w w' := by
  obtain ⟨n, hn⟩ : ∃ n, n = s.size := ⟨_, rfl⟩
  have h5 : ((s.size : Int) % 4 == 0) = false := by simp; omega
  have h6 : ((s.size : Int) % 4 != 0) = true := by simp [bne, h5]
  clear hn
  go_enter Tryd.func27, Tryd.ntmps27
  go_wp2_with fail
  go_ret2
  exact ⟨rfl, Below.refl _ _⟩
theorem made_eq (z : Value) (n : Nat) : madeCells #[z] n = (List.replicate n z).toArray := by
  apply Array.ext_getElem?
  intro i
  unfold madeCells
  simp
  by_cases h : i < n <;> simp [h, Nat.mod_one]
/-- The first k of zs, zeros behind them. -/
def halfI (zs : List Int) (n k : Nat) : List Value := ints (zs.take k) ++ List.replicate (n - k) (.int .i64 0)
theorem halfI_len {zs : List Int} {n k : Nat} (hz : zs.length = n) (hk : k ≤ n) : (halfI zs n k).length = n := by unfold halfI; simp; omega
theorem halfI_set {zs : List Int} {n k : Nat} (hz : zs.length = n) {z : Int} (h : zs[k]? = some z) : (halfI zs n k).set k (.int .i64 z) = halfI zs n (k + 1) := by
  have hk := (List.getElem?_eq_some_iff.1 h).1
  unfold halfI ints
  rw [List.take_add_one, h, List.map_append]
  obtain ⟨m, hm⟩ : ∃ m, n - k = m + 1 := ⟨n - k - 1, by omega⟩
  rw [show n - (k + 1) = m by omega, hm, List.replicate_succ, List.set_append_right _ _ (by simp; omega)]
  simp
  rw [Nat.min_eq_left (by omega), Nat.sub_self]; rfl
theorem halfI_at {zs : List Int} {n k : Nat} (hz : zs.length = n) (hk : k < n) : (halfI zs n k)[k]? = some (.int .i64 0) := by
  have hl : (ints (zs.take k)).length = k := by simp; omega
  unfold halfI
  rw [List.getElem?_append_right (by omega), hl, Nat.sub_self, List.getElem?_replicate_of_lt (by omega)]
theorem halfI_all {zs : List Int} {n : Nat} (hz : zs.length = n) : halfI zs n n = ints zs := by unfold halfI; rw [Nat.sub_self, List.take_of_length_le (by omega)]; simp
set_option maxRecDepth 100000 in
set_option maxHeartbeats 2000000 in
theorem numbers_at (s : ByteArray) (w : World) (hs : s.size ≤ 8388608) (h4 : s.size % 4 = 0) : Calls Tryd.prog 27 #[.string s] w fun e w' => ∃ v, e = .returned (.tuple #[v, .bool true]) ∧ Rd w' v (ints (numsL s)) ∧ Below w.heap.size w w' ∧ v = .slice (some ⟨w.heap.size, 0, none⟩) (s.size / 4) (s.size / 4) := by
  obtain ⟨n, hn⟩ : ∃ n, n = s.size / 4 := ⟨_, rfl⟩
  have h5 : ((s.size : Int) % 4 == 0) = true := by simp; omega
  have h6 : ((s.size : Int) % 4 != 0) = false := by simp [bne, h5]
  have h7 : (s.size : Int) / 4 = (n : Int) := by omega
  have HN := Lib.hid (And.intro hn h4)
  have hn2 : n ≤ 2097152 := by omega
  have hmk : ∀ W : World, (Instr.makeSlice 43 (.int .i64 (n : Int)) (.int .i64 (n : Int))).run Tryd.prog W = .ok (.slice (some ⟨W.heap.size, 0, none⟩) n n) (W.alloc (.cells (List.replicate n (.int .i64 0)).toArray 3)) := by
    intro W
    have h := run_make_row' (P := Tryd.prog) 43 3 (.int .i64 0) 8 Tryd.underlying43 intInfo rfl .i64 .i64 n (by omega) (by omega) W
    rw [made_eq] at h
    exact h
  have hnl : (numsL s).length = n := by rw [numsL_len, hn]
  have HNL := Lib.hid hnl
  clear hn h4 hnl
  go_enter Tryd.func27, Tryd.ntmps27
  go_wp2_with fail
  go_loopw [16] (fun y wr => ∃ k : Nat, k ≤ n ∧ y = .int .i64 k ∧ Gi 3 w wr (.slice (some ⟨w.heap.size, 0, none⟩) n n) (halfI (numsL s) n k)) (fun y _ => n - (intOf y).toNat)
  case atStart =>
    refine ⟨0, Nat.zero_le _, rfl, ?_, (Below.refl _ _).alloc (Nat.le_refl _) _⟩
    rw [halfI_len HNL.out (Nat.zero_le _)]
    have h := World.ownsRow_lit (base := w.heap.size) (e := 3) (size := 1) w (List.replicate n (Value.int .i64 0)).toArray n (Nat.le_refl _) (by unfold maxLen; omega) (by simp)
    simpa [halfI] using h
  case round =>
    obtain ⟨k, hk, rfl, hG⟩ := hrel
    have HG := Lib.hid hG
    have hi0 : (0 : Int) ≤ (k : Int) := by omega
    clear hG
    by_cases hlt : k < n
    · have hi1 : (k : Int) < (n : Int) := by omega
      have hle : k * 4 ≤ s.size := by have := HN.out; omega
      have hle' : (k : Int) * 4 ≤ (s.size : Int) := by omega
      have hk0 : (0 : Int) ≤ (k : Int) * 4 := by omega
      have hnat : ((k : Int) * 4).toNat = k * 4 := by omega
      have HNU := Lib.hid (fun W => number_c (s.extract (k * 4) s.size) W (by rw [ByteArray.size_extract]; have := HN.out; omega))
      go_wp2_with (go_at_call 42; go_loud ((with_reducible refine (HNU.out _).mono ?_); rintro e w1 ⟨rfl, hb1⟩; have HG1 := Lib.hid (HG.out.next hb1); have hown := HG1.out.1; rw [halfI_len HNL.out (Nat.le_of_lt hlt)] at hown; have HOW := Lib.hid hown; have c0 := (World.ownsRow.cellAt hown k (by omega)).trans (halfI_at HNL.out hlt); have f0 := World.ownsRow.frozenAt hown k; clear hb1 hown))
      go_roundw
      case rel =>
        refine ⟨k + 1, by omega, by go_num, ?_, HG1.out.2.setCell (Nat.le_refl _) _⟩
        have hst := (World.ownsRow.stored HOW.out k (.int .i64 (numAt (s.extract (k * 4) s.size) 0))).1
        rw [numAt_ext (by have := HN.out; omega), show k * 4 = 4 * k by omega] at hst
        rw [numAt_ext (by have := HN.out; omega), show k * 4 = 4 * k by omega, halfI_len HNL.out (by omega), ← halfI_set HNL.out (numsL_at (by have := HN.out; omega))]
        exact hst
      case measure => simp [intOf]; omega
    · obtain rfl : k = n := by omega
      have hi1 : ¬ (k : Int) < (k : Int) := by omega
      go_wp2_with fail
      go_ret2
      have h := HG.out.rd
      rw [halfI_all HNL.out] at h
      exact ⟨_, rfl, h, HG.out.2, by rw [← HN.out.1]; rfl⟩
theorem numbers_yes (s : ByteArray) (w : World) (hs : s.size ≤ 8388608) (h4 : s.size % 4 = 0) : Calls Tryd.prog 27 #[.string s] w fun e w' => ∃ v, e = .returned (.tuple #[v, .bool true]) ∧ Rd w' v (ints (numsL s)) ∧ Below w.heap.size w w' :=
  (numbers_at s w hs h4).mono (by rintro e w1 ⟨v, rfl, h, hb, -⟩; exact ⟨v, rfl, h, hb⟩)
theorem numsL_snoc {s : ByteArray} {k : Nat} (h : k < s.size / 4) : (numsL s).take (k + 1) = (numsL s).take k ++ [numAt s (4 * k)] := by
  rw [List.take_add_one, numsL_at h]; rfl
set_option maxRecDepth 100000 in
set_option maxHeartbeats 2000000 in
theorem rnumbers_no (s : ByteArray) (w : World) (hs : s.size ≤ 1048576) (h4 : ¬ s.size % 4 = 0) : Calls Tryd.prog 28 #[.string s] w fun e w' => e = .returned (.tuple #[.slice none 0 0, .bool false]) ∧ Below w.heap.size w w' := by
  have h5 : ((s.size : Int) % 4 == 0) = false := by simp; omega
  have h6 : ((s.size : Int) % 4 != 0) = true := by simp [bne, h5]
  go_enter Tryd.func28, Tryd.ntmps28
  go_wp2_with fail
  go_ret2
  exact ⟨rfl, Below.refl _ _⟩
set_option maxRecDepth 100000 in
set_option maxHeartbeats 4000000 in
theorem rnumbers_gi (s : ByteArray) (w : World) (hs : s.size ≤ 1048576) (h4 : s.size % 4 = 0) : Calls Tryd.prog 28 #[.string s] w fun e w' => ∃ v, e = .returned (.tuple #[v, .bool true]) ∧ Gi 3 w w' v (ints (numsL s)) := by
  obtain ⟨i0, hi0, hz0, hz1, hz2⟩ := info_parts intInfo
  obtain ⟨n, hn⟩ : ∃ n, n = s.size / 4 := ⟨_, rfl⟩
  have h5 : ((s.size : Int) % 4 == 0) = true := by simp; omega
  have h6 : ((s.size : Int) % 4 != 0) = false := by simp [bne, h5]
  have HN := Lib.hid (And.intro hn h4)
  have hn2 : n ≤ 262144 := by omega
  have hnl : (numsL s).length = n := by rw [numsL_len, hn]
  have HNL := Lib.hid hnl
  clear hn h4 hnl
  go_enter Tryd.func28, Tryd.ntmps28
  go_wp2_with fail
  go_loopw [4, 5] (fun v y wr => ∃ k : Nat, k ≤ n ∧ y = .int .i64 ((4 * k : Nat) : Int) ∧ Gi 3 w wr v (ints ((numsL s).take k))) (fun _ y _ => s.size - (intOf y).toNat)
  case atStart => exact ⟨0, Nat.zero_le _, rfl, Gi.nil w _⟩
  case round =>
    obtain ⟨k, hk, rfl, hG⟩ := hrel
    have HG := Lib.hid hG
    have HKL := Lib.hid (show ((numsL s).take k).length = k by rw [List.length_take, HNL.out]; omega)
    clear hG
    obtain ⟨q, hq⟩ : ∃ q, q = 4 * k := ⟨_, rfl⟩
    rw [← hq]
    have HQ := Lib.hid hq
    have hi0' : (0 : Int) ≤ (q : Int) := by omega
    by_cases hlt : k < n
    · have hi1 : (q : Int) < (s.size : Int) := by have := HN.out; omega
      obtain ⟨q1, hq1⟩ : ∃ q1, q1 = q + 1 := ⟨_, rfl⟩
      obtain ⟨q2, hq2⟩ : ∃ q2, q2 = q + 2 := ⟨_, rfl⟩
      obtain ⟨q3, hq3⟩ : ∃ q3, q3 = q + 3 := ⟨_, rfl⟩
      have d0 : q < s.size := by have := HN.out; omega
      have d1 : q1 < s.size := by have := HN.out; omega
      have d2 : q2 < s.size := by have := HN.out; omega
      have d3 : q3 < s.size := by have := HN.out; omega
      have w1 : IntKind.i64.wrap ((q : Int) + 1) = (q1 : Int) := by rw [IntWalk.i64_in _ (by omega)]; omega
      have w2 : IntKind.i64.wrap ((q : Int) + 2) = (q2 : Int) := by rw [IntWalk.i64_in _ (by omega)]; omega
      have w3 : IntKind.i64.wrap ((q : Int) + 3) = (q3 : Int) := by rw [IntWalk.i64_in _ (by omega)]; omega
      obtain ⟨e0, he0⟩ : ∃ e, e = (s[q].toNat : Int) := ⟨_, rfl⟩
      obtain ⟨e1, he1⟩ : ∃ e, e = (s[q1].toNat : Int) := ⟨_, rfl⟩
      obtain ⟨e2, he2⟩ : ∃ e, e = (s[q2].toNat : Int) := ⟨_, rfl⟩
      obtain ⟨e3, he3⟩ : ∃ e, e = (s[q3].toNat : Int) := ⟨_, rfl⟩
      have b0 := byt_in s q
      have b1 := byt_in s q1
      have b2 := byt_in s q2
      have b3 := byt_in s q3
      rw [byt_at d0, ← he0] at b0
      rw [byt_at d1, ← he1] at b1
      rw [byt_at d2, ← he2] at b2
      rw [byt_at d3, ← he3] at b3
      have m0 : IntKind.i64.wrap e0 = e0 := IntWalk.i64_in _ (by omega)
      have m1 : IntKind.i64.wrap e1 = e1 := IntWalk.i64_in _ (by omega)
      have m2 : IntKind.i64.wrap e2 = e2 := IntWalk.i64_in _ (by omega)
      have m3 : IntKind.i64.wrap e3 = e3 := IntWalk.i64_in _ (by omega)
      have n1 : IntKind.i64.wrap (256 * e1) = 256 * e1 := IntWalk.i64_in _ (by omega)
      have n2 : IntKind.i64.wrap (65536 * e2) = 65536 * e2 := IntWalk.i64_in _ (by omega)
      have n3 : IntKind.i64.wrap (16777216 * e3) = 16777216 * e3 := IntWalk.i64_in _ (by omega)
      have u1 : IntKind.i64.wrap (e0 + 256 * e1) = e0 + 256 * e1 := IntWalk.i64_in _ (by omega)
      have u2 : IntKind.i64.wrap (e0 + 256 * e1 + 65536 * e2) = e0 + 256 * e1 + 65536 * e2 := IntWalk.i64_in _ (by omega)
      have u3 : IntKind.i64.wrap (e0 + 256 * e1 + 65536 * e2 + 16777216 * e3) = e0 + 256 * e1 + 65536 * e2 + 16777216 * e3 := IntWalk.i64_in _ (by omega)
      have HNA := Lib.hid (show numAt s q = num4 e0 e1 e2 e3 from by unfold numAt; rw [← hq1, ← hq2, ← hq3, byt_at d0, byt_at d1, byt_at d2, byt_at d3, ← he0, ← he1, ← he2, ← he3])
      have a0 := he0.symm
      have a1 := he1.symm
      have a2 := he2.symm
      have a3 := he3.symm
      clear he0 he1 he2 he3 hq1 hq2 hq3
      clear hq
      go_wp2_with fail
      go_quiet (fail)
      clear m0 m1 m2 m3 n1 n2 n3 u1 u2 u3 w1 w2 w3
      by_cases hbig : 2147483648 ≤ e0 + 256 * e1 + 65536 * e2 + 16777216 * e3
      · have HE := Lib.hid (show numAt s q = e0 + 256 * e1 + 65536 * e2 + 16777216 * e3 - 4294967296 from by rw [HNA.out]; unfold num4; rw [if_pos hbig])
        go_wp2_with (at_builtin; go_loud (refine wpList_append_own_at _ rfl (.tmp 46) (.tmp 48) 43 rfl w.heap.size 3 i0 (.int .i64 0) 1 8 Tryd.underlying43 hi0 hz0 hz1 hz2 rfl (by decide) _ _ _ rfl (World.ownsRow.alloc (own_next HG.out.1 (below_drewN (Below.refl _ wr) nq)) _) ⟨_, 0, none⟩ 1 1 [.int .i64 (e0 + 256 * e1 + 65536 * e2 + 16777216 * e3 - 4294967296)] rfl rfl (cell_list_at _ _ [.int .i64 (e0 + 256 * e1 + 65536 * e2 + 16777216 * e3 - 4294967296)] _ rfl) (fun u hu => by rw [List.mem_singleton.1 hu]; rfl) (by unfold maxLen; simp; have := HKL.out; omega) (by simp; have := HKL.out; omega) (by have := HG.out.2.size; simp; omega) ?_; intro v3 w3 ho3 hg3 _ _; have HP := Lib.hid (Gi.put (us := [.int .i64 (e0 + 256 * e1 + 65536 * e2 + 16777216 * e3 - 4294967296)]) (HG.out.next (below_drewN (Below.refl _ wr) nq)) ho3 hg3); clear ho3 hg3))
        go_roundw
        case rel => exact ⟨k + 1, by omega, congrArg (Value.int .i64) (by have := HQ.out; omega), by
          have h := HP.out
          have h2 := numsL_snoc (s := s) (k := k) (by have := HN.out; omega)
          rw [← HQ.out, HE.out] at h2
          rw [h2, ints, List.map_append]
          exact h⟩
        case measure => simp [intOf]; omega
      · have HE := Lib.hid (show numAt s q = e0 + 256 * e1 + 65536 * e2 + 16777216 * e3 from by rw [HNA.out]; unfold num4; rw [if_neg hbig])
        go_wp2_with (at_builtin; go_loud (refine wpList_append_own_at _ rfl (.tmp 46) (.tmp 48) 43 rfl w.heap.size 3 i0 (.int .i64 0) 1 8 Tryd.underlying43 hi0 hz0 hz1 hz2 rfl (by decide) _ _ _ rfl (World.ownsRow.alloc (own_next HG.out.1 (below_drewN (Below.refl _ wr) nq)) _) ⟨_, 0, none⟩ 1 1 [.int .i64 (e0 + 256 * e1 + 65536 * e2 + 16777216 * e3)] rfl rfl (cell_list_at _ _ [.int .i64 (e0 + 256 * e1 + 65536 * e2 + 16777216 * e3)] _ rfl) (fun u hu => by rw [List.mem_singleton.1 hu]; rfl) (by unfold maxLen; simp; have := HKL.out; omega) (by simp; have := HKL.out; omega) (by have := HG.out.2.size; simp; omega) ?_; intro v3 w3 ho3 hg3 _ _; have HP := Lib.hid (Gi.put (us := [.int .i64 (e0 + 256 * e1 + 65536 * e2 + 16777216 * e3)]) (HG.out.next (below_drewN (Below.refl _ wr) nq)) ho3 hg3); clear ho3 hg3))
        go_roundw
        case rel => exact ⟨k + 1, by omega, congrArg (Value.int .i64) (by have := HQ.out; omega), by
          have h := HP.out
          have h2 := numsL_snoc (s := s) (k := k) (by have := HN.out; omega)
          rw [← HQ.out, HE.out] at h2
          rw [h2, ints, List.map_append]
          exact h⟩
        case measure => simp [intOf]; omega
    · obtain rfl : k = n := by omega
      have hi1 : ¬ (q : Int) < (s.size : Int) := by have := HN.out; omega
      clear hq
      go_wp2_with fail
      go_ret2
      have h := HG.out
      rw [List.take_of_length_le (by rw [HNL.out]; exact Nat.le_refl _)] at h
      exact ⟨_, rfl, h⟩
theorem rnumbers_yes (s : ByteArray) (w : World) (hs : s.size ≤ 1048576) (h4 : s.size % 4 = 0) : Calls Tryd.prog 28 #[.string s] w fun e w' => ∃ v, e = .returned (.tuple #[v, .bool true]) ∧ Rd w' v (ints (numsL s)) ∧ Below w.heap.size w w' :=
  (rnumbers_gi s w hs h4).mono fun _ _ hh => by obtain ⟨v, h1, h2⟩ := hh; exact ⟨v, h1, h2.rd, h2.2⟩
end Go.Proofs.YthppjmhocmppfaaDoor
