import Derived.Test.YtedhgdjlcddchaaRaC
import Derived.Laws.CopyOwn
import Derived.Laws.MakeOwn
import Derived.Laws.AppendOwn
import Derived.LoopTactic
import Derived.Deep.RegionLaw
import Derived.Laws.BitsAllLaws
import Derived.IntWalk
namespace Go.Proofs.Ytedhgdjlcddchaa
open Go.RowKit
set_option maxHeartbeats 1000000 in
theorem mul64_one (n : Nat) (w : World) (hn : n ≤ 1048576) : Calls Try.prog 108 #[.int .u64 1, .int .u64 n] w fun e w' => e = .returned (.tuple #[.int .u64 0, .int .u64 n]) ∧ w = w' := by
  have b0 : bits .and .u64 0 4294967295 = 0 := by decide +kernel
  have b1 : bits .and .u64 1 4294967295 = 1 := by decide +kernel
  have b2 : bits .and .u64 (n : Int) 4294967295 = n := by
    have := u64_and_nat n 4294967295 (by omega) (by omega)
    rw [show n &&& 4294967295 = n % 2 ^ 32 from Nat.and_two_pow_sub_one_eq_mod n 32] at this
    exact this.trans (by omega)
  have d1 : (n : Int) / 4294967296 = 0 := by omega
  go_enter Try.func108, Try.ntmps108
  go_wp2
  go_ret2
  exact ⟨rfl, rfl⟩
set_option maxHeartbeats 1000000 in
theorem mul_one_c (n : Nat) (w : World) (hn : n ≤ 1048576) : Calls Try.prog 90 #[.int .u64 1, .int .u64 n] w fun e w' => e = .returned (.tuple #[.int .u64 0, .int .u64 n]) ∧ w = w' := by
  go_enter Try.func90, Try.ntmps90
  go_wp2_with (go_at_call 108; refine (mul64_one n _ hn).mono ?_; rintro e w' ⟨rfl, rfl⟩)
  go_ret2
  exact ⟨rfl, rfl⟩
theorem u32_info : (Try.prog.info? 50).map (fun i => (i.zero, i.size, i.bytes)) = some (some (.int .u32 0), 1, 4) := by kernel_rfl
theorem u32_size : (Try.prog.info? 50).map (·.size) = some 1 := by kernel_rfl
/-- A row of n cells whose first m hold this colour. -/
def half (n m : Nat) (col : Int) : List Value := List.replicate m (.int .u32 col) ++ List.replicate (n - m) (.int .u32 0)
theorem half_len (n m : Nat) (col : Int) (h : m ≤ n) : (half n m col).length = n := by unfold half; simp; omega
theorem half_splice (n m k : Nat) (col : Int) : splice (half n m col) m (List.replicate k (.int .u32 col)) = half n (m + k) col := by
  unfold splice half
  have e1 : (List.replicate m (Value.int .u32 col) ++ List.replicate (n - m) (Value.int .u32 0)).take m = List.replicate m (Value.int .u32 col) := by
    rw [List.take_append_of_le_length (by simp)]; simp
  have e2 : (List.replicate m (Value.int .u32 col) ++ List.replicate (n - m) (Value.int .u32 0)).drop (m + (List.replicate k (Value.int .u32 col)).length) = List.replicate (n - (m + k)) (Value.int .u32 0) := by
    rw [List.length_replicate, List.drop_append, List.drop_eq_nil_of_le (by simp)]
    simp
    omega
  rw [e1, e2, ← List.append_assoc, List.replicate_append_replicate]
theorem half_get (n m j : Nat) (col : Int) (h : j < m) : (half n m col)[j]? = some (.int .u32 col) := by
  unfold half
  rw [List.getElem?_append_left (by simpa using h)]
  simp [h]
theorem half_full (n : Nat) (col : Int) : (half n n col).toArray = colA (List.replicate n col) := by
  unfold half colA; simp
theorem half_none (n : Nat) (col : Int) : madeCells (Value.int .u32 0).cells (n * 1) = (half n 0 col).toArray := by
  apply Array.ext_getElem?
  intro i
  unfold madeCells half
  simp [Value.cells]
  by_cases h : i < n <;> simp [h, Nat.mod_one]
set_option maxRecDepth 100000 in
set_option maxHeartbeats 2000000 in
theorem repeat_c (q n : Nat) (col : Int) (w : World) (hq : Blk w q 50 #[.int .u32 col]) (hn : n ≤ 1048576) :
    Calls Try.prog 63 #[.slice (some ⟨q, 0, none⟩) 1 1, .int .i64 n] w fun e w' => ∃ G, e = .returned (.slice (some ⟨G, 0, none⟩) n n) ∧ Blk w' G 50 (colA (List.replicate n col)) ∧ w.heap.size ≤ G ∧ Below w.heap.size w w' := by
  have hql := hq.lt
  obtain ⟨i0, hi, hz0, hz1, hz2⟩ := info_parts u32_info
  have hmk : ∀ W : World, (Instr.makeSlice 54 (.int .i64 n) (.int .i64 n)).run Try.prog W = .ok (.slice (some ⟨W.heap.size, 0, none⟩) n n) (W.alloc (.cells (half n 0 col).toArray 50)) := by
    intro W
    have h := run_make (P := Try.prog) W 54 50 i0 (.int .u32 0) Try.underlying54 hi hz0 .i64 .i64 n n (by omega) (by omega) (by rw [hz2]; omega) (by omega)
    rw [hz1, Int.toNat_natCast, half_none n col] at h
    exact h
  clear hi
  have n1 : ¬ ((n : Int) < 0) := by omega
  have n2 : decide ((9223372036854775807 : Int) < n) = false := by simp; omega
  have B0 := Blk.new w 50 (half n 0 col).toArray
  have hq0 := hq.alloc (.cells (half n 0 col).toArray 50)
  have hL := half_len n 0 col (by omega)
  have hS := half_splice n 0 (min 1 n) col
  obtain ⟨m0, hm0⟩ : ∃ m0, m0 = min 1 n := ⟨_, rfl⟩
  rw [← hm0] at hS
  have HC1 := Lib.hid (show (List.replicate m0 (Value.int .u32 col)).length = Nat.min 1 n by rw [hm0]; simp)
  have HC2 := Lib.hid (show ∀ j v, (List.replicate m0 (Value.int .u32 col))[j]? = some v → (w.alloc (.cells (half n 0 col).toArray 50)).cell? ((⟨q, 0, none⟩ : Addr).add j) = some v from by
    intro j v hv
    have hj : j < m0 := by simpa using (List.getElem?_eq_some_iff.1 hv).1
    have : j = 0 := by omega
    subst this
    rw [List.getElem?_replicate_of_lt hj] at hv
    rw [← hv]
    exact hq0.at_ (i := 0) rfl)
  have HC3 := Lib.hid (show 0 + (List.replicate m0 (Value.int .u32 col)).length ≤ (half n 0 col).length by rw [hL, hm0]; simp; omega)
  have HC4 := Lib.hid (show ∀ v ∈ List.replicate m0 (Value.int .u32 col), v.oneCell' = true from fun v hv => by rw [List.eq_of_mem_replicate hv]; rfl)
  have HS := Lib.hid hS
  have HB := Lib.hid B0
  have HM := Lib.hid hm0
  clear hL hS B0 hm0 hq0
  go_enter Try.func63, Try.ntmps63
  go_wp2_with (first
    | (go_at_call 90; refine (mul_one_c n _ hn).mono ?_; rintro e w' ⟨rfl, rfl⟩)
    | ((with_reducible refine wpList_copy_splice rfl (.tmp 31) (.tmp 32) 54 54 rfl 50 Try.underlying54 u32_size _ _ _ _ _ _ rfl rfl w.heap.size 0 (half n 0 col) 50 HB.out.raw (List.replicate m0 (.int .u32 col)) HC1.out (fun _ => ⟨rfl, _, rfl, HC2.out⟩) HC3.out HC4.out w.heap.size w ((Below.refl _ w).alloc (Nat.le_refl _) _) (Nat.le_refl _) ?_); intro w1 hB1 hb1))
  have B1 : Blk w1 w.heap.size 50 (half n m0 col).toArray := by
    have h := hB1.out
    rw [HS.out, Nat.zero_add] at h
    exact h
  clear hB1 HB
  go_loopw [8] (fun v wr => ∃ m : Nat, v = .int .i64 m ∧ m ≤ n ∧ (0 < n → 1 ≤ m) ∧ Blk wr w.heap.size 50 (half n m col).toArray ∧ Below w.heap.size w wr) (fun v _ => n - (intOf v).toNat)
  case atStart => exact ⟨m0, rfl, by rw [HM.out]; omega, fun h => by rw [HM.out]; omega, B1, hb1⟩
  case round =>
    obtain ⟨m, rfl, hm1, hm2, B2, hb2⟩ := hrel
    by_cases hlt : m < n
    · have hm3 := hm2 (by omega)
      obtain ⟨k, hk⟩ : ∃ k, k = min m (n - m) := ⟨_, rfl⟩
      have hk1 : 1 ≤ k := by omega
      have hk2 : m + k ≤ n := by omega
      have HS2 := Lib.hid (half_splice n m k col)
      have HC1 := Lib.hid (show (List.replicate k (Value.int .u32 col)).length = Nat.min m (n - m) by rw [hk]; simp)
      have HL := half_len n m col hm1
      have HC2 := Lib.hid (show ∀ j v, (List.replicate k (Value.int .u32 col))[j]? = some v → wr.drew.cell? ((⟨w.heap.size, 0, none⟩ : Addr).add j) = some v from by
        intro j v hv
        have hj : j < k := by simpa using (List.getElem?_eq_some_iff.1 hv).1
        rw [List.getElem?_replicate_of_lt hj] at hv
        rw [Addr.add_lit, Nat.zero_add]
        refine B2.drew.at_ ?_
        rw [← hv, List.getElem?_toArray]
        exact half_get n m j col (by omega))
      have HC3 := Lib.hid (show m + (List.replicate k (Value.int .u32 col)).length ≤ (half n m col).length by rw [HL]; simp; omega)
      have HC4 := Lib.hid (show ∀ v ∈ List.replicate k (Value.int .u32 col), v.oneCell' = true from fun v hv => by rw [List.eq_of_mem_replicate hv]; rfl)
      have HK := Lib.hid hk
      have hi1 : (m : Int) < (n : Int) := by omega
      have hi2 : ¬ n = m := by omega
      have hi3 : ¬ n = n - m := by omega
      clear hk HL hm2
      have hwr : IntKind.i64.wrap ((m : Int) + (k : Int)) = (m : Int) + (k : Int) := IntWalk.i64_in _ (by omega)
      go_wp2
      refine wp_region_noPanic ?_
      refine wp_region_held_drew (S := fun _ => True) (by kernel_rfl) (by trivial) (fun hHeld => ?_)
      refine wpAnyH_take (i := 0) (v := ?v0) rfl (by kernel_rfl) (by kernel_rfl) (by kernel_rfl) (fun _ _ _ h => h) (Or.inl ⟨by kernel_rfl, ?y0⟩) (by assumption) ?r0
      case y0 => (intro wq hSw; (try dsimp only at hSw); go_simp; (try with_reducible rfl))
      (try simp only [Act.put, List.getElem_toArray, List.getElem_cons_zero, List.setIfInBounds_toArray, List.set_cons_zero, List.set_cons_succ])
      refine wpAnyH_take (i := 1) (v := ?v1) rfl (by kernel_rfl) (by kernel_rfl) (by kernel_rfl) (fun _ _ _ h => h) (Or.inl ⟨by kernel_rfl, ?y1⟩) (by assumption) ?r1
      case y1 => (intro wq hSw; (try dsimp only at hSw); go_simp; (try with_reducible rfl))
      (try simp only [Act.put, List.getElem_toArray, List.getElem_cons_succ, List.getElem_cons_zero, List.setIfInBounds_toArray, List.set_cons_zero, List.set_cons_succ])
      refine wpAnyH_take (i := 2) (v := ?v2) rfl (by kernel_rfl) (by kernel_rfl) (by kernel_rfl) (fun _ _ _ h => h) (Or.inl ⟨by kernel_rfl, ?y2⟩) (by assumption) ?r2
      case y2 => (intro wq hSw; (try dsimp only at hSw); go_simp; (try with_reducible rfl))
      (try simp only [Act.put, List.getElem_toArray, List.getElem_cons_succ, List.getElem_cons_zero, List.setIfInBounds_toArray, List.set_cons_zero, List.set_cons_succ])
      refine wpAnyH_take (i := 3) (v := ?v3) rfl (by kernel_rfl) (by kernel_rfl) (by kernel_rfl) (fun _ _ _ h => h) (Or.inl ⟨by kernel_rfl, ?y3⟩) (by assumption) ?r3
      case y3 => (intro wq hSw; (try dsimp only at hSw); go_simp; (try with_reducible rfl))
      (try simp only [Act.put, List.getElem_toArray, List.getElem_cons_succ, List.getElem_cons_zero, List.setIfInBounds_toArray, List.set_cons_zero, List.set_cons_succ])
      refine wpAnyH_take (i := 4) (v := ?v4) rfl (by kernel_rfl) (by kernel_rfl) (by kernel_rfl) (fun _ _ _ h => h) (Or.inl ⟨by kernel_rfl, ?y4⟩) (by assumption) ?r4
      case y4 => (intro wq hSw; (try dsimp only at hSw); go_simp; (try with_reducible rfl))
      (try simp only [Act.put, List.getElem_toArray, List.getElem_cons_succ, List.getElem_cons_zero, List.setIfInBounds_toArray, List.set_cons_zero, List.set_cons_succ])
      refine wpAnyH_take (i := 5) (v := ?v5) rfl (by kernel_rfl) (by kernel_rfl) (by kernel_rfl) (fun _ _ _ h => h) (Or.inl ⟨by kernel_rfl, ?y5⟩) (by assumption) ?r5
      case y5 => (intro wq hSw; (try dsimp only at hSw); go_simp; (try with_reducible rfl))
      (try simp only [Act.put, List.getElem_toArray, List.getElem_cons_succ, List.getElem_cons_zero, List.setIfInBounds_toArray, List.set_cons_zero, List.set_cons_succ])
      refine wpAnyH_take (i := 6) (v := ?v6) rfl (by kernel_rfl) (by kernel_rfl) (by kernel_rfl) (fun _ _ _ h => h) (Or.inl ⟨by kernel_rfl, ?y6⟩) (by assumption) ?r6
      case y6 => (intro wq hSw; (try dsimp only at hSw); go_simp; (try with_reducible rfl))
      (try simp only [Act.put, List.getElem_toArray, List.getElem_cons_succ, List.getElem_cons_zero, List.setIfInBounds_toArray, List.set_cons_zero, List.set_cons_succ])
      refine wpAnyH_ready (rs := [7]) (by kernel_rfl) (by simp) ?_
      refine AllReadyH.cons rfl (fun K hK => ?_) AllReadyH.nil
      (refine step_copy_splice rfl (.tmp 41) (.tmp 44) 54 54 rfl 50 Try.underlying54 u32_size (some ⟨w.heap.size, m, none⟩) (some ⟨w.heap.size, 0, none⟩) (n - m) (n - m) m n rfl rfl w.heap.size m (half n m col) 50 B2.drew.raw (List.replicate k (.int .u32 col)) HC1.out (fun _ => ⟨rfl, _, rfl, HC2.out⟩) HC3.out HC4.out w.heap.size w hb2.drew (Nat.le_refl _) ?_); intro w2 hB2 hb3
      refine hK.out _ _ (by trivial) (fun hHeld => ?_)
      clear hK K
      (try simp only [Act.put, List.getElem_toArray, List.getElem_cons_succ, List.getElem_cons_zero, List.setIfInBounds_toArray, List.set_cons_zero, List.set_cons_succ])
      refine wpAnyH_take (i := 8) (v := ?v8) rfl (by kernel_rfl) (by kernel_rfl) (by kernel_rfl) (fun _ _ _ h => h) (Or.inl ⟨by kernel_rfl, ?y8⟩) (by assumption) ?r8
      case y8 => (intro wq hSw; (try dsimp only at hSw); go_simp; (try with_reducible rfl))
      (try simp only [Act.put, List.getElem_toArray, List.getElem_cons_succ, List.getElem_cons_zero, List.setIfInBounds_toArray, List.set_cons_zero, List.set_cons_succ])
      refine wpAnyH_take (i := 9) (v := ?v9) rfl (by kernel_rfl) (by kernel_rfl) (by kernel_rfl) (fun _ _ _ h => h) (Or.inl ⟨by kernel_rfl, ?y9⟩) (by assumption) ?r9
      case y9 => (intro wq hSw; (try dsimp only at hSw); go_simp; (try with_reducible rfl))
      (try simp only [Act.put, List.getElem_toArray, List.getElem_cons_succ, List.getElem_cons_zero, List.setIfInBounds_toArray, List.set_cons_zero, List.set_cons_succ])
      refine wpAnyH_done (by kernel_rfl) ?_ _
      refine NoPanic.normal ?_
      have B3 : Blk w2 w.heap.size 50 (half n (m + k) col).toArray := by
        have h := hB2.out
        rw [HS2.out] at h
        exact h
      clear hB2
      go_wp2
      go_roundw
      case rel => exact ⟨m + k, by first | rfl | go_num | (simp; omega), hk2, fun _ => by omega, B3, hb3⟩
      case measure => simp [intOf]; omega
    · have : m = n := by omega
      subst this
      go_wp2
      go_ret
      exact ⟨w.heap.size, rfl, by rw [← half_full]; exact B2, Nat.le_refl _, hb2⟩
end Go.Proofs.Ytedhgdjlcddchaa
