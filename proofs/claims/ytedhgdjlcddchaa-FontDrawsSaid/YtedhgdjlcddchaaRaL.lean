import Derived.Test.YtedhgdjlcddchaaRaK
namespace Go.Proofs.Ytedhgdjlcddchaa
open Go.RowKit
theorem new_no (a b col : Int) (w : World) (h : ¬ ((0 ≤ a ∧ a ≤ 1024) ∧ 0 ≤ b ∧ b ≤ 1024)) :
    Calls Try.prog 34 #[.int .i64 a, .int .i64 b, .int .u32 col] w fun e w' => e = .returned (.tuple #[.pointer none, .int .i64 1]) ∧ Below w.heap.size w w' := by
  have hA := fun W => mayBe_c a W
  have hB := fun W => mayBe_c b W
  by_cases ha : 0 ≤ a ∧ a ≤ 1024
  · have hb : ¬ (0 ≤ b ∧ b ≤ 1024) := fun hb => h ⟨ha, hb⟩
    rw [decide_eq_true ha] at hA
    rw [decide_eq_false hb] at hB
    have HA := Lib.hid hA
    have HB := Lib.hid hB
    clear hA hB h ha hb
    go_enter Try.func34, Try.ntmps34
    go_wp2_with (first | (go_at_call 62; (with_reducible refine (HA.out _).mono ?_); rintro e w' ⟨rfl, rfl⟩) | (go_at_call 62; (with_reducible refine (HB.out _).mono ?_); rintro e w' ⟨rfl, rfl⟩))
    go_ret2
    exact ⟨rfl, by repeat' (first | (with_reducible exact Below.refl _ _) | (with_reducible assumption) | (with_reducible refine Below.alloc ?_ ?_ _) | (with_reducible refine Below.drew ?_) | (with_reducible refine Below.setCell ?_ ?_ _) | (with_reducible refine Below.on (by with_reducible assumption) ?_ ?_) | go_size)⟩
  · rw [decide_eq_false ha] at hA
    have HA := Lib.hid hA
    clear hA hB h ha
    go_enter Try.func34, Try.ntmps34
    go_wp2_with (go_at_call 62; (with_reducible refine (HA.out _).mono ?_); rintro e w' ⟨rfl, rfl⟩)
    go_ret2
    exact ⟨rfl, by repeat' (first | (with_reducible exact Below.refl _ _) | (with_reducible assumption) | (with_reducible refine Below.alloc ?_ ?_ _) | (with_reducible refine Below.drew ?_) | (with_reducible refine Below.setCell ?_ ?_ _) | (with_reducible refine Below.on (by with_reducible assumption) ?_ ?_) | go_size)⟩
theorem canv_mk {w1 : World} {G N W H : Nat} {col : Int} (hG : Blk w1 G 50 (colA (List.replicate N col))) (hN : N = W * H) (hW : W ≤ 1024) (hH : H ≤ 1024) (hcol : 0 ≤ col ∧ col < 4294967296) :
    Canv (w1.alloc (.cells #[.int .i64 W, .int .i64 H, .slice (some ⟨G, 0, none⟩) N N, .int .i64 0, .int .i64 0, .int .i64 0, .int .i64 0] 89)) w1.heap.size (some G) W H zeroR (List.replicate (W * H) col) := by
  subst hN
  refine ⟨Blk.new _ _ _, fun b hb => ?_, fun h => (by cases h), by simp, fun u hu => ?_, hW, hH, fun x y h => ?_⟩
  · injection hb with hb; subst hb; exact hG.alloc _
  · rw [List.eq_of_mem_replicate hu]; exact hcol
  · rw [show hasB zeroR.x zeroR.y zeroR.w zeroR.h x y = false from hasB_emp emp_zero _ _] at h
    cases h
set_option maxHeartbeats 2000000 in
theorem new_yes (W H : Nat) (col : Int) (w : World) (hW : W ≤ 1024) (hH : H ≤ 1024) (hcol : 0 ≤ col ∧ col < 4294967296) :
    Calls Try.prog 34 #[.int .i64 W, .int .i64 H, .int .u32 col] w fun e w' => ∃ g b, e = .returned (.tuple #[.pointer (some ⟨g, 0, none⟩), .int .i64 0]) ∧
      Canv w' g (some b) W H (int ⟨0, 0, W, H⟩ ⟨0, 0, W, H⟩) (List.replicate (W * H) col) ∧ w.heap.size ≤ g ∧ w.heap.size ≤ b ∧ Below w.heap.size w w' := by
  have hA := fun W1 => mayBe_c W W1
  have hB := fun W1 => mayBe_c H W1
  rw [decide_eq_true (by omega)] at hA hB
  have HA := Lib.hid hA
  have HB := Lib.hid hB
  clear hA hB
  obtain ⟨N, hN⟩ : ∃ N, N = W * H := ⟨_, rfl⟩
  have hNb : N ≤ 1048576 := by rw [hN]; exact Nat.le_trans (Nat.mul_le_mul hW hH) (by omega)
  have hWH : (W : Int) * (H : Int) = (N : Int) := by rw [hN, Int.natCast_mul]
  have HN := Lib.hid hN
  have HWH := Lib.hid hWH
  have hRep := fun W1 hq => repeat_c w.heap.size N col W1 hq hNb
  have HR := Lib.hid hRep
  clear hN hRep
  go_enter Try.func34, Try.ntmps34
  go_wp2_with (first
    | (go_at_call 62; (with_reducible refine (HA.out _).mono ?_); rintro e w' ⟨rfl, rfl⟩)
    | (go_at_call 62; (with_reducible refine (HB.out _).mono ?_); rintro e w' ⟨rfl, rfl⟩)
    | (go_at_call 63; (refine (HR.out _ (Blk.new _ _ _)).mono ?_); rintro e w1 ⟨G, rfl, hG, hG2, hb⟩; have hC0 := canv_mk hG HN.out hW hH hcol; have hb1 : Below w.heap.size w w1 := ((Below.refl _ w).alloc (Nat.le_refl _) _).trans (hb.mono (by simp)); clear hb)
    | (go_at_call 64; (refine (all_c w1.heap.size W H _ _ _ _ _ _ hC0.1).mono ?_); rintro e w2 ⟨rfl, hb⟩; have hC1 := hC0.next hb; have hb2 : Below w.heap.size w w2 := (hb1.alloc hb1.size _).trans (hb.mono (by have := hb1.size; simp; omega)); clear hb)
    | (go_at_call 36; (refine (clip_c w1.heap.size (some G) W H zeroR _ 0 0 W H _ hC1).mono ?_); rintro e w3 ⟨rfl, hC2, hg⟩))
  go_ret2
  have hg1 : w.heap.size ≤ w1.heap.size := hb1.size
  refine ⟨w1.heap.size, G, rfl, hC2, hg1, by simp at hG2; omega, hb2.grown hg hb2.size (fun k hk => by injection hk with hk; omega)⟩
end Go.Proofs.Ytedhgdjlcddchaa
