/- The laws' example. -/
import Derived.Test.YteaeccmlibmmmaaArI
namespace Go.Proofs.Yteaeccmlibmmmaa.Ar
open Go.RowKit Go.Shelf
abbrev sA : ByteArray := ⟨#[65]⟩
abbrev sB : ByteArray := ⟨#[66]⟩
abbrev exO : Out := ⟨sA, 0, 0, 100, 100⟩
def exL : List Str := [⟨sA, 0, 0, 20, 0⟩, ⟨sA, 5, 0, 10, 0⟩, ⟨sB, 0, 9, 0, 0⟩]
theorem isAA (a b c d : Int) : isOf sA ⟨sA, a, b, c, d⟩ = true := beq_self_eq_true _
theorem isBA (a b c d : Int) : isOf sA ⟨sB, a, b, c, d⟩ = false := by
  show (sB.toList == sA.toList) = false
  rw [ByteArray.toList_eq, ByteArray.toList_eq]; decide
theorem ex_stg (f : Str → Int) : stg sA f exL = max (max 0 (f ⟨sA, 0, 0, 20, 0⟩)) (f ⟨sA, 5, 0, 10, 0⟩) := by
  simp only [stg, exL, List.foldl_cons, List.foldl_nil, isAA, isBA, if_true, Bool.false_eq_true, if_false]
theorem ex_work : workI exO exL = ⟨5, 20, 95, 80⟩ := by
  show insetR 0 0 100 100 (stg sA (·.l) exL) (stg sA (·.t) exL) (stg sA (·.r) exL) (stg sA (·.b) exL) = _
  rw [ex_stg, ex_stg, ex_stg, ex_stg]
  rfl
set_option maxHeartbeats 1000000 in
theorem awake_c (w : World) : Calls Try.prog 10 #[] w fun e w' => e = .returned (.bool true) ∧ Below w.heap.size w w' := by
  obtain ⟨wB, hwB⟩ : ∃ wB, wB = (w.alloc (.cells #[.string sA, .int .i64 0, .int .i64 0, .int .i64 100, .int .i64 100] 31)).alloc (.cells #[.string sA, .int .i64 0, .int .i64 0, .int .i64 20, .int .i64 0, .string sA, .int .i64 5, .int .i64 0, .int .i64 10, .int .i64 0, .string sB, .int .i64 0, .int .i64 9, .int .i64 0, .int .i64 0] 46) := ⟨_, rfl⟩
  have hb0 : Below w.heap.size w wB := by rw [hwB]; exact ((Below.refl _ _).alloc (Nat.le_refl _) _).alloc (by simp) _
  have hq : Blk wB (w.heap.size + 1) 46 #[.string sA, .int .i64 0, .int .i64 0, .int .i64 20, .int .i64 0, .string sA, .int .i64 5, .int .i64 0, .int .i64 10, .int .i64 0, .string sB, .int .i64 0, .int .i64 9, .int .i64 0, .int .i64 0] := by
    rw [hwB]; have := Blk.new (w.alloc (.cells #[.string sA, .int .i64 0, .int .i64 0, .int .i64 100, .int .i64 100] 31)) 46 #[.string sA, .int .i64 0, .int .i64 0, .int .i64 20, .int .i64 0, .string sA, .int .i64 5, .int .i64 0, .int .i64 10, .int .i64 0, .string sB, .int .i64 0, .int .i64 9, .int .i64 0, .int .i64 0]; rwa [World.size_alloc] at this
  have hr : RdK encS 5 wB (.slice (some ⟨w.heap.size + 1, 0, none⟩) 3 3) exL := by
    refine ⟨some ⟨w.heap.size + 1, 0, none⟩, 3, rfl, fun j x hx => ⟨_, _, rfl, hq.lt, fun i u hu => ?_⟩⟩
    refine hq.at_ (i := 0 + j * 5 + i) ?_
    have hj : j < 3 := (List.getElem?_eq_some_iff.1 hx).1
    have hi : i < 5 := by have := (List.getElem?_eq_some_iff.1 hu).1; simpa [encS] using this
    rcases (show j = 0 ∨ j = 1 ∨ j = 2 by omega) with rfl | rfl | rfl
    all_goals
      simp only [exL, List.getElem?_cons_zero, List.getElem?_cons_succ, Option.some.injEq] at hx
      subst hx
      rcases (show i = 0 ∨ i = 1 ∨ i = 2 ∨ i = 3 ∨ i = 4 by omega) with rfl | rfl | rfl | rfl | rfl <;> exact hu
  have HW := Lib.hid (Work_c exO _ exL wB hr (by decide))
  rw [ex_work] at HW
  have HB := Lib.hid hb0
  have HWB := Lib.hid hwB
  clear hb0 hq hr hwB
  go_enter Try.func10, Try.ntmps10
  go_wp2_with fail
  rw [← HWB.out]
  refine HW.out.mono ?_
  rintro e w1 ⟨rfl, hb⟩
  have HB1 := Lib.hid (HB.out.trans (hb.mono HB.out.size))
  clear hb
  go_wp2_with fail
  go_ret
  exact ⟨rfl, HB1.out⟩
end Go.Proofs.Yteaeccmlibmmmaa.Ar
