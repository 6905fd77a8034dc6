import Derived.Test.YtfckgkbhphkhoaaProg
import Derived.Test.YtfckgkbhphkhoaaPlain
import Derived.WalkKit
import Derived.WalkSpells
import Derived.WalkLawsBesides
import Derived.ProofKit
import Derived.Lib.Hide
import Derived.Outline
import Derived.Laws.Pointers
import Derived.Deep.RegionHeld3
import Derived.Handy
import Derived.KernelRfl
namespace Go.Proofs.Ytfckgkbhphkhoaa
open Go.RowKit

theorem nearest_c (v least most : Int) (w : World) :
    Calls Try.prog 46 #[.int .i64 v, .int .i64 least, .int .i64 most] w fun e w' => e = .returned (.int .i64 (spanI v least most)) ∧ w = w' := by
  go_enter Try.func46, Try.ntmps46
  go_wp2
  all_goals (go_ret; exact ⟨by unfold spanI; congr 2; simp; omega, rfl⟩)
theorem span_c (v least most : Int) (w : World) :
    Calls Try.prog 32 #[.int .i64 v, .int .i64 least, .int .i64 most] w fun e w' => e = .returned (.int .i64 (spanI v least most)) ∧ w = w' := by
  go_enter Try.func32, Try.ntmps32
  go_wp2_with (go_at_call 46; refine (nearest_c _ _ _ _).mono ?_; rintro e w' ⟨rfl, rfl⟩)
  go_ret
  exact ⟨rfl, rfl⟩
theorem rspan_c (v least most : Int) (w : World) :
    Calls Try.prog 28 #[.int .i64 v, .int .i64 least, .int .i64 most] w fun e w' => e = .returned (.int .i64 (spanI v least most)) ∧ w = w' := by
  go_enter Try.func28, Try.ntmps28
  go_wp2
  all_goals (go_ret; exact ⟨by unfold spanI; congr 2; simp; omega, rfl⟩)
theorem _root_.Go.RowKit.Below.on {B : Nat} {a w w1 : World} (h : Below w.heap.size w w1) (k : Below B a w) (hB : B ≤ w.heap.size) : Below B a w1 := k.trans (h.mono hB)
theorem ret_bool {a b : Bool} (h : a = b) : Ending.returned (.bool a) = .returned (.bool b) := by rw [h]
theorem ret_int {k : IntKind} {a b : Int} (h : a = b) : Ending.returned (.int k a) = .returned (.int k b) := by rw [h]
theorem bcell {W w1 : World} (hb : Below W.heap.size W w1) : (∀ b o, b < W.heap.size → w1.cell? ⟨b, o, none⟩ = W.cell? ⟨b, o, none⟩) ∧ (∀ b o, b < W.heap.size → w1.frozen? ⟨b, o, none⟩ = W.frozen? ⟨b, o, none⟩) :=
  ⟨fun b o h => hb.cell (p := ⟨b, o, none⟩) h, fun b o h => hb.frozen (p := ⟨b, o, none⟩) h⟩
end Go.Proofs.Ytfckgkbhphkhoaa
