import Derived.Test.YtedhgdjlcddchaaFoE
namespace Go.Proofs.Ytedhgdjlcddchaa
open Go.RowKit Go.Shelf
theorem wf_int {a : Int} (h : (Lit.int .i64 a).wf = true) : -9223372036854775808 ≤ a ∧ a ≤ 9223372036854775807 := by
  simp only [Lit.wf, decide_eq_true_eq, Bool.and_eq_true] at h
  have h1 : IntKind.i64.min = -9223372036854775808 := rfl
  have h2 : IntKind.i64.max = 9223372036854775807 := rfl
  omega
theorem fits_l (s : ByteArray) (n : Int) (w : World) (hs : s.size ≤ 140737488355328) (hn : (Lit.int .i64 n).wf = true) :
    Calls Try.prog 10 #[.string s, .int .i64 n] w fun e w' => e = .returned (.bool true) ∧ Below w.heap.size w w' := fits_w s n w hs (wf_int hn).1 (wf_int hn).2
theorem short_l (s : ByteArray) (n : Int) (w : World) (hs : s.size ≤ 140737488355328) (hn : (Lit.int .i64 n).wf = true) :
    Calls Try.prog 12 #[.string s, .int .i64 n] w fun e w' => e = .returned (.bool true) ∧ Below w.heap.size w w' := short_w s n w hs (wf_int hn).1 (wf_int hn).2
end Go.Proofs.Ytedhgdjlcddchaa
