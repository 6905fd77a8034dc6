import Derived.Test.YtjgleibbhgfcpaaRcJ
import Derived.Test.YtjgleibbhgfcpaaRcL
namespace Go.Proofs.Ytjgleibbhgfcpaa
open Go.RowKit Go.Shelf
theorem paints_w (a b col : Int) (v : Value) (ts : List Pt) (x y : Int) (w : World) (hc : (Lit.int .u32 col).wf = true) (hv : IsPaints w.heap.size w v ts) :
    Calls Try.prog 10 #[.int .i64 a, .int .i64 b, .int .u32 col, v, .agg #[.int .i64 x, .int .i64 y]] w fun e' w' => e' = .returned (.bool true) ∧ Below w.heap.size w w' := by
  have hcol := wf_u32 hc
  by_cases hg : (0 ≤ a ∧ a ≤ 60) ∧ (0 ≤ b ∧ b ≤ 60)
  · obtain ⟨W, rfl⟩ := Int.eq_ofNat_of_zero_le hg.1.1
    obtain ⟨H, rfl⟩ := Int.eq_ofNat_of_zero_le hg.2.1
    exact paints_good W H col x y v ts w (by omega) (by omega) hcol hv
  · obtain ⟨p, cp, rfl, _, _⟩ := hv
    by_cases hb : (60 < a ∧ a ≤ 1024) ∨ (60 < b ∧ b ≤ 1024)
    · exact paints_big a b col x y p _ cp w hb
    · exact paints_bad a b col x y p _ cp w (by omega) (by omega)
end Go.Proofs.Ytjgleibbhgfcpaa
