/- WindowNobody at an act. -/
import Derived.Test.YtlbbjinkblgfiaaWaC
import Derived.Test.YtlbbjinkblgfiaaWaO
namespace Go.Proofs.Ytlbbjinkblgfiaa
open Go.RowKit Go.Shelf Go.Maps
theorem nobody_t (t : Ac) (px py : Int) (w : World) (h : t.ok) : Calls Try.prog 8 #[.agg ⟨t.cells⟩, .agg #[.int .i64 px, .int .i64 py]] w fun e w' => e = .returned (.bool true) ∧ Below w.heap.size w w' :=
  nobody_w t.kind t.win t.other t.x t.y t.a t.e px py w h.1
end Go.Proofs.Ytlbbjinkblgfiaa
