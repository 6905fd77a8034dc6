import Derived.Test.YthppjmhocmppfaaDoorGeoA
namespace Go.Proofs.YthppjmhocmppfaaDoor
open Go.RowKit
theorem ret_pt {a b c d : Int} (h1 : a = c) (h2 : b = d) : Ending.returned (.agg #[.int .i64 a, .int .i64 b]) = .returned (.agg #[.int .i64 c, .int .i64 d]) := by rw [h1, h2]
theorem ret_rc {a b c d : Int} {r : Rc} (h : r = ⟨a, b, c, d⟩) : Ending.returned (.agg #[.int .i64 a, .int .i64 b, .int .i64 c, .int .i64 d]) = .returned (.agg #[.int .i64 r.x, .int .i64 r.y, .int .i64 r.w, .int .i64 r.h]) := by rw [h]
end Go.Proofs.YthppjmhocmppfaaDoor
