import Derived.Test.YtlbbjinkblgfiaaGeoD
namespace Go.Proofs.Ytlbbjinkblgfiaa
open Go.RowKit
end Go.Proofs.Ytlbbjinkblgfiaa
