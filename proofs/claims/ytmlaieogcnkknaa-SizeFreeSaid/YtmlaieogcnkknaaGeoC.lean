import Derived.Test.YtmlaieogcnkknaaGeoB
namespace Go.Proofs.Ytmlaieogcnkknaa
open Go.RowKit
end Go.Proofs.Ytmlaieogcnkknaa
