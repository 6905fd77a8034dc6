import Derived.Test.YthppjmhocmppfaaDoorGeoB
namespace Go.Proofs.YthppjmhocmppfaaDoor
open Go.RowKit
end Go.Proofs.YthppjmhocmppfaaDoor
