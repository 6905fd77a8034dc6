/- GeoE -/
import Derived.Test.YtfdgpbdppenhmaaGreatSaa
section
namespace Go.Proofs.YtfdgpbdppenhmaaGreat
open Go.RowKit
end Go.Proofs.YtfdgpbdppenhmaaGreat
end
