import Derived.Test.YtfckgkbhphkhoaaGeoB
namespace Go.Proofs.Ytfckgkbhphkhoaa
open Go.RowKit
end Go.Proofs.Ytfckgkbhphkhoaa
