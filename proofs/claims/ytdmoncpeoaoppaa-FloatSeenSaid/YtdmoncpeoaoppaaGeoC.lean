import Derived.Test.YtdmoncpeoaoppaaGeoB
namespace Go.Proofs.Ytdmoncpeoaoppaa
open Go.RowKit
end Go.Proofs.Ytdmoncpeoaoppaa
