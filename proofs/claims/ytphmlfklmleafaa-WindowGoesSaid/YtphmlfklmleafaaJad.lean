/- GeoE -/
import Derived.Test.YtphmlfklmleafaaJaa
section
namespace Go.Proofs.Ytphmlfklmleafaa
open Go.RowKit
end Go.Proofs.Ytphmlfklmleafaa
end
