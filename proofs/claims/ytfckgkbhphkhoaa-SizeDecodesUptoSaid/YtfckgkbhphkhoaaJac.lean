/- The texts that row texts of prop stand on, in the seat of sizes: imports alone. -/
import Derived.Test.YtfckgkbhphkhoaaMem
import Derived.Test.YtfckgkbhphkhoaaRhA
import Derived.Test.YtfckgkbhphkhoaaRhB
