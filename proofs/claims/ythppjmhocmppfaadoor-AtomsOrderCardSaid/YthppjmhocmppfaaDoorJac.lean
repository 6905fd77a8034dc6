/- The texts that row texts of prop stand on, in the seat of sizes: imports alone. -/
import Derived.Test.YthppjmhocmppfaaDoorMem
import Derived.Test.YthppjmhocmppfaaDoorRhA
import Derived.Test.YthppjmhocmppfaaDoorRhB
