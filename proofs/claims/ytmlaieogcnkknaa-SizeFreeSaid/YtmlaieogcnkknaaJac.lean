/- The texts that row texts of prop stand on, in the seat of sizes: imports alone. -/
import Derived.Test.YtmlaieogcnkknaaMem
import Derived.Test.YtmlaieogcnkknaaRhA
import Derived.Test.YtmlaieogcnkknaaRhB
