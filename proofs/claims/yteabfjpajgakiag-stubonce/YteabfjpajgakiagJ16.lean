/- ApQ. -/
import Derived.Lib.MinMax
import Derived.Test.YteabfjpajgakiagJ01
import Derived.Test.YteabfjpajgakiagJ02
import Derived.Test.YteabfjpajgakiagJ15
/- The reference's applied: all but a Call's session that is there. -/
set_option linter.unusedSimpArgs false
set_option linter.unusedVariables false
set_option maxRecDepth 10000
namespace Go.Proofs.Yteabfjpajgakiag
open Go.RowKit

end Go.Proofs.Yteabfjpajgakiag
