/- ApQ. -/
import Derived.Lib.MinMax
import Derived.Test.YteabfjpajgakiafJ01
import Derived.Test.YteabfjpajgakiafJ02
import Derived.Test.YteabfjpajgakiafJ15
/- The reference's applied: all but a Call's session that is there. -/
set_option linter.unusedSimpArgs false
set_option linter.unusedVariables false
set_option maxRecDepth 10000
namespace Go.Proofs.Yteabfjpajgakiaf
open Go.RowKit

end Go.Proofs.Yteabfjpajgakiaf
