/- RefB, RefC. -/
import Derived.Test.YteabfjpajgakiafJ05
/- Contracts of the reference's functions on ops: did. -/
set_option linter.unusedSimpArgs false
set_option linter.unusedVariables false
namespace Go.Proofs.Yteabfjpajgakiaf
open Go.RowKit

end Go.Proofs.Yteabfjpajgakiaf

/- Contracts of the reference's functions on ops: did, Add. -/
set_option linter.unusedSimpArgs false
set_option linter.unusedVariables false
namespace Go.Proofs.Yteabfjpajgakiaf
open Go.RowKit

end Go.Proofs.Yteabfjpajgakiaf
