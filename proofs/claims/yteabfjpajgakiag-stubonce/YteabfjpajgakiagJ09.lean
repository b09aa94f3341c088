/- RefM2. -/
import Derived.Test.YteabfjpajgakiagJ05
/- Contracts of the reference's functions on ops: did, Move of key 2. -/
set_option linter.unusedSimpArgs false
set_option linter.unusedVariables false
namespace Go.Proofs.Yteabfjpajgakiag
open Go.RowKit

end Go.Proofs.Yteabfjpajgakiag
