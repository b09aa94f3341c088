/- RefM1. -/
import Derived.Test.YteabfjpajgakiadJ05
/- Contracts of the reference's functions on ops: did, Move of key 1. -/
set_option linter.unusedSimpArgs false
set_option linter.unusedVariables false
namespace Go.Proofs.Yteabfjpajgakiad
open Go.RowKit

end Go.Proofs.Yteabfjpajgakiad
