/- RefM3, OpE. -/
import Derived.Test.YteabfjpajgakiafJ05
import Derived.Test.YteabfjpajgakiafJ06
import Derived.Test.YteabfjpajgakiafJ07
import Derived.Test.YteabfjpajgakiafJ08
import Derived.Test.YteabfjpajgakiafJ09
/- Contracts of the reference's functions on ops: did, Move of key 3. -/
set_option linter.unusedSimpArgs false
set_option linter.unusedVariables false
namespace Go.Proofs.Yteabfjpajgakiaf
open Go.RowKit

end Go.Proofs.Yteabfjpajgakiaf

/- What op.Do and the reference's DoOf answer. -/
set_option linter.unusedSimpArgs false
set_option linter.unusedVariables false
namespace Go.Proofs.Yteabfjpajgakiaf
open Go.RowKit

/-- What is then, the answer, the error. -/
def doVals (g : Nat → Int) (k key tk n : Int) : Nat → Int :=
  if opErr k key tk n == 0 && valsOk g then (if stepOk k g key tk n then stepTo k g key tk n else g) else fun _ => 0
def doAns (g : Nat → Int) (k key tk n : Int) : Int :=
  if opErr k key tk n == 0 && valsOk g then (if stepOk k g key tk n then stepTo k g key tk n key.toNat else -1) else 0
end Go.Proofs.Yteabfjpajgakiaf
