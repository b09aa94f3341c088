/- States: valsFine. -/
import Derived.Test.YthjcnbimapgdnabStA
import Derived.Test.YthjcnbimapgdnabRefW
set_option linter.unusedSimpArgs false
set_option linter.unusedVariables false
namespace Go.Proofs.Ythjcnbimapgdnab
open Go.RowKit

def valsIn (v0 v1 v2 v3 : Int) : Bool := inB v0 0 999 && (inB v1 0 999 && (inB v2 0 999 && inB v3 0 999))

set_option maxHeartbeats 2000000 in
theorem st_vals_fine (v0 v1 v2 v3 : Int) (w : World) :
    Calls Try.prog 28 #[.agg #[.int .i64 v0, .int .i64 v1, .int .i64 v2, .int .i64 v3]] w fun e w' => e = .returned (.bool (valsIn v0 v1 v2 v3)) ∧ Keeps w w' := by
  unfold valsIn
  cases q0 : inB v0 0 999 <;> cases q1 : inB v1 0 999 <;> cases q2 : inB v2 0 999 <;> cases q3 : inB v3 0 999 <;>
  · go_enter Try.func28, Try.ntmps28
    go_wp2_with fail
    refine wp_loop_rounds 5 ?_
    rw [rounds_succ]
    go_wp2_with (first | (go_at_call 27; refine (within_c _ _ _ _).mono ?_; rintro e w' ⟨rfl, rfl⟩) | rw [rounds_succ])
    go_ret
    exact ⟨rfl, (Keeps.refl _).alloc _⟩
end Go.Proofs.Ythjcnbimapgdnab
