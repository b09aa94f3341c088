/- bound.In. -/
import Derived.Test.YteabfjpajgakiaaBase
namespace Go.Proofs.Yteabfjpajgakiaa
open Go.RowKit

theorem bound_in (n lo hi : Int) (w : World) :
    Calls Try.prog 48 #[.int .i64 n, .int .i64 lo, .int .i64 hi] w fun e w' => e = .returned (.bool (inB n lo hi)) ∧ w = w' := by
  by_cases h : lo ≤ n
  · go_enter Try.func48, Try.ntmps48
    go_wp2
    go_ret
    exact ⟨by simp [inB, h], rfl⟩
  · have h' : decide (lo ≤ n) = false := by simpa using h
    go_enter Try.func48, Try.ntmps48
    go_wp2
    go_ret
    exact ⟨by simp only [inB, h', Bool.false_and]; rfl, rfl⟩

end Go.Proofs.Yteabfjpajgakiaa
