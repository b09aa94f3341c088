/- States: inBounds. -/
import Derived.Test.YthjcnbimapgdnabStB
set_option linter.unusedSimpArgs false
set_option linter.unusedVariables false
namespace Go.Proofs.Ythjcnbimapgdnab
open Go.RowKit

theorem idx4 (v0 v1 v2 v3 : Int) (w : World) : (Instr.index 22 (.agg #[.int .i64 v0, .int .i64 v1, .int .i64 v2, .int .i64 v3]) (.int .i64 0)).run Try.prog w = .ok (.int .i64 v0) w ∧ (Instr.index 22 (.agg #[.int .i64 v0, .int .i64 v1, .int .i64 v2, .int .i64 v3]) (.int .i64 1)).run Try.prog w = .ok (.int .i64 v1) w ∧ (Instr.index 22 (.agg #[.int .i64 v0, .int .i64 v1, .int .i64 v2, .int .i64 v3]) (.int .i64 2)).run Try.prog w = .ok (.int .i64 v2) w ∧ (Instr.index 22 (.agg #[.int .i64 v0, .int .i64 v1, .int .i64 v2, .int .i64 v3]) (.int .i64 3)).run Try.prog w = .ok (.int .i64 v3) w :=
  ⟨by kernel_rfl, by kernel_rfl, by kernel_rfl, by kernel_rfl⟩

def stIn (s : St) : Bool := valsIn s.v0 s.v1 s.v2 s.v3 && (inB s.at_ 0 50 && inB s.clock 0 999)

set_option maxHeartbeats 4000000 in
theorem st_in_bounds (s : St) (x : Value) (w : World) (h : TabAt w x s.tab) :
    Calls Try.prog 24 #[stV s x] w fun e w' => e = .returned (.bool (stIn s)) ∧ Keeps w w' := by
  obtain ⟨a, c, rfl, _⟩ := h.len
  clear h
  obtain ⟨at_, clock, v0, v1, v2, v3, tab⟩ := s
  simp only [stIn, valsIn]
  generalize tab.length = m
  have i0 := fun w => (idx4 v0 v1 v2 v3 w).1
  have i1 := fun w => (idx4 v0 v1 v2 v3 w).2.1
  have i2 := fun w => (idx4 v0 v1 v2 v3 w).2.2.1
  have i3 := fun w => (idx4 v0 v1 v2 v3 w).2.2.2
  cases q0 : inB v0 0 999 <;> cases q1 : inB v1 0 999 <;> cases q2 : inB v2 0 999 <;> cases q3 : inB v3 0 999
  case true.true.true.true =>
    cases q4 : inB at_ 0 50 <;>
    · go_enter Try.func24, Try.ntmps24
      go_wp2_with fail
      refine wp_loop_rounds 5 ?_
      rw [rounds_succ]
      go_wp2_with (first | (go_at_call 26; refine (bound_in _ _ _ _).mono ?_; rintro e w' ⟨rfl, rfl⟩) | rw [rounds_succ])
      go_ret
      exact ⟨rfl, (Keeps.refl _).alloc _⟩
  all_goals
    go_enter Try.func24, Try.ntmps24
    go_wp2_with fail
    refine wp_loop_rounds 5 ?_
    rw [rounds_succ]
    go_wp2_with (first | (go_at_call 26; refine (bound_in _ _ _ _).mono ?_; rintro e w' ⟨rfl, rfl⟩) | rw [rounds_succ])
    go_ret
    exact ⟨rfl, (Keeps.refl _).alloc _⟩
end Go.Proofs.Ythjcnbimapgdnab
