/- RefM3, OpE. -/
import Derived.Test.YteabfjpajgakiagJ05
import Derived.Test.YteabfjpajgakiagJ06
import Derived.Test.YteabfjpajgakiagJ07
import Derived.Test.YteabfjpajgakiagJ08
import Derived.Test.YteabfjpajgakiagJ09
/- Contracts of the reference's functions on ops: did, Move of key 3. -/
set_option linter.unusedSimpArgs false
set_option linter.unusedVariables false
namespace Go.Proofs.Yteabfjpajgakiag
open Go.RowKit

end Go.Proofs.Yteabfjpajgakiag

/- What op.Do and the reference's DoOf answer. -/
set_option linter.unusedSimpArgs false
set_option linter.unusedVariables false
namespace Go.Proofs.Yteabfjpajgakiag
open Go.RowKit

/-- What is then, the answer, the error. -/
def doVals (g : Nat → Int) (k key tk n : Int) : Nat → Int :=
  if opErr k key tk n == 0 && valsOk g then (if stepOk k g key tk n then stepTo k g key tk n else g) else fun _ => 0
def doAns (g : Nat → Int) (k key tk n : Int) : Int :=
  if opErr k key tk n == 0 && valsOk g then (if stepOk k g key tk n then stepTo k g key tk n key.toNat else -1) else 0
def doErr (g : Nat → Int) (k key tk n : Int) : Int :=
  if opErr k key tk n == 0 then (if valsOk g then 0 else 3) else opErr k key tk n
def DoSays (g : Nat → Int) (k key tk n : Int) : Value := .tuple #[arrV (doVals g k key tk n), .int .i64 (doAns g k key tk n), .int .i64 (doErr g k key tk n)]

/-- What a right op has. -/
theorem op_right {k key tk n : Int} (h : opErr k key tk n = 0) :
    (0 ≤ key ∧ key ≤ 3) ∧ ((k = 1 ∧ tk = 0 ∧ 0 ≤ n ∧ n ≤ 999) ∨ (k = 2 ∧ tk = 0 ∧ -999 ≤ n ∧ n ≤ 999) ∨ (k = 3 ∧ (0 ≤ tk ∧ tk ≤ 3) ∧ 0 ≤ n ∧ n ≤ 999) ∨ (k = 4 ∧ tk = 0 ∧ n = 0)) := by
  by_cases h1 : k = 1
  · subst h1; revert h; simp [opErr, opIn, inB]; omega
  by_cases h2 : k = 2
  · subst h2; revert h; simp [opErr, opIn, inB]; omega
  by_cases h3 : k = 3
  · subst h3; revert h; simp [opErr, opIn, inB]; omega
  by_cases h4 : k = 4
  · subst h4; revert h; simp [opErr, opIn, inB]; omega
  · exfalso; revert h; simp [opErr, h1, h2, h3, h4]

theorem vals_at {g : Nat → Int} (h : valsOk g = true) (i : Nat) (hi : i < 4) : 0 ≤ g i ∧ g i ≤ 999 := by
  simp [valsOk, inB] at h
  have : i = 0 ∨ i = 1 ∨ i = 2 ∨ i = 3 := by omega
  rcases this with rfl | rfl | rfl | rfl <;> omega

theorem op_do (g : Nat → Int) (k key tk n : Int) (w : World) :
    Calls Try.prog 92 #[arrV g, opV k key tk n] w fun e w' => e = .returned (DoSays g k key tk n) ∧ Keeps w w' := by
  cases he : (opErr k key tk n == 0) with
  | false =>
    have := do_err g k key tk n w he
    simpa [DoSays, doVals, doAns, doErr, he] using this
  | true =>
    cases hv : valsOk g with
    | false =>
      have := do_range g k key tk n w he hv
      simpa [DoSays, doVals, doAns, doErr, he, hv] using this
    | true =>
      have h0 : opErr k key tk n = 0 := by simpa using he
      have hg := vals_at hv
      obtain ⟨⟨hk0, hk3⟩, hk⟩ := op_right h0
      have hgk := hg key.toNat (by omega)
      have e1 : DoSays g k key tk n = .tuple #[arrV (if stepOk k g key tk n then stepTo k g key tk n else g), .int .i64 (if stepOk k g key tk n then stepTo k g key tk n key.toNat else -1), .int .i64 0] := by
        simp [DoSays, doVals, doAns, doErr, he, hv]
      rw [e1]
      rcases hk with ⟨rfl, _, hn0, hn1⟩ | ⟨rfl, _, hn0, hn1⟩ | ⟨rfl, ⟨ht0, ht3⟩, hn0, hn1⟩ | ⟨rfl, _, hn⟩
      · exact do_main 70 g (stepTo 1 g key tk n) (stepOk 1 g key tk n) 1 key tk n w h0 hv rfl (fun _ _ => by kernel_rfl)
          (fun b W hA => (step_set b g 1 key tk n W hk0 hk3 hA).mono fun e w' ⟨h1, h2, h3⟩ => ⟨_, h3, h1, h2, fun _ => rfl⟩)
      · exact do_main 71 g (stepTo 2 g key tk n) (stepOk 2 g key tk n) 2 key tk n w h0 hv rfl (fun _ _ => by kernel_rfl)
          (fun b W hA => (step_add b g 2 key tk n W hk0 hk3 hgk.1 hgk.2 hn0 hn1 hA).mono fun e w' ⟨h1, h2, h3⟩ => ⟨_, h3, h1, h2, fun _ => rfl⟩)
      · exact do_main 73 g (stepTo 3 g key tk n) (stepOk 3 g key tk n) 3 key tk n w h0 hv rfl (fun _ _ => by kernel_rfl)
          (fun b W hA => (step_move b g 3 key tk n W hk0 hk3 ht0 ht3 hg hn0 hn1 hA).mono fun e w' ⟨h1, g'', h2, h3, h4⟩ => ⟨_, h2, h3, h1, h4⟩)
      · exact do_main 74 g (stepTo 4 g key tk n) (stepOk 4 g key tk n) 4 key tk n w h0 hv rfl (fun _ _ => by kernel_rfl)
          (fun b W hA => (step_get b g 4 key tk n W hA).mono fun e w' ⟨h1, h2, h3⟩ => ⟨_, h3, h1, h2, fun _ => rfl⟩)
end Go.Proofs.Yteabfjpajgakiag
