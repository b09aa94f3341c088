/- StubAgain: for every client's stub, every time, every number and every op, Again and Came answer as the reference does, errors too: the law returns true, and its arguments read as they did. No condition. -/
import Derived.Test.YteabfjpajgakiagJ00
import Derived.Test.YteabfjpajgakiagJ02
import Derived.Test.YteabfjpajgakiagJ18
set_option linter.unusedSimpArgs false
set_option linter.unusedVariables false
namespace Go.Proofs.Yteabfjpajgakiag
open Go.ChangeShapes Go.WideShapes Go.ChangeAt Go.RowKit Go.Joins

namespace stubAgain
set_option maxRecDepth 100000 in
theorem lifted (os : Os) (started : os.Started) (H : Type) (enc : TypeId × Value → H) :
    ReturnsInHanded {} Try.checked os 4 .any (Rows.stubAgainSpec.pre6 enc Try.prog Try.f4 Rows.stubAgainRow.domain false) (Rows.stubAgainSpec.post enc Try.prog Try.f4 false true false false) := by
  refine returnsInHanded_of_change (C := Try.checked) own started (by kernel_rfl) Try.func4
    (ChangeSpec.witness6 (enc := enc) (C := Try.checked) false ⟨#[], #[stuV ⟨0, 0, []⟩ (.slice none 0 0), .int .i64 0, .int .i64 0, opV 0 0 0 0], []⟩ 8 (by kernel_rfl) (by kernel_rfl) (by kernel_rfl) (by kernel_rfl)) ?_
  intro W base args ds gs before hval0 hW hcnd _
  have hval : ∀ (j : Nat) t v, Try.f4.params[j]? = some t → args[j]? = some v → Value.okWide Try.prog W .any base t v := hval0
  have hW' := hW
  obtain ⟨p, q, hA0, hV, hbef, hfz, hnd⟩ := hW
  have hA : DataW.TrodAll enc Try.prog W 0 (fun _ => true) true Try.f4.params.toList args.toList ds p := hA0
  rw [Try.params4] at hA hval
  obtain ⟨v0, vs0, d0, ds0, p0, q0, hargs, rfl, rfl, h0, r0⟩ := trodAll_cons hA
  obtain ⟨v1, vs1, d1, ds1, p1, q1, rfl, rfl, rfl, h1, r1⟩ := trodAll_cons r0
  obtain ⟨v2, vs2, d2, ds2, p2, q2, rfl, rfl, rfl, h2, r2⟩ := trodAll_cons r1
  obtain ⟨v3, vs3, d3, ds3, p3, q3, rfl, rfl, rfl, h3, r3⟩ := trodAll_cons r2
  obtain ⟨rfl, rfl, rfl⟩ := trodAll_nil r3
  obtain rfl : args = #[v0, v1, v2, v3] := by cases args; simp_all
  obtain ⟨rfl, _⟩ := trodVars_none hV
  obtain ⟨s, x, rfl, hs⟩ := open_stub (hval 0 24 v0 rfl rfl) h0
  obtain ⟨t, rfl, t0, t1⟩ := open_int64 (hval 1 3 v1 rfl rfl) h1
  obtain ⟨q, rfl, q0, q1⟩ := open_int64 (hval 2 3 v2 rfl rfl) h2
  obtain ⟨o0, o1, o2, o3, rfl⟩ := open_op4 (hval 3 26 v3 rfl rfl) h3
  refine (stub_again_law s t q o0 o1 o2 o3 x W hs).mono fun e W' ⟨he, hk⟩ => ?_
  subst he
  exact ⟨_, rfl, law_post rfl rfl (by decide +kernel) rfl hW' hk⟩

theorem over : Rows.stubAgainRow.holds Try.pinned (OpenSpec.ofChange Rows.stubAgainSpec) :=
  OpenClaim.holds_of_wide 4 Try.f4 rfl rfl rfl rfl rfl rfl rfl ⟨rfl, rfl, rfl, rfl, rfl⟩ rfl rfl rfl rfl rfl (by kernel_rfl) Try.func4 (by kernel_rfl)
    (of_decide_eq_true (by kernel_rfl)) (by unfold Func.isWrapper; first | (rw [if_pos (by decide +kernel)]; kernel_rfl) | (rw [if_neg (by decide +kernel)]; exact ⟨rfl, rfl⟩))
    (fun os started H enc _ => lifted os started H enc)
end stubAgain

theorem stubAgain_proved : Rows.StubAgainSaid := stubAgain.over
#print axioms stubAgain_proved
end Go.Proofs.Yteabfjpajgakiag
