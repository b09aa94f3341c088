/- GroupTrue: for every group, every entry and every two numbers: whatever is put, run or cut of a right group, it is right; and nodes that have applied as many entries, and are not behind the base, are the same: the law returns true, and its arguments read as they did. No condition. -/
import Derived.Test.YteabfjpajgakiafJ00
import Derived.Test.YteabfjpajgakiafJ02
import Derived.Test.YteabfjpajgakiafJ18
import Derived.Test.YteabfjpajgakiafJ23
set_option linter.unusedSimpArgs false
set_option linter.unusedVariables false
namespace Go.Proofs.Yteabfjpajgakiaf
open Go.ChangeShapes Go.WideShapes Go.ChangeAt Go.RowKit Go.Joins

namespace groupTrue
set_option maxRecDepth 100000 in
theorem lifted (os : Os) (started : os.Started) (H : Type) (enc : TypeId × Value → H) :
    ReturnsInHanded {} Try.checked os 3 .any (Rows.groupTrueSpec.pre6 enc Try.prog Try.f3 Rows.groupTrueRow.domain false) (Rows.groupTrueSpec.post enc Try.prog Try.f3 false true false false) := by
  refine returnsInHanded_of_change (C := Try.checked) own started (by kernel_rfl) Try.func3
    (ChangeSpec.witness6 (enc := enc) (C := Try.checked) false ⟨#[], #[.agg (GL zeroGrp zeroAd).toArray, entV ⟨0, 0, 0, 0, 0, 0, 0, 0, 0⟩, .int .i64 0, .int .i64 0], []⟩ 8 (by kernel_rfl) (by kernel_rfl) (by kernel_rfl) (by kernel_rfl)) ?_
  intro W base args ds gs before hval0 hW hcnd _
  have hval : ∀ (j : Nat) t v, Try.f3.params[j]? = some t → args[j]? = some v → Value.okWide Try.prog W .any base t v := hval0
  have hW' := hW
  obtain ⟨p, q, hA0, hV, hbef, hfz, hnd⟩ := hW
  have hA : DataW.TrodAll enc Try.prog W 0 (fun _ => true) true Try.f3.params.toList args.toList ds p := hA0
  rw [Try.params3] at hA hval
  obtain ⟨v0, vs0, d0, ds0, p0, q0, hargs, rfl, rfl, h0, r0⟩ := trodAll_cons hA
  obtain ⟨v1, vs1, d1, ds1, p1, q1, rfl, rfl, rfl, h1, r1⟩ := trodAll_cons r0
  obtain ⟨v2, vs2, d2, ds2, p2, q2, rfl, rfl, rfl, h2, r2⟩ := trodAll_cons r1
  obtain ⟨v3, vs3, d3, ds3, p3, q3, rfl, rfl, rfl, h3, r3⟩ := trodAll_cons r2
  obtain ⟨rfl, rfl, rfl⟩ := trodAll_nil r3
  obtain rfl : args = #[v0, v1, v2, v3] := by cases args; simp_all
  obtain ⟨rfl, _⟩ := trodVars_none hV
  obtain ⟨g, A, rfl, hg⟩ := open_group (hval 0 31 v0 rfl rfl) h0
  obtain ⟨y, rfl⟩ := open_ent (hval 1 35 v1 rfl rfl) h1
  obtain ⟨k, rfl, k0, k1⟩ := open_int64 (hval 2 3 v2 rfl rfl) h2
  obtain ⟨n, rfl, n0, n1⟩ := open_int64 (hval 3 3 v3 rfl rfl) h3
  refine (group_true g A y k n k0 k1 n0 n1 W hg).mono fun e W' ⟨he, hk⟩ => ?_
  subst he
  exact ⟨_, rfl, law_post rfl rfl (by decide +kernel) rfl hW' hk⟩

theorem over : Rows.groupTrueRow.holds Try.pinned (OpenSpec.ofChange Rows.groupTrueSpec) :=
  OpenClaim.holds_of_wide 3 Try.f3 rfl rfl rfl rfl rfl rfl rfl ⟨rfl, rfl, rfl, rfl, rfl⟩ rfl rfl rfl rfl rfl (by kernel_rfl) Try.func3 (by kernel_rfl)
    (of_decide_eq_true (by kernel_rfl)) (by unfold Func.isWrapper; first | (rw [if_pos (by decide +kernel)]; kernel_rfl) | (rw [if_neg (by decide +kernel)]; exact ⟨rfl, rfl⟩))
    (fun os started H enc _ => lifted os started H enc)
end groupTrue

theorem groupTrue_proved : Rows.GroupTrueSaid := groupTrue.over
#print axioms groupTrue_proved
end Go.Proofs.Yteabfjpajgakiaf
