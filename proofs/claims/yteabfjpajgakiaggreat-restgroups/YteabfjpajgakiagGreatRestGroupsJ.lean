/- RestGroups: for every group, every entry and every number: what Put, Run, Cut and End answered, and was then written over, changes nothing that was handed in, nor what Put and Run answer next: the law returns true, and its arguments read as they did. No condition. -/
import Derived.Test.YteabfjpajgakiagGreatJ00
import Derived.Test.YteabfjpajgakiagGreatJ02
import Derived.Test.YteabfjpajgakiagGreatJ18
import Derived.Test.YteabfjpajgakiagGreatJ27
set_option linter.unusedSimpArgs false
set_option linter.unusedVariables false
namespace Go.Proofs.YteabfjpajgakiagGreat
open Go.ChangeShapes Go.WideShapes Go.ChangeAt Go.RowKit Go.Joins

namespace restGroups
set_option maxRecDepth 100000 in
theorem lifted (os : Os) (started : os.Started) (H : Type) (enc : TypeId × Value → H) :
    ReturnsInHanded {} Tryz.checked os 3 .any (Rows.restGroupsSpec.pre6 enc Tryz.prog Tryz.f3 Rows.restGroupsRow.domain false) (Rows.restGroupsSpec.post enc Tryz.prog Tryz.f3 false true false false) := by
  refine returnsInHanded_of_change (C := Tryz.checked) own started (by kernel_rfl) Tryz.func3
    (ChangeSpec.witness6 (enc := enc) (C := Tryz.checked) false ⟨#[], #[.agg (GL zeroGrp zeroAd).toArray, entV ⟨0, 0, 0, 0, 0, 0, 0, 0, 0⟩, .int .i64 0], []⟩ 8 (by kernel_rfl) (by kernel_rfl) (by kernel_rfl) (by kernel_rfl)) ?_
  intro W base args ds gs before hval0 hW hcnd _
  have hval : ∀ (j : Nat) t v, Tryz.f3.params[j]? = some t → args[j]? = some v → Value.okWide Tryz.prog W .any base t v := hval0
  have hW' := hW
  obtain ⟨p, q, hA0, hV, hbef, hfz, hnd⟩ := hW
  have hA : DataW.TrodAll enc Tryz.prog W 0 (fun _ => true) true Tryz.f3.params.toList args.toList ds p := hA0
  rw [Tryz.params3] at hA hval
  obtain ⟨v0, vs0, d0, ds0, p0, q0, hargs, rfl, rfl, h0, r0⟩ := trodAll_cons hA
  obtain ⟨v1, vs1, d1, ds1, p1, q1, rfl, rfl, rfl, h1, r1⟩ := trodAll_cons r0
  obtain ⟨v2, vs2, d2, ds2, p2, q2, rfl, rfl, rfl, h2, r2⟩ := trodAll_cons r1
  obtain ⟨rfl, rfl, rfl⟩ := trodAll_nil r2
  obtain rfl : args = #[v0, v1, v2] := by cases args; simp_all
  obtain ⟨rfl, _⟩ := trodVars_none hV
  obtain ⟨g, A, rfl, hg⟩ := open_group (hval 0 31 v0 rfl rfl) h0
  obtain ⟨y, rfl⟩ := open_ent (hval 1 35 v1 rfl rfl) h1
  obtain ⟨n, rfl, n0, n1⟩ := open_int64 (hval 2 3 v2 rfl rfl) h2
  refine (rest_groups g A y n n0 n1 W hg).mono fun e W' ⟨he, hk⟩ => ?_
  subst he
  exact ⟨_, rfl, law_post rfl rfl (by decide +kernel) rfl hW' hk⟩

theorem over : Rows.restGroupsRow.holds Tryz.pinned (OpenSpec.ofChange Rows.restGroupsSpec) :=
  OpenClaim.holds_of_wide 3 Tryz.f3 rfl rfl rfl rfl rfl rfl rfl ⟨rfl, rfl, rfl, rfl, rfl⟩ rfl rfl rfl rfl rfl (by kernel_rfl) Tryz.func3 (by kernel_rfl)
    (of_decide_eq_true (by kernel_rfl)) (by unfold Func.isWrapper; first | (rw [if_pos (by decide +kernel)]; kernel_rfl) | (rw [if_neg (by decide +kernel)]; exact ⟨rfl, rfl⟩))
    (fun os started H enc _ => lifted os started H enc)
end restGroups

theorem restGroups_proved : Rows.RestGroupsSaid := restGroups.over
#print axioms restGroups_proved
end Go.Proofs.YteabfjpajgakiagGreat
