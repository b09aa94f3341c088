/- NodeTells: for every log, every state and every number, Fits and Run answer as the reference does, errors too: the law returns true, and its arguments read as they did. No condition. -/
import Derived.Test.YteabfjpajgakiaeGreatJ00
import Derived.Test.YteabfjpajgakiaeGreatJ01
import Derived.Test.YteabfjpajgakiaeGreatJ15
import Derived.Test.YteabfjpajgakiaeGreatJ21
set_option linter.unusedSimpArgs false
set_option linter.unusedVariables false
namespace Go.Proofs.YteabfjpajgakiaeGreat
open Go.ChangeShapes Go.WideShapes Go.ChangeAt Go.RowKit Go.Joins

namespace nodeTells
set_option maxRecDepth 100000 in
theorem lifted (os : Os) (started : os.Started) (H : Type) (enc : TypeId × Value → H) :
    ReturnsInHanded {} Tryz.checked os 3 .any (Rows.nodeTellsSpec.pre6 enc Tryz.prog Tryz.f3 Rows.nodeTellsRow.domain false) (Rows.nodeTellsSpec.post enc Tryz.prog Tryz.f3 false true false false) := by
  refine returnsInHanded_of_change (C := Tryz.checked) own started (by kernel_rfl) Tryz.func3
    (ChangeSpec.witness6 (enc := enc) (C := Tryz.checked) false ⟨#[], #[lgV ⟨⟨0, 0, 0, 0, 0, 0, []⟩, []⟩ (.slice none 0 0) (.slice none 0 0), stV ⟨0, 0, 0, 0, 0, 0, []⟩ (.slice none 0 0), .int .i64 0], []⟩ 8 (by kernel_rfl) (by kernel_rfl) (by kernel_rfl) (by kernel_rfl)) ?_
  intro W base args ds gs before hval0 hW hcnd _
  have hval : ∀ (j : Nat) t v, Tryz.f3.params[j]? = some t → args[j]? = some v → Value.okWide Tryz.prog W .any base t v := hval0
  have hW' := hW
  obtain ⟨p, q, hA0, hV, hbef, hfz, hnd⟩ := hW
  have hA : DataW.TrodAll enc Tryz.prog W 0 (fun _ => true) true Tryz.f3.params.toList args.toList ds p := hA0
  rw [Tryz.params3] at hA hval
  obtain ⟨v0, vs0, d0, ds0, p0, q0, hargs, rfl, rfl, h0, r0⟩ := trodAll_cons hA
  obtain ⟨v1, vs1, d1, ds1, p1, q1, rfl, rfl, rfl, h1, r1⟩ := trodAll_cons r0
  obtain ⟨v2, vs2, d2, ds2, p2, q2, rfl, rfl, rfl, h2, r2⟩ := trodAll_cons r1
  obtain ⟨rfl, rfl, rfl⟩ := trodAll_nil r2
  obtain rfl : args = #[v0, v1, v2] := by cases args; simp_all
  obtain ⟨rfl, _⟩ := trodVars_none hV
  obtain ⟨l, x, ta, tc, rfl, hT, hL, hc⟩ := open_log (hval 0 28 v0 rfl rfl) h0
  obtain ⟨s, y, rfl, hs⟩ := open_state (hval 1 25 v1 rfl rfl) h1
  obtain ⟨n, rfl, n0, n1⟩ := open_int64 (hval 2 3 v2 rfl rfl) h2
  refine (node_tells l s n x y ta tc W hT hL hs hc).mono fun e W' ⟨he, hk⟩ => ?_
  subst he
  exact ⟨_, rfl, law_post rfl rfl (by decide +kernel) rfl hW' hk⟩

theorem over : Rows.nodeTellsRow.holds Tryz.pinned (OpenSpec.ofChange Rows.nodeTellsSpec) :=
  OpenClaim.holds_of_wide 3 Tryz.f3 rfl rfl rfl rfl rfl rfl rfl ⟨rfl, rfl, rfl, rfl, rfl⟩ rfl rfl rfl rfl rfl (by kernel_rfl) Tryz.func3 (by kernel_rfl)
    (of_decide_eq_true (by kernel_rfl)) (by unfold Func.isWrapper; first | (rw [if_pos (by decide +kernel)]; kernel_rfl) | (rw [if_neg (by decide +kernel)]; exact ⟨rfl, rfl⟩))
    (fun os started H enc _ => lifted os started H enc)
end nodeTells

theorem nodeTells_proved : Rows.NodeTellsSaid := nodeTells.over
#print axioms nodeTells_proved
end Go.Proofs.YteabfjpajgakiaeGreat
