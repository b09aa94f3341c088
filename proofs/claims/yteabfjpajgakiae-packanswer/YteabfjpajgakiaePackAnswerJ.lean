/- PackAnswer: for every list of entries, every number and every entry, the answer that Put tells is the one that is told when all is applied, wherever the log was packed: the law returns true, and its arguments read as they did. No condition. -/
import Derived.Test.YteabfjpajgakiaeJ00
import Derived.Test.YteabfjpajgakiaeJ02
import Derived.Test.YteabfjpajgakiaeJ19
set_option linter.unusedSimpArgs false
set_option linter.unusedVariables false
namespace Go.Proofs.Yteabfjpajgakiae
open Go.ChangeShapes Go.WideShapes Go.ChangeAt Go.RowKit Go.Joins

namespace packAnswer
set_option maxRecDepth 100000 in
theorem lifted (os : Os) (started : os.Started) (H : Type) (enc : TypeId × Value → H) :
    ReturnsInHanded {} Try.checked os 5 .any (Rows.packAnswerSpec.pre6 enc Try.prog Try.f5 Rows.packAnswerRow.domain false) (Rows.packAnswerSpec.post enc Try.prog Try.f5 false true false false) := by
  refine returnsInHanded_of_change_sized (C := Try.checked) own started (by kernel_rfl) Try.func5
    (ChangeSpec.witness6 (enc := enc) (C := Try.checked) false ⟨#[], #[.slice none 0 0, .int .i64 0, entV ⟨0, 0, 0, 0, 0, 0, 0, 0, 0⟩], []⟩ 8 (by kernel_rfl) (by kernel_rfl) (by kernel_rfl) (by kernel_rfl)) ?_
  intro W base args ds gs before hval0 hW hcnd hsz _
  have hval : ∀ (j : Nat) t v, Try.f5.params[j]? = some t → args[j]? = some v → Value.okWide Try.prog W .any base t v := hval0
  have hW' := hW
  obtain ⟨p, q, hA0, hV, hbef, hfz, hnd⟩ := hW
  have hA : DataW.TrodAll enc Try.prog W 0 (fun _ => true) true Try.f5.params.toList args.toList ds p := hA0
  rw [Try.params5] at hA hval
  obtain ⟨v0, vs0, d0, ds0, p0, q0, hargs, rfl, rfl, h0, r0⟩ := trodAll_cons hA
  obtain ⟨v1, vs1, d1, ds1, p1, q1, rfl, rfl, rfl, h1, r1⟩ := trodAll_cons r0
  obtain ⟨v2, vs2, d2, ds2, p2, q2, rfl, rfl, rfl, h2, r2⟩ := trodAll_cons r1
  obtain ⟨rfl, rfl, rfl⟩ := trodAll_nil r2
  obtain rfl : args = #[v0, v1, v2] := by cases args; simp_all
  obtain ⟨rfl, _⟩ := trodVars_none hV
  obtain ⟨l, la, lc, rfl, hl, hlc, hz⟩ := open_ents_sized (hval 0 26 v0 rfl rfl) h0 (fun els sp hd => sized_slice hsz (j := 0) (t := 26) (by rw [Try.params5]; rfl) (by rw [hd]; rfl) Try.underlying26)
  obtain ⟨n, rfl, n0, n1⟩ := open_int64 (hval 1 3 v1 rfl rfl) h1
  obtain ⟨y, rfl⟩ := open_ent (hval 2 32 v2 rfl rfl) h2
  refine (pack_answer l n y la lc W hl hlc hz n0 n1).mono fun e W' ⟨he, hk⟩ => ?_
  subst he
  exact ⟨_, rfl, law_post rfl rfl (by decide +kernel) rfl hW' hk⟩

theorem over : Rows.packAnswerRow.holds Try.pinned (OpenSpec.ofChange Rows.packAnswerSpec) :=
  OpenClaim.holds_of_wide 5 Try.f5 rfl rfl rfl rfl rfl rfl rfl ⟨rfl, rfl, rfl, rfl, rfl⟩ rfl rfl rfl rfl rfl (by kernel_rfl) Try.func5 (by kernel_rfl)
    (of_decide_eq_true (by kernel_rfl)) (by unfold Func.isWrapper; first | (rw [if_pos (by decide +kernel)]; kernel_rfl) | (rw [if_neg (by decide +kernel)]; exact ⟨rfl, rfl⟩))
    (fun os started H enc _ => lifted os started H enc)
end packAnswer

theorem packAnswer_proved : Rows.PackAnswerSaid := packAnswer.over
#print axioms packAnswer_proved
end Go.Proofs.Yteabfjpajgakiae
