/- OpTells: for every array of values and every op, op.Check and op.Do answer as the reference does: the law returns true, and its arguments read as they did. No condition. -/
import Derived.Test.YtifieeefbbfhfaaFrame
import Derived.Test.YtifieeefbbfhfaaOpH
set_option linter.unusedSimpArgs false
set_option linter.unusedVariables false
namespace Go.Proofs.Ytifieeefbbfhfaa
open Go.ChangeShapes Go.WideShapes Go.ChangeAt Go.RowKit Go.Joins

section
variable {H : Type} {enc : TypeId × Value → H} {w : World} {base : Nat} {spare : Nat → Bool} {held : Bool}

theorem cells22 : Try.prog.cellsOf 22 = 4 := by kernel_rfl
theorem cells24 : Try.prog.cellsOf 24 = 4 := by kernel_rfl
theorem cells3 : Try.prog.cellsOf 3 = 1 := by kernel_rfl

theorem one_int {n : Nat} {v : Value} {y : DataW H × List MemPlace} (h : DataW.trod enc Try.prog w base spare held n 3 [v] = some y) : ∃ a : Int, v = .int .i64 a := by
  obtain ⟨a, e, _, _⟩ := DataW.trod_int Try.underlying3 h
  simp at e
  exact ⟨a, e⟩

/-- An array of four. -/
theorem open_arr {r : Reach} {b0 : Nat} {v : Value} {d : DataW H} {p : List MemPlace} (hv : Value.okWide Try.prog w r b0 22 v) (h : DataW.Trod enc Try.prog w base spare held 22 v d p) :
    ∃ g : Nat → Int, v = arrV g := by
  unfold Value.okWide at hv
  rw [Try.underlying22] at hv
  obtain ⟨cs, rfl, hsz, _⟩ := hv
  rw [cells22] at hsz
  obtain ⟨c0, c1, c2, c3, rfl⟩ := array4 hsz
  obtain ⟨fuel, hf⟩ := h
  obtain ⟨xs, m, _, _, _, hlen, hi⟩ := DataW.trod_array Try.underlying22 hf
  simp only [cells3, Value.cells] at hi
  have e : ∀ i (hi' : i < 4), ∃ y, xs[i]? = some y := fun i h' => ⟨xs[i]'(by omega), by rw [List.getElem?_eq_getElem]⟩
  obtain ⟨y0, e0⟩ := e 0 (by decide)
  obtain ⟨y1, e1⟩ := e 1 (by decide)
  obtain ⟨y2, e2⟩ := e 2 (by decide)
  obtain ⟨y3, e3⟩ := e 3 (by decide)
  obtain ⟨a0, rfl⟩ := one_int ((hi 0 (by decide)).trans e0)
  obtain ⟨a1, rfl⟩ := one_int ((hi 1 (by decide)).trans e1)
  obtain ⟨a2, rfl⟩ := one_int ((hi 2 (by decide)).trans e2)
  obtain ⟨a3, rfl⟩ := one_int ((hi 3 (by decide)).trans e3)
  exact ⟨g4 a0 a1 a2 a3, rfl⟩

/-- An op. -/
theorem open_op {r : Reach} {b0 : Nat} {v : Value} {d : DataW H} {p : List MemPlace} (hv : Value.okWide Try.prog w r b0 24 v) (h : DataW.Trod enc Try.prog w base spare held 24 v d p) :
    ∃ k key tk n : Int, v = opV k key tk n := by
  obtain ⟨v0, v1, v2, v3, y0, y1, y2, y3, m, rfl, _, _, h0, h1, h2, h3⟩ := open_agg4 Try.underlying24 (by kernel_rfl) cells24 hv h
  obtain ⟨a0, rfl⟩ := one_int h0
  obtain ⟨a1, rfl⟩ := one_int h1
  obtain ⟨a2, rfl⟩ := one_int h2
  obtain ⟨a3, rfl⟩ := one_int h3
  exact ⟨a0, a1, a2, a3, rfl⟩
end

namespace opTells
set_option maxRecDepth 100000 in
theorem lifted (os : Os) (started : os.Started) (H : Type) (enc : TypeId × Value → H) :
    ReturnsInHanded {} Try.checked os 3 .any (Rows.opTellsSpec.pre6 enc Try.prog Try.f3 Rows.opTellsRow.domain false) (Rows.opTellsSpec.post enc Try.prog Try.f3 false true false false) := by
  refine returnsInHanded_of_change (C := Try.checked) own started (by kernel_rfl) Try.func3
    (ChangeSpec.witness6 (enc := enc) (C := Try.checked) false ⟨#[], #[ar4 0 0 0 0, opV 0 0 0 0], []⟩ 8 (by kernel_rfl) (by kernel_rfl) (by kernel_rfl) (by kernel_rfl)) ?_
  intro W base args ds gs before hval0 hW hcnd _
  have hval : ∀ (j : Nat) t v, Try.f3.params[j]? = some t → args[j]? = some v → Value.okWide Try.prog W .any base t v := hval0
  have hW' := hW
  obtain ⟨p, q, hA0, hV, hbef, hfz, hnd⟩ := hW
  have hA : DataW.TrodAll enc Try.prog W 0 (fun _ => true) true Try.f3.params.toList args.toList ds p := hA0
  rw [Try.params3] at hA hval
  obtain ⟨v0, vs0, d0, ds0, p0, q0, hargs, rfl, rfl, h0, r0⟩ := trodAll_cons hA
  obtain ⟨v1, vs1, d1, ds1, p1, q1, rfl, rfl, rfl, h1, r1⟩ := trodAll_cons r0
  obtain ⟨rfl, rfl, rfl⟩ := trodAll_nil r1
  obtain rfl : args = #[v0, v1] := by cases args; simp_all
  obtain ⟨rfl, _⟩ := trodVars_none hV
  obtain ⟨g, rfl⟩ := open_arr (hval 0 22 v0 rfl rfl) h0
  obtain ⟨k, key, tk, n, rfl⟩ := open_op (hval 1 24 v1 rfl rfl) h1
  refine (op_tells g k key tk n W).mono fun e W' ⟨he, hk⟩ => ?_
  subst he
  exact ⟨_, rfl, law_post rfl rfl (by decide +kernel) rfl hW' hk⟩

theorem over : Rows.opTellsRow.holds Try.pinned (OpenSpec.ofChange Rows.opTellsSpec) :=
  OpenClaim.holds_of_wide 3 Try.f3 rfl rfl rfl rfl rfl rfl rfl ⟨rfl, rfl, rfl, rfl, rfl⟩ rfl rfl rfl rfl rfl (by kernel_rfl) Try.func3 (by kernel_rfl)
    (of_decide_eq_true (by kernel_rfl)) (by unfold Func.isWrapper; first | (rw [if_pos (by decide +kernel)]; kernel_rfl) | (rw [if_neg (by decide +kernel)]; exact ⟨rfl, rfl⟩))
    (fun os started H enc _ => lifted os started H enc)
end opTells

theorem opTells_proved : Rows.OpTellsSaid := opTells.over
#print axioms opTells_proved
end Go.Proofs.Ytifieeefbbfhfaa
