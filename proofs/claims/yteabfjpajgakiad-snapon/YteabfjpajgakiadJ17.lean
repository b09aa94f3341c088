/- FoJ. -/
import Derived.Test.YteabfjpajgakiadJ16
/- FoldSplit: the walk. -/
set_option linter.unusedSimpArgs false
set_option linter.unusedVariables false
set_option maxRecDepth 10000
namespace Go.Proofs.Yteabfjpajgakiad
open Go.RowKit

/-- An append whose run is known, of an operation that is guarded and wanted. -/
theorem wpList_append_wanted {P : Program} {w w' : World} {ops : Array Oper} {rest : List Oper} {o : Oper} {a : Act} {Q : Exit → Act → World → Prop} {v x v' : Value} (hw : Region.wanted o (yielded ops a.tmps) = true) (s y : Operand) (t : TypeId)
    (ho : o.op = .call { callee := .builtin .append, args := #[s, y], argTypes := #[t, t] }) (hs : a.eval s = v) (hx : a.eval y = x)
    (hr : (Builtin.append_ #[t, t] o.type #[v, x]).run P w = .ok v' w') (h : wpList P ops Q rest (a.put o.dst v') w') : wpList P ops Q (o :: rest) a w := by
  refine wpList_step fun K hK => ?_
  rw [if_pos hw]
  unfold Oper.wp
  simp [execOp, ho, resolve, invoke, builtin, hs, hx, hr, Result.andThen]
  exact hK _ _ h

/-- All, of right ones. -/
theorem all_right {s : St} {L : List Ent} (h : foldErr s L = 0) (x v : Value) (w : World) (hT : TabAt w x s.tab) (hL : EntsAt w v L) :
    Calls Try.prog 17 #[stV s x, v] w fun y w' => ∃ qa qc ra rc, Hid (OwnTab w.heap.size w' (.slice qa (runSt s L).tab.length qc) (runSt s L).tab) ∧ Hid (w'.ownsRow w.heap.size 3 1 (.slice ra (runAns s L).length rc) (runAns s L).length (intCells (runAns s L))) ∧ y = .returned (.tuple #[stV (runSt s L) (.slice qa (runSt s L).tab.length qc), .slice ra (runAns s L).length rc, .int .i64 0]) ∧ Keeps w w' := by
  refine (fold_all s L x v w hT hL).mono ?_
  rintro y w' ⟨x', av, ho, hr, rfl, hb⟩
  have e1 : allSt s L = runSt s L := by simp [allSt, h]
  have e2 : allAns s L = runAns s L := by simp [allAns, h]
  rw [e1] at ho
  rw [e2] at hr
  obtain ⟨qa, qc, rfl, _⟩ := ho.tab.len
  obtain ⟨ra, rc, hra, _⟩ := (RowAt.of_owns hr).len
  subst hra
  rw [e1, h]
  exact ⟨qa, qc, ra, rc, ho, hr, rfl, hb⟩

end Go.Proofs.Yteabfjpajgakiad
