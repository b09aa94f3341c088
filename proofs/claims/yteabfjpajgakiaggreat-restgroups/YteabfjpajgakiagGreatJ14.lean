/- FoH. -/
import Derived.Laws.MakeOwn
import Derived.Test.YteabfjpajgakiagGreatJ13
/- foldBegun. -/
set_option linter.unusedSimpArgs false
set_option linter.unusedVariables false
set_option maxRecDepth 10000
namespace Go.Proofs.YteabfjpajgakiagGreat
open Go.RowKit

def zeroEnt : Ent := ⟨0, 0, 0, 0, 0, 0, 0, 0, 0⟩
theorem infoEnt : (Tryz.prog.info? 35).map (fun i => (i.zero, i.size, i.bytes)) = some (some (entV zeroEnt), 9, 72) := by kernel_rfl
theorem IntsAt.new (w : World) (l : List Int) (hl : l.length ≤ 1000) (c : Nat) : IntsAt (w.alloc (.cells (intCells l).toArray 3)) (.slice (some ⟨w.heap.size, 0, none⟩) l.length c) l := by
  refine ⟨by simp [intCells], by unfold maxLen; omega, .inr ⟨_, _, rfl, fun j u hu => ?_⟩⟩
  rw [Addr.add_lit, Nat.zero_add]
  unfold World.cell?
  rw [World.alloc_heap_new]
  simpa using hu


end Go.Proofs.YteabfjpajgakiagGreat
