/- ApF, ApF2, ApE, OpC. -/
import Derived.Deep.RegionLaw
import Derived.Lib.AppendZerosOnto
import Derived.Lib.Overlaps
import Derived.Laws.Externs
import Derived.Test.YteabfjpajgakiafJ00
import Derived.Test.YteabfjpajgakiafJ01
import Derived.Test.YteabfjpajgakiafJ03
/- Applying: slices.Insert of an answer. -/
set_option linter.unusedSimpArgs false
set_option linter.unusedVariables false
set_option maxRecDepth 10000
namespace Go.Proofs.Yteabfjpajgakiaf
open Go.RowKit

end Go.Proofs.Yteabfjpajgakiaf

/- Applying: slices.Insert of an answer, in the middle. -/
set_option linter.unusedSimpArgs false
set_option linter.unusedVariables false
set_option maxRecDepth 10000
namespace Go.Proofs.Yteabfjpajgakiaf
open Go.RowKit

theorem RepRow.drew {w : World} {g cap : Nat} {xs : List Value} (h : RepRow w g cap xs) : RepRow w.drew g cap xs := h.keep (Keeps.refl _).drew
end Go.Proofs.Yteabfjpajgakiaf

/- Applying: slices.BinarySearchFunc over the answers that are kept. -/
set_option linter.unusedSimpArgs false
set_option linter.unusedVariables false
set_option maxRecDepth 10000
namespace Go.Proofs.Yteabfjpajgakiaf
open Go.RowKit

def thereB (l : List (Int × Int)) (seq : Int) (p : Nat) : Bool := match l[p]? with | some r => r.1 == seq | none => false

def Rises (l : List (Int × Int)) : Prop := ∀ i j (hi : i < l.length) (hj : j < l.length), i < j → (l[i]).1 < (l[j]).1

end Go.Proofs.Yteabfjpajgakiaf

/- Contracts of package op: more, and the steps. -/
namespace Go.Proofs.Yteabfjpajgakiaf
open Go.RowKit

def upd (g : Nat → Int) (j : Nat) (x : Int) : Nat → Int := fun i => if i = j then x else g i
/-- Block b holds the four values g. -/
def Arr (b : Nat) (g : Nat → Int) (w : World) : Prop :=
  w.cell? ⟨b, 0, none⟩ = some (.int .i64 (g 0)) ∧ w.cell? ⟨b, 1, none⟩ = some (.int .i64 (g 1)) ∧ w.cell? ⟨b, 2, none⟩ = some (.int .i64 (g 2)) ∧ w.cell? ⟨b, 3, none⟩ = some (.int .i64 (g 3)) ∧ ∀ i, w.frozen? ⟨b, i, none⟩ = false

theorem Arr.set {b : Nat} {g : Nat → Int} {w : World} (h : Arr b g w) (j : Nat) (x : Int) (hj : j < 4) : Arr b (upd g j x) (w.setCell ⟨b, j, none⟩ (.int .i64 x)) := by
  obtain ⟨h0, h1, h2, h3, hf⟩ := h
  have hj' : j = 0 ∨ j = 1 ∨ j = 2 ∨ j = 3 := by omega
  have o : ∀ i j : Nat, i ≠ j → (w.setCell ⟨b, j, none⟩ (.int .i64 x)).cell? ⟨b, i, none⟩ = w.cell? ⟨b, i, none⟩ := fun i j h => World.cell?_setCell_other _ _ _ _ (by intro e; injection e with _ e _; exact h e.symm)
  rcases hj' with rfl | rfl | rfl | rfl
  · exact ⟨World.cell?_setCell_same _ _ _ h0, (o _ _ (by decide)).trans h1, (o _ _ (by decide)).trans h2, (o _ _ (by decide)).trans h3, fun i => (World.frozen?_setCell _ _ _ _).trans (hf i)⟩
  · exact ⟨(o _ _ (by decide)).trans h0, World.cell?_setCell_same _ _ _ h1, (o _ _ (by decide)).trans h2, (o _ _ (by decide)).trans h3, fun i => (World.frozen?_setCell _ _ _ _).trans (hf i)⟩
  · exact ⟨(o _ _ (by decide)).trans h0, (o _ _ (by decide)).trans h1, World.cell?_setCell_same _ _ _ h2, (o _ _ (by decide)).trans h3, fun i => (World.frozen?_setCell _ _ _ _).trans (hf i)⟩
  · exact ⟨(o _ _ (by decide)).trans h0, (o _ _ (by decide)).trans h1, (o _ _ (by decide)).trans h2, World.cell?_setCell_same _ _ _ h3, fun i => (World.frozen?_setCell _ _ _ _).trans (hf i)⟩

theorem Arr.below {b : Nat} {g : Nat → Int} {w w' : World} (h : Arr b g w) (hk : Keeps w w') : Arr b g w' := by
  obtain ⟨h0, h1, h2, h3, hf⟩ := h
  have hb := World.block_lt_of_cell? _ _ h0
  have hc : ∀ i, w'.cell? ⟨b, i, none⟩ = w.cell? ⟨b, i, none⟩ := fun i => Below.cell hk (p := ⟨b, i, none⟩) hb
  exact ⟨(hc 0).trans h0, (hc 1).trans h1, (hc 2).trans h2, (hc 3).trans h3, fun i => (Below.frozen hk (p := ⟨b, i, none⟩) hb).trans (hf i)⟩

end Go.Proofs.Yteabfjpajgakiaf
