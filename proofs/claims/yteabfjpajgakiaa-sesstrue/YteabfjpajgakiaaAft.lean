/- A region that draws its order, whose operations only read and whose calls leave all that was there as it was. -/
import Derived.Test.YteabfjpajgakiaaBase
set_option linter.unusedSimpArgs false
set_option linter.unusedVariables false
namespace Go.Proofs.Yteabfjpajgakiaa
open Go.RowKit

/-- A world in which all that was there in W0 is as it was. -/
structure After (W0 : World) where
  w : World
  h : Keeps W0 w
theorem After.some (W0 : World) : Nonempty (After W0) := ⟨⟨W0, Keeps.refl _⟩⟩

/-- A region that draws its order, whose operations only read and whose calls leave all as it was: one walk in the order of the text. -/
theorem wp_region_after {P : Program} {id : Nat} {Q : Exit → Act → World → Prop} {a : Act} {w : World} {l : List Oper} (hm : P.follows .mixedOrders = true) (hB : Region.lexB .any l.toArray = true)
    (h : wpQuiet P l.toArray (fun w' => ∃ s : After w, w' = s.w) (fun a' => ∀ w', (∃ s : After w, w' = s.w) → Q .normal a' w') l a) : (Code.region id l.toArray true).wp P Q a w :=
  wp_region_quiet (C := fun w' => ∃ s : After w, w' = s.w) hm hB ⟨⟨w.drew, (Keeps.refl _).drew⟩, rfl⟩ (by simpa using h)

theorem calls_after {P : Program} {W0 : World} {f : FuncId} {args : Array Value} {s : After W0} {v : Value}
    (h : Calls P f args s.w fun e w' => e = .returned v ∧ Keeps s.w w') : Calls P f args s.w fun e w'' => e = .returned v ∧ ∃ s' : After W0, w'' = s'.w :=
  h.mono fun _ w' ⟨he, hk⟩ => ⟨he, ⟨w', s.h.trans hk⟩, rfl⟩

/-- .. a callee that leaves the very world. -/
theorem calls_after_same {P : Program} {W0 : World} {f : FuncId} {args : Array Value} {s : After W0} {v : Value}
    (h : Calls P f args s.w fun e w' => e = .returned v ∧ s.w = w') : Calls P f args s.w fun e w'' => e = .returned v ∧ ∃ s' : After W0, w'' = s'.w :=
  h.mono fun _ w' ⟨he, hk⟩ => ⟨he, s, hk.symm⟩
/-- .. whose answer is known otherwise. -/
theorem calls_after_eq {P : Program} {W0 : World} {f : FuncId} {args : Array Value} {s : After W0} {v v' : Value}
    (h : Calls P f args s.w fun e w' => e = .returned v ∧ s.w = w') (hv : v = v') : Calls P f args s.w fun e w'' => e = .returned v' ∧ ∃ s' : After W0, w'' = s'.w :=
  hv ▸ calls_after_same h
theorem calls_after_keq {P : Program} {W0 : World} {f : FuncId} {args : Array Value} {s : After W0} {v v' : Value}
    (h : Calls P f args s.w fun e w' => e = .returned v ∧ Keeps s.w w') (hv : v = v') : Calls P f args s.w fun e w'' => e = .returned v' ∧ ∃ s' : After W0, w'' = s'.w :=
  hv ▸ calls_after h
end Go.Proofs.Yteabfjpajgakiaa
