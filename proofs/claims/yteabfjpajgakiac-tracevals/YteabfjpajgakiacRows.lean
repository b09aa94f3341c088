/-
  No cell of these rows narrows 'for every input' (looked for: loops, veiled, ifaces, maps, wideKeys, modest, calm, conditions, laid).
  DERIVED. THE GIVEN ROWS OF THIS SEAT. 6 by the template 'for every input the law returns true; each argument reads behind the call as it read before'; 0 by the template 'total and deterministic' (their statements: YteabfjpajgakiacTotals.lean).
  GIVEN WITH THE SEED: the statements are not yours to turn. If you find one false, say at which input.
  Laid BY PROGRAM, IN A SANDBOX (cutbox-rows.mjs): the forced cells as the released guide's own fill.sh prints them over the translation 686c8a94ef50df82… (all of the seat's roots in one cut). By AI agents, Wed Nov 11 2026. No macro, syntax, notation, axiom, sorry.
-/
import Derived.Test.YteabfjpajgakiacChecked
import GoSem.Claim
import GoSem.ClaimJoined
import GoSem.ClaimMapViews
import Derived.JoinedTies
import Derived.KernelRfl
namespace Go.Proofs.Yteabfjpajgakiac
/- THE CELL 'sum', in the pinned program and in every row, IS THE sha256 OF THE DUMP (.gsa) THAT YteabfjpajgakiacProg.lean LOADS. Nothing in Lean hashes anything: it is a label: what it is worth is what the hold of that sum in a sandbox is worth. -/
noncomputable def Try.pinned : Pinned := { name := "yteabfjpajgakiac", sum := "686c8a94ef50df82fec09e66e20938980c1205deac37ffa4e79b3897ef4b5e96", checked := Try.checked }
namespace Rows
def none {H : Type} : Left H := { results := [], args := [] }

/-- 'portagelaw.FoldTells': WHATEVER THE INPUT: true; the input reads as it did. -/
def foldTellsSpec : ChangeSpec := { name := "foldTells", fn := fun _ => fun
  | [d1, d2] => { results := [.lit (.bool true)], args := [d1, d2] }
  | _ => none }
def foldTellsRow : OpenClaim := { program := "yteabfjpajgakiac", sum := "686c8a94ef50df82fec09e66e20938980c1205deac37ffa4e79b3897ef4b5e96", func := "portage/portagelaw.FoldTells", spec := "foldTells", inPlace := ["slices.overlaps[portage/api.Reply]"], unfollowed := true, recurses := true, apart := false }
def FoldTellsSaid : Prop := foldTellsRow.holds Try.pinned (OpenSpec.ofChange foldTellsSpec)

/-- ITS FALSE NEIGHBOUR: 'it returns false'. Refute it at one input. -/
def foldTellsWrong : ChangeSpec := { name := "foldTells", fn := fun _ => fun
  | [d1, d2] => { results := [.lit (.bool false)], args := [d1, d2] }
  | _ => none }
def FoldTellsWrongFalsely : Prop := foldTellsRow.holds Try.pinned (OpenSpec.ofChange foldTellsWrong)

/-- 'portagelaw.FoldSplit': WHATEVER THE INPUT: true; the input reads as it did. -/
def foldSplitSpec : ChangeSpec := { name := "foldSplit", fn := fun _ => fun
  | [d1, d2, d3] => { results := [.lit (.bool true)], args := [d1, d2, d3] }
  | _ => none }
def foldSplitRow : OpenClaim := { program := "yteabfjpajgakiac", sum := "686c8a94ef50df82fec09e66e20938980c1205deac37ffa4e79b3897ef4b5e96", func := "portage/portagelaw.FoldSplit", spec := "foldSplit", inPlace := ["slices.overlaps[portage/api.Reply]"], unfollowed := true, recurses := true, apart := false }
def FoldSplitSaid : Prop := foldSplitRow.holds Try.pinned (OpenSpec.ofChange foldSplitSpec)

/-- ITS FALSE NEIGHBOUR: 'it returns false'. Refute it at one input. -/
def foldSplitWrong : ChangeSpec := { name := "foldSplit", fn := fun _ => fun
  | [d1, d2, d3] => { results := [.lit (.bool false)], args := [d1, d2, d3] }
  | _ => none }
def FoldSplitWrongFalsely : Prop := foldSplitRow.holds Try.pinned (OpenSpec.ofChange foldSplitWrong)

/-- 'portagelaw.TraceTells': WHATEVER THE INPUT: true; the input reads as it did. -/
def traceTellsSpec : ChangeSpec := { name := "traceTells", fn := fun _ => fun
  | [d] => { results := [.lit (.bool true)], args := [d] }
  | _ => none }
def traceTellsRow : OpenClaim := { program := "yteabfjpajgakiac", sum := "686c8a94ef50df82fec09e66e20938980c1205deac37ffa4e79b3897ef4b5e96", func := "portage/portagelaw.TraceTells", spec := "traceTells", inPlace := ["slices.overlaps[portage/api.Reply]"], unfollowed := true, recurses := true, apart := false }
def TraceTellsSaid : Prop := traceTellsRow.holds Try.pinned (OpenSpec.ofChange traceTellsSpec)

/-- ITS FALSE NEIGHBOUR: 'it returns false'. Refute it at one input. -/
def traceTellsWrong : ChangeSpec := { name := "traceTells", fn := fun _ => fun
  | [d] => { results := [.lit (.bool false)], args := [d] }
  | _ => none }
def TraceTellsWrongFalsely : Prop := traceTellsRow.holds Try.pinned (OpenSpec.ofChange traceTellsWrong)

/-- 'portagelaw.TraceOnce': WHATEVER THE INPUT: true; the input reads as it did. -/
def traceOnceSpec : ChangeSpec := { name := "traceOnce", fn := fun _ => fun
  | [d1, d2, d3] => { results := [.lit (.bool true)], args := [d1, d2, d3] }
  | _ => none }
def traceOnceRow : OpenClaim := { program := "yteabfjpajgakiac", sum := "686c8a94ef50df82fec09e66e20938980c1205deac37ffa4e79b3897ef4b5e96", func := "portage/portagelaw.TraceOnce", spec := "traceOnce", inPlace := ["slices.overlaps[portage/api.Reply]"], unfollowed := true, recurses := true, apart := false }
def TraceOnceSaid : Prop := traceOnceRow.holds Try.pinned (OpenSpec.ofChange traceOnceSpec)

/-- ITS FALSE NEIGHBOUR: 'it returns false'. Refute it at one input. -/
def traceOnceWrong : ChangeSpec := { name := "traceOnce", fn := fun _ => fun
  | [d1, d2, d3] => { results := [.lit (.bool false)], args := [d1, d2, d3] }
  | _ => none }
def TraceOnceWrongFalsely : Prop := traceOnceRow.holds Try.pinned (OpenSpec.ofChange traceOnceWrong)

/-- 'portagelaw.TraceVals': WHATEVER THE INPUT: true; the input reads as it did. -/
def traceValsSpec : ChangeSpec := { name := "traceVals", fn := fun _ => fun
  | [d] => { results := [.lit (.bool true)], args := [d] }
  | _ => none }
def traceValsRow : OpenClaim := { program := "yteabfjpajgakiac", sum := "686c8a94ef50df82fec09e66e20938980c1205deac37ffa4e79b3897ef4b5e96", func := "portage/portagelaw.TraceVals", spec := "traceVals", inPlace := ["slices.overlaps[portage/api.Reply]"], unfollowed := true, recurses := true, apart := false }
def TraceValsSaid : Prop := traceValsRow.holds Try.pinned (OpenSpec.ofChange traceValsSpec)

/-- ITS FALSE NEIGHBOUR: 'it returns false'. Refute it at one input. -/
def traceValsWrong : ChangeSpec := { name := "traceVals", fn := fun _ => fun
  | [d] => { results := [.lit (.bool false)], args := [d] }
  | _ => none }
def TraceValsWrongFalsely : Prop := traceValsRow.holds Try.pinned (OpenSpec.ofChange traceValsWrong)

/-- 'portagelaw.TraceLife': WHATEVER THE INPUT: true; the input reads as it did. -/
def traceLifeSpec : ChangeSpec := { name := "traceLife", fn := fun _ => fun
  | [d1, d2, d3] => { results := [.lit (.bool true)], args := [d1, d2, d3] }
  | _ => none }
def traceLifeRow : OpenClaim := { program := "yteabfjpajgakiac", sum := "686c8a94ef50df82fec09e66e20938980c1205deac37ffa4e79b3897ef4b5e96", func := "portage/portagelaw.TraceLife", spec := "traceLife", inPlace := ["slices.overlaps[portage/api.Reply]"], unfollowed := true, recurses := true, apart := false }
def TraceLifeSaid : Prop := traceLifeRow.holds Try.pinned (OpenSpec.ofChange traceLifeSpec)

/-- ITS FALSE NEIGHBOUR: 'it returns false'. Refute it at one input. -/
def traceLifeWrong : ChangeSpec := { name := "traceLife", fn := fun _ => fun
  | [d1, d2, d3] => { results := [.lit (.bool false)], args := [d1, d2, d3] }
  | _ => none }
def TraceLifeWrongFalsely : Prop := traceLifeRow.holds Try.pinned (OpenSpec.ofChange traceLifeWrong)

/- THE SECOND FORM. 'bulk': how many values and letters a reading holds, each counted each time it is reached (what is shared counts as often as it is met; a slice's spare places count too). A statement '..UptoSaid' is the law's where the arguments, and the package variables that the reading takes, are together of bulk at most 1048576: NARROWER than '..Said'. Prove '..Said' where nothing that the law and all that it calls make is longer than what came in: it says more and counts as full. Else prove '..UptoSaid'. A law counts once. -/
mutual
def uptoBulk {H : Type} : DataW H → Nat
  | .lit (.string bytes) => bytes.length + 1
  | .lit _ => 1
  | .nil => 1
  | .ptr d => uptoBulk d + 1
  | .slice elems spare => uptoBulkAll elems + uptoBulkAll spare + 1
  | .agg parts => uptoBulkAll parts + 1
  | .iface _ d => uptoBulk d + 1
  | .map entries => uptoBulkEntries entries + 1
  | .held _ => 1
def uptoBulkAll {H : Type} : List (DataW H) → Nat
  | [] => 0
  | d :: r => uptoBulk d + uptoBulkAll r
def uptoBulkEntries {H : Type} : List (Lit × DataW H) → Nat
  | [] => 0
  | x :: r => uptoBulkEntry x + uptoBulkEntries r
def uptoBulkEntry {H : Type} : Lit × DataW H → Nat
  | (.string bytes, d) => bytes.length + uptoBulk d + 1
  | (_, d) => uptoBulk d + 1
 end
def uptoSmall : (H : Type) → List (DataW H) → Bool := fun _ ds => decide (uptoBulkAll ds ≤ 1048576)
def OpenSpec.upto (s : _root_.Go.ChangeSpec) : _root_.Go.OpenSpec := { _root_.Go.OpenSpec.ofChange s with cond := some uptoSmall }

/-- 'portagelaw.FoldTells', WHERE WHAT IT READS IS OF BULK AT MOST 1048576: true; the input reads as it did. -/
def foldTellsUptoRow : OpenClaim := { program := "yteabfjpajgakiac", sum := "686c8a94ef50df82fec09e66e20938980c1205deac37ffa4e79b3897ef4b5e96", func := "portage/portagelaw.FoldTells", spec := "foldTells", inPlace := ["slices.overlaps[portage/api.Reply]"], unfollowed := true, recurses := true, apart := false, narrowed := true }
def FoldTellsUptoSaid : Prop := foldTellsUptoRow.holds Try.pinned (OpenSpec.upto foldTellsSpec)

/-- 'portagelaw.FoldSplit', WHERE WHAT IT READS IS OF BULK AT MOST 1048576: true; the input reads as it did. -/
def foldSplitUptoRow : OpenClaim := { program := "yteabfjpajgakiac", sum := "686c8a94ef50df82fec09e66e20938980c1205deac37ffa4e79b3897ef4b5e96", func := "portage/portagelaw.FoldSplit", spec := "foldSplit", inPlace := ["slices.overlaps[portage/api.Reply]"], unfollowed := true, recurses := true, apart := false, narrowed := true }
def FoldSplitUptoSaid : Prop := foldSplitUptoRow.holds Try.pinned (OpenSpec.upto foldSplitSpec)

/-- 'portagelaw.TraceTells', WHERE WHAT IT READS IS OF BULK AT MOST 1048576: true; the input reads as it did. -/
def traceTellsUptoRow : OpenClaim := { program := "yteabfjpajgakiac", sum := "686c8a94ef50df82fec09e66e20938980c1205deac37ffa4e79b3897ef4b5e96", func := "portage/portagelaw.TraceTells", spec := "traceTells", inPlace := ["slices.overlaps[portage/api.Reply]"], unfollowed := true, recurses := true, apart := false, narrowed := true }
def TraceTellsUptoSaid : Prop := traceTellsUptoRow.holds Try.pinned (OpenSpec.upto traceTellsSpec)

/-- 'portagelaw.TraceOnce', WHERE WHAT IT READS IS OF BULK AT MOST 1048576: true; the input reads as it did. -/
def traceOnceUptoRow : OpenClaim := { program := "yteabfjpajgakiac", sum := "686c8a94ef50df82fec09e66e20938980c1205deac37ffa4e79b3897ef4b5e96", func := "portage/portagelaw.TraceOnce", spec := "traceOnce", inPlace := ["slices.overlaps[portage/api.Reply]"], unfollowed := true, recurses := true, apart := false, narrowed := true }
def TraceOnceUptoSaid : Prop := traceOnceUptoRow.holds Try.pinned (OpenSpec.upto traceOnceSpec)

/-- 'portagelaw.TraceVals', WHERE WHAT IT READS IS OF BULK AT MOST 1048576: true; the input reads as it did. -/
def traceValsUptoRow : OpenClaim := { program := "yteabfjpajgakiac", sum := "686c8a94ef50df82fec09e66e20938980c1205deac37ffa4e79b3897ef4b5e96", func := "portage/portagelaw.TraceVals", spec := "traceVals", inPlace := ["slices.overlaps[portage/api.Reply]"], unfollowed := true, recurses := true, apart := false, narrowed := true }
def TraceValsUptoSaid : Prop := traceValsUptoRow.holds Try.pinned (OpenSpec.upto traceValsSpec)

/-- 'portagelaw.TraceLife', WHERE WHAT IT READS IS OF BULK AT MOST 1048576: true; the input reads as it did. -/
def traceLifeUptoRow : OpenClaim := { program := "yteabfjpajgakiac", sum := "686c8a94ef50df82fec09e66e20938980c1205deac37ffa4e79b3897ef4b5e96", func := "portage/portagelaw.TraceLife", spec := "traceLife", inPlace := ["slices.overlaps[portage/api.Reply]"], unfollowed := true, recurses := true, apart := false, narrowed := true }
def TraceLifeUptoSaid : Prop := traceLifeUptoRow.holds Try.pinned (OpenSpec.upto traceLifeSpec)

end Rows
end Go.Proofs.Yteabfjpajgakiac
