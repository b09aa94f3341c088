/-
  No cell of these rows narrows 'for every input' (looked for: loops, veiled, ifaces, maps, wideKeys, modest, calm, conditions, laid).
  DERIVED. THE GIVEN ROWS OF THIS SEAT. 4 by the template 'for every input the law returns true; each argument reads behind the call as it read before'; 0 by the template 'total and deterministic' (their statements: YteabfjpajgakiafTotals.lean).
  GIVEN WITH THE SEED: the statements are not yours to turn. If you find one false, say at which input.
  Laid BY PROGRAM, IN A SANDBOX (cutbox-rows.mjs): the forced cells as the released guide's own fill.sh prints them over the translation cb1e8dd101fc2066… (all of the seat's roots in one cut). By AI agents, Wed Nov 11 2026. No macro, syntax, notation, axiom, sorry.
-/
import Derived.Test.YteabfjpajgakiafChecked
import GoSem.Claim
import GoSem.ClaimJoined
import GoSem.ClaimMapViews
import Derived.JoinedTies
import Derived.KernelRfl
namespace Go.Proofs.Yteabfjpajgakiaf
/- THE CELL 'sum', in the pinned program and in every row, IS THE sha256 OF THE DUMP (.gsa) THAT YteabfjpajgakiafProg.lean LOADS. Nothing in Lean hashes anything: it is a label: what it is worth is what the hold of that sum in a sandbox is worth. -/
noncomputable def Try.pinned : Pinned := { name := "yteabfjpajgakiaf", sum := "cb1e8dd101fc206672f1931c90137f7b6caa444c2e9c67155cc9b4e84ac16d6f", checked := Try.checked }
namespace Rows
def none {H : Type} : Left H := { results := [], args := [] }

/-- 'portagelaw.GroupTrue': WHATEVER THE INPUT: true; the input reads as it did. -/
def groupTrueSpec : ChangeSpec := { name := "groupTrue", fn := fun _ => fun
  | [d1, d2, d3, d4] => { results := [.lit (.bool true)], args := [d1, d2, d3, d4] }
  | _ => none }
def groupTrueRow : OpenClaim := { program := "yteabfjpajgakiaf", sum := "cb1e8dd101fc206672f1931c90137f7b6caa444c2e9c67155cc9b4e84ac16d6f", func := "portage/portagelaw.GroupTrue", spec := "groupTrue", inPlace := ["slices.overlaps[portage/api.Reply]"], unfollowed := true, recurses := true, apart := false }
def GroupTrueSaid : Prop := groupTrueRow.holds Try.pinned (OpenSpec.ofChange groupTrueSpec)

/-- ITS FALSE NEIGHBOUR: 'it returns false'. Refute it at one input. -/
def groupTrueWrong : ChangeSpec := { name := "groupTrue", fn := fun _ => fun
  | [d1, d2, d3, d4] => { results := [.lit (.bool false)], args := [d1, d2, d3, d4] }
  | _ => none }
def GroupTrueWrongFalsely : Prop := groupTrueRow.holds Try.pinned (OpenSpec.ofChange groupTrueWrong)

/-- 'portagelaw.GroupEnd': WHATEVER THE INPUT: true; the input reads as it did. -/
def groupEndSpec : ChangeSpec := { name := "groupEnd", fn := fun _ => fun
  | [d1, d2] => { results := [.lit (.bool true)], args := [d1, d2] }
  | _ => none }
def groupEndRow : OpenClaim := { program := "yteabfjpajgakiaf", sum := "cb1e8dd101fc206672f1931c90137f7b6caa444c2e9c67155cc9b4e84ac16d6f", func := "portage/portagelaw.GroupEnd", spec := "groupEnd", inPlace := ["slices.overlaps[portage/api.Reply]"], unfollowed := true, recurses := true, apart := false }
def GroupEndSaid : Prop := groupEndRow.holds Try.pinned (OpenSpec.ofChange groupEndSpec)

/-- ITS FALSE NEIGHBOUR: 'it returns false'. Refute it at one input. -/
def groupEndWrong : ChangeSpec := { name := "groupEnd", fn := fun _ => fun
  | [d1, d2] => { results := [.lit (.bool false)], args := [d1, d2] }
  | _ => none }
def GroupEndWrongFalsely : Prop := groupEndRow.holds Try.pinned (OpenSpec.ofChange groupEndWrong)

/-- 'portagelaw.LogTells': WHATEVER THE INPUT: true; the input reads as it did. -/
def logTellsSpec : ChangeSpec := { name := "logTells", fn := fun _ => fun
  | [d1, d2] => { results := [.lit (.bool true)], args := [d1, d2] }
  | _ => none }
def logTellsRow : OpenClaim := { program := "yteabfjpajgakiaf", sum := "cb1e8dd101fc206672f1931c90137f7b6caa444c2e9c67155cc9b4e84ac16d6f", func := "portage/portagelaw.LogTells", spec := "logTells", unfollowed := true, recurses := true, apart := false }
def LogTellsSaid : Prop := logTellsRow.holds Try.pinned (OpenSpec.ofChange logTellsSpec)

/-- ITS FALSE NEIGHBOUR: 'it returns false'. Refute it at one input. -/
def logTellsWrong : ChangeSpec := { name := "logTells", fn := fun _ => fun
  | [d1, d2] => { results := [.lit (.bool false)], args := [d1, d2] }
  | _ => none }
def LogTellsWrongFalsely : Prop := logTellsRow.holds Try.pinned (OpenSpec.ofChange logTellsWrong)

/-- 'portagelaw.LogKept': WHATEVER THE INPUT: true; the input reads as it did. -/
def logKeptSpec : ChangeSpec := { name := "logKept", fn := fun _ => fun
  | [d1, d2] => { results := [.lit (.bool true)], args := [d1, d2] }
  | _ => none }
def logKeptRow : OpenClaim := { program := "yteabfjpajgakiaf", sum := "cb1e8dd101fc206672f1931c90137f7b6caa444c2e9c67155cc9b4e84ac16d6f", func := "portage/portagelaw.LogKept", spec := "logKept", unfollowed := true, recurses := true, apart := false }
def LogKeptSaid : Prop := logKeptRow.holds Try.pinned (OpenSpec.ofChange logKeptSpec)

/-- ITS FALSE NEIGHBOUR: 'it returns false'. Refute it at one input. -/
def logKeptWrong : ChangeSpec := { name := "logKept", fn := fun _ => fun
  | [d1, d2] => { results := [.lit (.bool false)], args := [d1, d2] }
  | _ => none }
def LogKeptWrongFalsely : Prop := logKeptRow.holds Try.pinned (OpenSpec.ofChange logKeptWrong)

/- THE SECOND FORM. 'bulk': how many values and letters a reading holds, each counted each time it is reached (what is shared counts as often as it is met; a slice's spare places count too). A statement '..UptoSaid' is the law's where the arguments, and the package variables that the reading takes, are together of bulk at most 1048576: NARROWER than '..Said'. Prove '..Said' where nothing that the law and all that it calls make is longer than what came in: it says more and counts as full. Else prove '..UptoSaid'. A law counts once. -/
mutual
def uptoBulk {H : Type} : DataW H → Nat
  | .lit (.string bytes) => bytes.length + 1
  | .lit _ => 1
  | .nil => 1
  | .ptr d => uptoBulk d + 1
  | .slice elems spare => uptoBulkAll elems + uptoBulkAll spare + 1
  | .agg parts => uptoBulkAll parts + 1
  | .iface _ d => uptoBulk d + 1
  | .map entries => uptoBulkEntries entries + 1
  | .held _ => 1
def uptoBulkAll {H : Type} : List (DataW H) → Nat
  | [] => 0
  | d :: r => uptoBulk d + uptoBulkAll r
def uptoBulkEntries {H : Type} : List (Lit × DataW H) → Nat
  | [] => 0
  | x :: r => uptoBulkEntry x + uptoBulkEntries r
def uptoBulkEntry {H : Type} : Lit × DataW H → Nat
  | (.string bytes, d) => bytes.length + uptoBulk d + 1
  | (_, d) => uptoBulk d + 1
 end
def uptoSmall : (H : Type) → List (DataW H) → Bool := fun _ ds => decide (uptoBulkAll ds ≤ 1048576)
def OpenSpec.upto (s : _root_.Go.ChangeSpec) : _root_.Go.OpenSpec := { _root_.Go.OpenSpec.ofChange s with cond := some uptoSmall }

/-- 'portagelaw.GroupTrue', WHERE WHAT IT READS IS OF BULK AT MOST 1048576: true; the input reads as it did. -/
def groupTrueUptoRow : OpenClaim := { program := "yteabfjpajgakiaf", sum := "cb1e8dd101fc206672f1931c90137f7b6caa444c2e9c67155cc9b4e84ac16d6f", func := "portage/portagelaw.GroupTrue", spec := "groupTrue", inPlace := ["slices.overlaps[portage/api.Reply]"], unfollowed := true, recurses := true, apart := false, narrowed := true }
def GroupTrueUptoSaid : Prop := groupTrueUptoRow.holds Try.pinned (OpenSpec.upto groupTrueSpec)

/-- 'portagelaw.GroupEnd', WHERE WHAT IT READS IS OF BULK AT MOST 1048576: true; the input reads as it did. -/
def groupEndUptoRow : OpenClaim := { program := "yteabfjpajgakiaf", sum := "cb1e8dd101fc206672f1931c90137f7b6caa444c2e9c67155cc9b4e84ac16d6f", func := "portage/portagelaw.GroupEnd", spec := "groupEnd", inPlace := ["slices.overlaps[portage/api.Reply]"], unfollowed := true, recurses := true, apart := false, narrowed := true }
def GroupEndUptoSaid : Prop := groupEndUptoRow.holds Try.pinned (OpenSpec.upto groupEndSpec)

/-- 'portagelaw.LogTells', WHERE WHAT IT READS IS OF BULK AT MOST 1048576: true; the input reads as it did. -/
def logTellsUptoRow : OpenClaim := { program := "yteabfjpajgakiaf", sum := "cb1e8dd101fc206672f1931c90137f7b6caa444c2e9c67155cc9b4e84ac16d6f", func := "portage/portagelaw.LogTells", spec := "logTells", unfollowed := true, recurses := true, apart := false, narrowed := true }
def LogTellsUptoSaid : Prop := logTellsUptoRow.holds Try.pinned (OpenSpec.upto logTellsSpec)

/-- 'portagelaw.LogKept', WHERE WHAT IT READS IS OF BULK AT MOST 1048576: true; the input reads as it did. -/
def logKeptUptoRow : OpenClaim := { program := "yteabfjpajgakiaf", sum := "cb1e8dd101fc206672f1931c90137f7b6caa444c2e9c67155cc9b4e84ac16d6f", func := "portage/portagelaw.LogKept", spec := "logKept", unfollowed := true, recurses := true, apart := false, narrowed := true }
def LogKeptUptoSaid : Prop := logKeptUptoRow.holds Try.pinned (OpenSpec.upto logKeptSpec)

end Rows
end Go.Proofs.Yteabfjpajgakiaf
