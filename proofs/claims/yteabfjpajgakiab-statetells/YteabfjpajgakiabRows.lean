/-
  No cell of these rows narrows 'for every input' (looked for: loops, veiled, ifaces, maps, wideKeys, modest, calm, conditions, laid).
  DERIVED. THE GIVEN ROWS OF THIS SEAT. 6 by the template 'for every input the law returns true; each argument reads behind the call as it read before'; 0 by the template 'total and deterministic' (their statements: YteabfjpajgakiabTotals.lean).
  GIVEN WITH THE SEED: the statements are not yours to turn. If you find one false, say at which input.
  Laid BY PROGRAM, IN A SANDBOX (cutbox-rows.mjs): the forced cells as the released guide's own fill.sh prints them over the translation e591e52cbaccff83… (all of the seat's roots in one cut). By AI agents, Wed Nov 11 2026. No macro, syntax, notation, axiom, sorry.
-/
import Derived.Test.YteabfjpajgakiabChecked
import GoSem.Claim
import GoSem.ClaimJoined
import GoSem.ClaimMapViews
import Derived.JoinedTies
import Derived.KernelRfl
namespace Go.Proofs.Yteabfjpajgakiab
/- THE CELL 'sum', in the pinned program and in every row, IS THE sha256 OF THE DUMP (.gsa) THAT YteabfjpajgakiabProg.lean LOADS. Nothing in Lean hashes anything: it is a label: what it is worth is what the hold of that sum in a sandbox is worth. -/
noncomputable def Try.pinned : Pinned := { name := "yteabfjpajgakiab", sum := "e591e52cbaccff8348a2a9ff9b731e3a5c761d0939d7f16deb17910bc2aa7d71", checked := Try.checked }
namespace Rows
def none {H : Type} : Left H := { results := [], args := [] }

/-- 'portagelaw.StateTells': WHATEVER THE INPUT: true; the input reads as it did. -/
def stateTellsSpec : ChangeSpec := { name := "stateTells", fn := fun _ => fun
  | [d1, d2] => { results := [.lit (.bool true)], args := [d1, d2] }
  | _ => none }
def stateTellsRow : OpenClaim := { program := "yteabfjpajgakiab", sum := "e591e52cbaccff8348a2a9ff9b731e3a5c761d0939d7f16deb17910bc2aa7d71", func := "portage/portagelaw.StateTells", spec := "stateTells", unfollowed := true, recurses := true, apart := false }
def StateTellsSaid : Prop := stateTellsRow.holds Try.pinned (OpenSpec.ofChange stateTellsSpec)

/-- ITS FALSE NEIGHBOUR: 'it returns false'. Refute it at one input. -/
def stateTellsWrong : ChangeSpec := { name := "stateTells", fn := fun _ => fun
  | [d1, d2] => { results := [.lit (.bool false)], args := [d1, d2] }
  | _ => none }
def StateTellsWrongFalsely : Prop := stateTellsRow.holds Try.pinned (OpenSpec.ofChange stateTellsWrong)

/-- 'portagelaw.ApplyChecks': WHATEVER THE INPUT: true; the input reads as it did. -/
def applyChecksSpec : ChangeSpec := { name := "applyChecks", fn := fun _ => fun
  | [d] => { results := [.lit (.bool true)], args := [d] }
  | _ => none }
def applyChecksRow : OpenClaim := { program := "yteabfjpajgakiab", sum := "e591e52cbaccff8348a2a9ff9b731e3a5c761d0939d7f16deb17910bc2aa7d71", func := "portage/portagelaw.ApplyChecks", spec := "applyChecks", inPlace := ["slices.overlaps[portage/api.Reply]"], unfollowed := true, recurses := true, apart := false }
def ApplyChecksSaid : Prop := applyChecksRow.holds Try.pinned (OpenSpec.ofChange applyChecksSpec)

/-- ITS FALSE NEIGHBOUR: 'it returns false'. Refute it at one input. -/
def applyChecksWrong : ChangeSpec := { name := "applyChecks", fn := fun _ => fun
  | [d] => { results := [.lit (.bool false)], args := [d] }
  | _ => none }
def ApplyChecksWrongFalsely : Prop := applyChecksRow.holds Try.pinned (OpenSpec.ofChange applyChecksWrong)

/-- 'portagelaw.ApplyOnes': WHATEVER THE INPUT: true; the input reads as it did. -/
def applyOnesSpec : ChangeSpec := { name := "applyOnes", fn := fun _ => fun
  | [d1, d2] => { results := [.lit (.bool true)], args := [d1, d2] }
  | _ => none }
def applyOnesRow : OpenClaim := { program := "yteabfjpajgakiab", sum := "e591e52cbaccff8348a2a9ff9b731e3a5c761d0939d7f16deb17910bc2aa7d71", func := "portage/portagelaw.ApplyOnes", spec := "applyOnes", inPlace := ["slices.overlaps[portage/api.Reply]"], unfollowed := true, recurses := true, apart := false }
def ApplyOnesSaid : Prop := applyOnesRow.holds Try.pinned (OpenSpec.ofChange applyOnesSpec)

/-- ITS FALSE NEIGHBOUR: 'it returns false'. Refute it at one input. -/
def applyOnesWrong : ChangeSpec := { name := "applyOnes", fn := fun _ => fun
  | [d1, d2] => { results := [.lit (.bool false)], args := [d1, d2] }
  | _ => none }
def ApplyOnesWrongFalsely : Prop := applyOnesRow.holds Try.pinned (OpenSpec.ofChange applyOnesWrong)

/-- 'portagelaw.ApplyTrue': WHATEVER THE INPUT: true; the input reads as it did. -/
def applyTrueSpec : ChangeSpec := { name := "applyTrue", fn := fun _ => fun
  | [d1, d2] => { results := [.lit (.bool true)], args := [d1, d2] }
  | _ => none }
def applyTrueRow : OpenClaim := { program := "yteabfjpajgakiab", sum := "e591e52cbaccff8348a2a9ff9b731e3a5c761d0939d7f16deb17910bc2aa7d71", func := "portage/portagelaw.ApplyTrue", spec := "applyTrue", inPlace := ["slices.overlaps[portage/api.Reply]"], unfollowed := true, recurses := true, apart := false }
def ApplyTrueSaid : Prop := applyTrueRow.holds Try.pinned (OpenSpec.ofChange applyTrueSpec)

/-- ITS FALSE NEIGHBOUR: 'it returns false'. Refute it at one input. -/
def applyTrueWrong : ChangeSpec := { name := "applyTrue", fn := fun _ => fun
  | [d1, d2] => { results := [.lit (.bool false)], args := [d1, d2] }
  | _ => none }
def ApplyTrueWrongFalsely : Prop := applyTrueRow.holds Try.pinned (OpenSpec.ofChange applyTrueWrong)

/-- 'portagelaw.ApplyAgain': WHATEVER THE INPUT: true; the input reads as it did. -/
def applyAgainSpec : ChangeSpec := { name := "applyAgain", fn := fun _ => fun
  | [d1, d2, d3] => { results := [.lit (.bool true)], args := [d1, d2, d3] }
  | _ => none }
def applyAgainRow : OpenClaim := { program := "yteabfjpajgakiab", sum := "e591e52cbaccff8348a2a9ff9b731e3a5c761d0939d7f16deb17910bc2aa7d71", func := "portage/portagelaw.ApplyAgain", spec := "applyAgain", inPlace := ["slices.overlaps[portage/api.Reply]"], unfollowed := true, recurses := true, apart := false }
def ApplyAgainSaid : Prop := applyAgainRow.holds Try.pinned (OpenSpec.ofChange applyAgainSpec)

/-- ITS FALSE NEIGHBOUR: 'it returns false'. Refute it at one input. -/
def applyAgainWrong : ChangeSpec := { name := "applyAgain", fn := fun _ => fun
  | [d1, d2, d3] => { results := [.lit (.bool false)], args := [d1, d2, d3] }
  | _ => none }
def ApplyAgainWrongFalsely : Prop := applyAgainRow.holds Try.pinned (OpenSpec.ofChange applyAgainWrong)

/-- 'portagelaw.ApplyKept': WHATEVER THE INPUT: true; the input reads as it did. -/
def applyKeptSpec : ChangeSpec := { name := "applyKept", fn := fun _ => fun
  | [d1, d2, d3] => { results := [.lit (.bool true)], args := [d1, d2, d3] }
  | _ => none }
def applyKeptRow : OpenClaim := { program := "yteabfjpajgakiab", sum := "e591e52cbaccff8348a2a9ff9b731e3a5c761d0939d7f16deb17910bc2aa7d71", func := "portage/portagelaw.ApplyKept", spec := "applyKept", inPlace := ["slices.overlaps[portage/api.Reply]"], unfollowed := true, recurses := true, apart := false }
def ApplyKeptSaid : Prop := applyKeptRow.holds Try.pinned (OpenSpec.ofChange applyKeptSpec)

/-- ITS FALSE NEIGHBOUR: 'it returns false'. Refute it at one input. -/
def applyKeptWrong : ChangeSpec := { name := "applyKept", fn := fun _ => fun
  | [d1, d2, d3] => { results := [.lit (.bool false)], args := [d1, d2, d3] }
  | _ => none }
def ApplyKeptWrongFalsely : Prop := applyKeptRow.holds Try.pinned (OpenSpec.ofChange applyKeptWrong)

/- THE SECOND FORM. 'bulk': how many values and letters a reading holds, each counted each time it is reached (what is shared counts as often as it is met; a slice's spare places count too). A statement '..UptoSaid' is the law's where the arguments, and the package variables that the reading takes, are together of bulk at most 1048576: NARROWER than '..Said'. Prove '..Said' where nothing that the law and all that it calls make is longer than what came in: it says more and counts as full. Else prove '..UptoSaid'. A law counts once. -/
mutual
def uptoBulk {H : Type} : DataW H → Nat
  | .lit (.string bytes) => bytes.length + 1
  | .lit _ => 1
  | .nil => 1
  | .ptr d => uptoBulk d + 1
  | .slice elems spare => uptoBulkAll elems + uptoBulkAll spare + 1
  | .agg parts => uptoBulkAll parts + 1
  | .iface _ d => uptoBulk d + 1
  | .map entries => uptoBulkEntries entries + 1
  | .held _ => 1
def uptoBulkAll {H : Type} : List (DataW H) → Nat
  | [] => 0
  | d :: r => uptoBulk d + uptoBulkAll r
def uptoBulkEntries {H : Type} : List (Lit × DataW H) → Nat
  | [] => 0
  | x :: r => uptoBulkEntry x + uptoBulkEntries r
def uptoBulkEntry {H : Type} : Lit × DataW H → Nat
  | (.string bytes, d) => bytes.length + uptoBulk d + 1
  | (_, d) => uptoBulk d + 1
 end
def uptoSmall : (H : Type) → List (DataW H) → Bool := fun _ ds => decide (uptoBulkAll ds ≤ 1048576)
def OpenSpec.upto (s : _root_.Go.ChangeSpec) : _root_.Go.OpenSpec := { _root_.Go.OpenSpec.ofChange s with cond := some uptoSmall }

/-- 'portagelaw.StateTells', WHERE WHAT IT READS IS OF BULK AT MOST 1048576: true; the input reads as it did. -/
def stateTellsUptoRow : OpenClaim := { program := "yteabfjpajgakiab", sum := "e591e52cbaccff8348a2a9ff9b731e3a5c761d0939d7f16deb17910bc2aa7d71", func := "portage/portagelaw.StateTells", spec := "stateTells", unfollowed := true, recurses := true, apart := false, narrowed := true }
def StateTellsUptoSaid : Prop := stateTellsUptoRow.holds Try.pinned (OpenSpec.upto stateTellsSpec)

/-- 'portagelaw.ApplyChecks', WHERE WHAT IT READS IS OF BULK AT MOST 1048576: true; the input reads as it did. -/
def applyChecksUptoRow : OpenClaim := { program := "yteabfjpajgakiab", sum := "e591e52cbaccff8348a2a9ff9b731e3a5c761d0939d7f16deb17910bc2aa7d71", func := "portage/portagelaw.ApplyChecks", spec := "applyChecks", inPlace := ["slices.overlaps[portage/api.Reply]"], unfollowed := true, recurses := true, apart := false, narrowed := true }
def ApplyChecksUptoSaid : Prop := applyChecksUptoRow.holds Try.pinned (OpenSpec.upto applyChecksSpec)

/-- 'portagelaw.ApplyOnes', WHERE WHAT IT READS IS OF BULK AT MOST 1048576: true; the input reads as it did. -/
def applyOnesUptoRow : OpenClaim := { program := "yteabfjpajgakiab", sum := "e591e52cbaccff8348a2a9ff9b731e3a5c761d0939d7f16deb17910bc2aa7d71", func := "portage/portagelaw.ApplyOnes", spec := "applyOnes", inPlace := ["slices.overlaps[portage/api.Reply]"], unfollowed := true, recurses := true, apart := false, narrowed := true }
def ApplyOnesUptoSaid : Prop := applyOnesUptoRow.holds Try.pinned (OpenSpec.upto applyOnesSpec)

/-- 'portagelaw.ApplyTrue', WHERE WHAT IT READS IS OF BULK AT MOST 1048576: true; the input reads as it did. -/
def applyTrueUptoRow : OpenClaim := { program := "yteabfjpajgakiab", sum := "e591e52cbaccff8348a2a9ff9b731e3a5c761d0939d7f16deb17910bc2aa7d71", func := "portage/portagelaw.ApplyTrue", spec := "applyTrue", inPlace := ["slices.overlaps[portage/api.Reply]"], unfollowed := true, recurses := true, apart := false, narrowed := true }
def ApplyTrueUptoSaid : Prop := applyTrueUptoRow.holds Try.pinned (OpenSpec.upto applyTrueSpec)

/-- 'portagelaw.ApplyAgain', WHERE WHAT IT READS IS OF BULK AT MOST 1048576: true; the input reads as it did. -/
def applyAgainUptoRow : OpenClaim := { program := "yteabfjpajgakiab", sum := "e591e52cbaccff8348a2a9ff9b731e3a5c761d0939d7f16deb17910bc2aa7d71", func := "portage/portagelaw.ApplyAgain", spec := "applyAgain", inPlace := ["slices.overlaps[portage/api.Reply]"], unfollowed := true, recurses := true, apart := false, narrowed := true }
def ApplyAgainUptoSaid : Prop := applyAgainUptoRow.holds Try.pinned (OpenSpec.upto applyAgainSpec)

/-- 'portagelaw.ApplyKept', WHERE WHAT IT READS IS OF BULK AT MOST 1048576: true; the input reads as it did. -/
def applyKeptUptoRow : OpenClaim := { program := "yteabfjpajgakiab", sum := "e591e52cbaccff8348a2a9ff9b731e3a5c761d0939d7f16deb17910bc2aa7d71", func := "portage/portagelaw.ApplyKept", spec := "applyKept", inPlace := ["slices.overlaps[portage/api.Reply]"], unfollowed := true, recurses := true, apart := false, narrowed := true }
def ApplyKeptUptoSaid : Prop := applyKeptUptoRow.holds Try.pinned (OpenSpec.upto applyKeptSpec)

end Rows
end Go.Proofs.Yteabfjpajgakiab
