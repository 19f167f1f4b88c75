/-
  No cell of these rows narrows 'for every input' (looked for: loops, veiled, ifaces, maps, wideKeys, modest, calm, conditions, laid).
  DERIVED. THE GIVEN ROWS OF THIS SEAT. 5 by the template 'for every input the law returns true; each argument reads behind the call as it read before'; 0 by the template 'total and deterministic' (their statements: YtepmmlnopdjjdaaTotals.lean).
  GIVEN WITH THE SEED: the statements are not yours to turn. If you find one false, say at which input.
  Laid BY PROGRAM, IN A SANDBOX (cutbox-rows.mjs): the forced cells as the released guide's own fill.sh prints them over the translation 71c844fd03c9599b… (all of the seat's roots in one cut). By AI agents, Wed Nov 11 2026. No macro, syntax, notation, axiom, sorry.
-/
import Derived.Test.YtepmmlnopdjjdaaChecked
import GoSem.Claim
import GoSem.ClaimJoined
import GoSem.ClaimMapViews
import Derived.JoinedTies
import Derived.KernelRfl
namespace Go.Proofs.Ytepmmlnopdjjdaa
/- THE CELL 'sum', in the pinned program and in every row, IS THE sha256 OF THE DUMP (.gsa) THAT YtepmmlnopdjjdaaProg.lean LOADS. Nothing in Lean hashes anything: it is a label: what it is worth is what the hold of that sum in a sandbox is worth. -/
noncomputable def Try.pinned : Pinned := { name := "ytepmmlnopdjjdaa", sum := "71c844fd03c9599b0042e6105034e507abf36b6f9306e23c2094b85011efa7ad", checked := Try.checked }
namespace Rows
def none {H : Type} : Left H := { results := [], args := [] }

/-- 'tapearchivelaw11.DriveSteps': WHATEVER THE INPUT: true; the input reads as it did. -/
def driveStepsSpec : ChangeSpec := { name := "driveSteps", fn := fun _ => fun
  | [d1, d2, d3, d4] => { results := [.lit (.bool true)], args := [d1, d2, d3, d4] }
  | _ => none }
def driveStepsRow : OpenClaim := { program := "ytepmmlnopdjjdaa", sum := "71c844fd03c9599b0042e6105034e507abf36b6f9306e23c2094b85011efa7ad", func := "tapearchive/tapearchivelaw11.DriveSteps", spec := "driveSteps", unfollowed := true, recurses := true, apart := false }
def DriveStepsSaid : Prop := driveStepsRow.holds Try.pinned (OpenSpec.ofChange driveStepsSpec)

/-- ITS FALSE NEIGHBOUR: 'it returns false'. Refute it at one input. -/
def driveStepsWrong : ChangeSpec := { name := "driveSteps", fn := fun _ => fun
  | [d1, d2, d3, d4] => { results := [.lit (.bool false)], args := [d1, d2, d3, d4] }
  | _ => none }
def DriveStepsWrongFalsely : Prop := driveStepsRow.holds Try.pinned (OpenSpec.ofChange driveStepsWrong)

/-- 'tapearchivelaw11.DriveRuns': WHATEVER THE INPUT: true; the input reads as it did. -/
def driveRunsSpec : ChangeSpec := { name := "driveRuns", fn := fun _ => fun
  | [d1, d2, d3] => { results := [.lit (.bool true)], args := [d1, d2, d3] }
  | _ => none }
def driveRunsRow : OpenClaim := { program := "ytepmmlnopdjjdaa", sum := "71c844fd03c9599b0042e6105034e507abf36b6f9306e23c2094b85011efa7ad", func := "tapearchive/tapearchivelaw11.DriveRuns", spec := "driveRuns", unfollowed := true, recurses := true, apart := false }
def DriveRunsSaid : Prop := driveRunsRow.holds Try.pinned (OpenSpec.ofChange driveRunsSpec)

/-- ITS FALSE NEIGHBOUR: 'it returns false'. Refute it at one input. -/
def driveRunsWrong : ChangeSpec := { name := "driveRuns", fn := fun _ => fun
  | [d1, d2, d3] => { results := [.lit (.bool false)], args := [d1, d2, d3] }
  | _ => none }
def DriveRunsWrongFalsely : Prop := driveRunsRow.holds Try.pinned (OpenSpec.ofChange driveRunsWrong)

/-- 'tapearchivelaw11.DriveCosts': WHATEVER THE INPUT: true; the input reads as it did. -/
def driveCostsSpec : ChangeSpec := { name := "driveCosts", fn := fun _ => fun
  | [d1, d2, d3] => { results := [.lit (.bool true)], args := [d1, d2, d3] }
  | _ => none }
def driveCostsRow : OpenClaim := { program := "ytepmmlnopdjjdaa", sum := "71c844fd03c9599b0042e6105034e507abf36b6f9306e23c2094b85011efa7ad", func := "tapearchive/tapearchivelaw11.DriveCosts", spec := "driveCosts", unfollowed := true, recurses := true, apart := false }
def DriveCostsSaid : Prop := driveCostsRow.holds Try.pinned (OpenSpec.ofChange driveCostsSpec)

/-- ITS FALSE NEIGHBOUR: 'it returns false'. Refute it at one input. -/
def driveCostsWrong : ChangeSpec := { name := "driveCosts", fn := fun _ => fun
  | [d1, d2, d3] => { results := [.lit (.bool false)], args := [d1, d2, d3] }
  | _ => none }
def DriveCostsWrongFalsely : Prop := driveCostsRow.holds Try.pinned (OpenSpec.ofChange driveCostsWrong)

/-- 'tapearchivelaw11.DriveReads': WHATEVER THE INPUT: true; the input reads as it did. -/
def driveReadsSpec : ChangeSpec := { name := "driveReads", fn := fun _ => fun
  | [d1, d2, d3, d4] => { results := [.lit (.bool true)], args := [d1, d2, d3, d4] }
  | _ => none }
def driveReadsRow : OpenClaim := { program := "ytepmmlnopdjjdaa", sum := "71c844fd03c9599b0042e6105034e507abf36b6f9306e23c2094b85011efa7ad", func := "tapearchive/tapearchivelaw11.DriveReads", spec := "driveReads", unfollowed := true, recurses := true, apart := false }
def DriveReadsSaid : Prop := driveReadsRow.holds Try.pinned (OpenSpec.ofChange driveReadsSpec)

/-- ITS FALSE NEIGHBOUR: 'it returns false'. Refute it at one input. -/
def driveReadsWrong : ChangeSpec := { name := "driveReads", fn := fun _ => fun
  | [d1, d2, d3, d4] => { results := [.lit (.bool false)], args := [d1, d2, d3, d4] }
  | _ => none }
def DriveReadsWrongFalsely : Prop := driveReadsRow.holds Try.pinned (OpenSpec.ofChange driveReadsWrong)

/-- 'tapearchivelaw11.DriveWears': WHATEVER THE INPUT: true; the input reads as it did. -/
def driveWearsSpec : ChangeSpec := { name := "driveWears", fn := fun _ => fun
  | [d1, d2, d3, d4] => { results := [.lit (.bool true)], args := [d1, d2, d3, d4] }
  | _ => none }
def driveWearsRow : OpenClaim := { program := "ytepmmlnopdjjdaa", sum := "71c844fd03c9599b0042e6105034e507abf36b6f9306e23c2094b85011efa7ad", func := "tapearchive/tapearchivelaw11.DriveWears", spec := "driveWears", unfollowed := true, recurses := true, apart := false }
def DriveWearsSaid : Prop := driveWearsRow.holds Try.pinned (OpenSpec.ofChange driveWearsSpec)

/-- ITS FALSE NEIGHBOUR: 'it returns false'. Refute it at one input. -/
def driveWearsWrong : ChangeSpec := { name := "driveWears", fn := fun _ => fun
  | [d1, d2, d3, d4] => { results := [.lit (.bool false)], args := [d1, d2, d3, d4] }
  | _ => none }
def DriveWearsWrongFalsely : Prop := driveWearsRow.holds Try.pinned (OpenSpec.ofChange driveWearsWrong)

/- THE SECOND FORM. 'bulk': how many values and letters a reading holds, each counted each time it is reached (what is shared counts as often as it is met; a slice's spare places count too). A statement '..UptoSaid' is the law's where the arguments, and the package variables that the reading takes, are together of bulk at most 1048576: NARROWER than '..Said'. Prove '..Said' where nothing that the law and all that it calls make is longer than what came in: it says more and counts as full. Else prove '..UptoSaid'. A law counts once. -/
mutual
def uptoBulk {H : Type} : DataW H → Nat
  | .lit (.string bytes) => bytes.length + 1
  | .lit _ => 1
  | .nil => 1
  | .ptr d => uptoBulk d + 1
  | .slice elems spare => uptoBulkAll elems + uptoBulkAll spare + 1
  | .agg parts => uptoBulkAll parts + 1
  | .iface _ d => uptoBulk d + 1
  | .map entries => uptoBulkEntries entries + 1
  | .held _ => 1
def uptoBulkAll {H : Type} : List (DataW H) → Nat
  | [] => 0
  | d :: r => uptoBulk d + uptoBulkAll r
def uptoBulkEntries {H : Type} : List (Lit × DataW H) → Nat
  | [] => 0
  | x :: r => uptoBulkEntry x + uptoBulkEntries r
def uptoBulkEntry {H : Type} : Lit × DataW H → Nat
  | (.string bytes, d) => bytes.length + uptoBulk d + 1
  | (_, d) => uptoBulk d + 1
 end
def uptoSmall : (H : Type) → List (DataW H) → Bool := fun _ ds => decide (uptoBulkAll ds ≤ 1048576)
def OpenSpec.upto (s : _root_.Go.ChangeSpec) : _root_.Go.OpenSpec := { _root_.Go.OpenSpec.ofChange s with cond := some uptoSmall }

/-- 'tapearchivelaw11.DriveSteps', WHERE WHAT IT READS IS OF BULK AT MOST 1048576: true; the input reads as it did. -/
def driveStepsUptoRow : OpenClaim := { program := "ytepmmlnopdjjdaa", sum := "71c844fd03c9599b0042e6105034e507abf36b6f9306e23c2094b85011efa7ad", func := "tapearchive/tapearchivelaw11.DriveSteps", spec := "driveSteps", unfollowed := true, recurses := true, apart := false, narrowed := true }
def DriveStepsUptoSaid : Prop := driveStepsUptoRow.holds Try.pinned (OpenSpec.upto driveStepsSpec)

/-- 'tapearchivelaw11.DriveRuns', WHERE WHAT IT READS IS OF BULK AT MOST 1048576: true; the input reads as it did. -/
def driveRunsUptoRow : OpenClaim := { program := "ytepmmlnopdjjdaa", sum := "71c844fd03c9599b0042e6105034e507abf36b6f9306e23c2094b85011efa7ad", func := "tapearchive/tapearchivelaw11.DriveRuns", spec := "driveRuns", unfollowed := true, recurses := true, apart := false, narrowed := true }
def DriveRunsUptoSaid : Prop := driveRunsUptoRow.holds Try.pinned (OpenSpec.upto driveRunsSpec)

/-- 'tapearchivelaw11.DriveCosts', WHERE WHAT IT READS IS OF BULK AT MOST 1048576: true; the input reads as it did. -/
def driveCostsUptoRow : OpenClaim := { program := "ytepmmlnopdjjdaa", sum := "71c844fd03c9599b0042e6105034e507abf36b6f9306e23c2094b85011efa7ad", func := "tapearchive/tapearchivelaw11.DriveCosts", spec := "driveCosts", unfollowed := true, recurses := true, apart := false, narrowed := true }
def DriveCostsUptoSaid : Prop := driveCostsUptoRow.holds Try.pinned (OpenSpec.upto driveCostsSpec)

/-- 'tapearchivelaw11.DriveReads', WHERE WHAT IT READS IS OF BULK AT MOST 1048576: true; the input reads as it did. -/
def driveReadsUptoRow : OpenClaim := { program := "ytepmmlnopdjjdaa", sum := "71c844fd03c9599b0042e6105034e507abf36b6f9306e23c2094b85011efa7ad", func := "tapearchive/tapearchivelaw11.DriveReads", spec := "driveReads", unfollowed := true, recurses := true, apart := false, narrowed := true }
def DriveReadsUptoSaid : Prop := driveReadsUptoRow.holds Try.pinned (OpenSpec.upto driveReadsSpec)

/-- 'tapearchivelaw11.DriveWears', WHERE WHAT IT READS IS OF BULK AT MOST 1048576: true; the input reads as it did. -/
def driveWearsUptoRow : OpenClaim := { program := "ytepmmlnopdjjdaa", sum := "71c844fd03c9599b0042e6105034e507abf36b6f9306e23c2094b85011efa7ad", func := "tapearchive/tapearchivelaw11.DriveWears", spec := "driveWears", unfollowed := true, recurses := true, apart := false, narrowed := true }
def DriveWearsUptoSaid : Prop := driveWearsUptoRow.holds Try.pinned (OpenSpec.upto driveWearsSpec)

end Rows
end Go.Proofs.Ytepmmlnopdjjdaa
