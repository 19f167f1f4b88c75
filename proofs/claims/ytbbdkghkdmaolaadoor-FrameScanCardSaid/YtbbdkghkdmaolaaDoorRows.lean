/-
  NARROWER THAN 'FOR EVERY INPUT', by the rows' own cells (each row's printed sentence says how): FrameAppends: laid · FrameNexts: laid · FrameFinds: laid · FrameScan: laid · FrameDetects: laid · FramePrefix: laid.
  DERIVED. THE GIVEN ROWS OF THIS SEAT. 6 by the template 'for every input the law returns true; each argument reads behind the call as it read before'; 0 by the template 'total and deterministic' (their statements: YtbbdkghkdmaolaaDoorTotals.lean).
  GIVEN WITH THE SEED: the statements are not yours to turn. If you find one false, say at which input.
  Laid BY PROGRAM, IN A SANDBOX (cutbox-rows.mjs): the forced cells as the released guide's own fill.sh prints them over the translation 9f9078c990b411ad… (all of the seat's roots in one cut). By AI agents, Wed Nov 11 2026. No macro, syntax, notation, axiom, sorry.
-/
import Derived.Test.YtbbdkghkdmaolaaDoorChecked
import GoSem.Claim
import GoSem.ClaimJoined
import GoSem.ClaimMapViews
import Derived.JoinedTies
import Derived.KernelRfl
namespace Go.Proofs.YtbbdkghkdmaolaaDoor
/- THE CELL 'sum', in the pinned program and in every row, IS THE sha256 OF THE DUMP (.gsa) THAT YtbbdkghkdmaolaaDoorProg.lean LOADS. Nothing in Lean hashes anything: it is a label: what it is worth is what the hold of that sum in a sandbox is worth. -/
noncomputable def Tryd.pinned : Pinned := { name := "ytbbdkghkdmaolaadoor", sum := "9f9078c990b411ad3c084eb8f58c69d5e4720cb3afd8a1c2dafc7408939076a6", checked := Tryd.checked }
namespace Rows
def none {H : Type} : Left H := { results := [], args := [] }

/- WHAT THE LISTED PACKAGE-LEVEL VARIABLES READ AS WHEN THE CALL BEGINS. Each datum BY PROGRAM (the guide's laid-datum.mjs) off the statement by which the dump's own 'gosem.cut.vars' lays the variable. In a bare row this is a premise. The card (YtbbdkghkdmaolaaDoorCards.lean) ties it to the program's text. -/
def laid_tapearchive_frame_magic {H : Type} : DataW H := .agg [.lit (.int .u8 167), .lit (.int .u8 60)]

/-- 'tapearchivelaw03.FrameAppends': WHATEVER THE INPUT: true; the input reads as it did. -/
def frameAppendsSpec : ChangeSpec := { name := "frameAppends", fn := fun _ => fun
  | [d1, d2, d3] => { results := [.lit (.bool true)], args := [d1, d2, d3] }
  | _ => none }
def frameAppendsRow : OpenClaim := { program := "ytbbdkghkdmaolaadoor", sum := "9f9078c990b411ad3c084eb8f58c69d5e4720cb3afd8a1c2dafc7408939076a6", func := "tapearchive/tapearchivelaw03.FrameAppends", spec := "frameAppends", named := ["tapearchive/frame.magic"], apart := false, laid := [("tapearchive/frame.magic", laid_tapearchive_frame_magic)] }
def FrameAppendsSaid : Prop := frameAppendsRow.holds Tryd.pinned (OpenSpec.ofChange frameAppendsSpec)

/-- ITS FALSE NEIGHBOUR: 'it returns false'. Refute it at one input. -/
def frameAppendsWrong : ChangeSpec := { name := "frameAppends", fn := fun _ => fun
  | [d1, d2, d3] => { results := [.lit (.bool false)], args := [d1, d2, d3] }
  | _ => none }
def FrameAppendsWrongFalsely : Prop := frameAppendsRow.holds Tryd.pinned (OpenSpec.ofChange frameAppendsWrong)

/-- 'tapearchivelaw03.FrameNexts': WHATEVER THE INPUT: true; the input reads as it did. -/
def frameNextsSpec : ChangeSpec := { name := "frameNexts", fn := fun _ => fun
  | [d1, d2] => { results := [.lit (.bool true)], args := [d1, d2] }
  | _ => none }
def frameNextsRow : OpenClaim := { program := "ytbbdkghkdmaolaadoor", sum := "9f9078c990b411ad3c084eb8f58c69d5e4720cb3afd8a1c2dafc7408939076a6", func := "tapearchive/tapearchivelaw03.FrameNexts", spec := "frameNexts", named := ["tapearchive/frame.magic"], apart := false, laid := [("tapearchive/frame.magic", laid_tapearchive_frame_magic)] }
def FrameNextsSaid : Prop := frameNextsRow.holds Tryd.pinned (OpenSpec.ofChange frameNextsSpec)

/-- ITS FALSE NEIGHBOUR: 'it returns false'. Refute it at one input. -/
def frameNextsWrong : ChangeSpec := { name := "frameNexts", fn := fun _ => fun
  | [d1, d2] => { results := [.lit (.bool false)], args := [d1, d2] }
  | _ => none }
def FrameNextsWrongFalsely : Prop := frameNextsRow.holds Tryd.pinned (OpenSpec.ofChange frameNextsWrong)

/-- 'tapearchivelaw03.FrameFinds': WHATEVER THE INPUT: true; the input reads as it did. -/
def frameFindsSpec : ChangeSpec := { name := "frameFinds", fn := fun _ => fun
  | [d1, d2] => { results := [.lit (.bool true)], args := [d1, d2] }
  | _ => none }
def frameFindsRow : OpenClaim := { program := "ytbbdkghkdmaolaadoor", sum := "9f9078c990b411ad3c084eb8f58c69d5e4720cb3afd8a1c2dafc7408939076a6", func := "tapearchive/tapearchivelaw03.FrameFinds", spec := "frameFinds", unfollowed := true, recurses := true, named := ["tapearchive/frame.magic"], apart := false, laid := [("tapearchive/frame.magic", laid_tapearchive_frame_magic)] }
def FrameFindsSaid : Prop := frameFindsRow.holds Tryd.pinned (OpenSpec.ofChange frameFindsSpec)

/-- ITS FALSE NEIGHBOUR: 'it returns false'. Refute it at one input. -/
def frameFindsWrong : ChangeSpec := { name := "frameFinds", fn := fun _ => fun
  | [d1, d2] => { results := [.lit (.bool false)], args := [d1, d2] }
  | _ => none }
def FrameFindsWrongFalsely : Prop := frameFindsRow.holds Tryd.pinned (OpenSpec.ofChange frameFindsWrong)

/-- 'tapearchivelaw03.FrameScan': WHATEVER THE INPUT: true; the input reads as it did. -/
def frameScanSpec : ChangeSpec := { name := "frameScan", fn := fun _ => fun
  | [d1, d2] => { results := [.lit (.bool true)], args := [d1, d2] }
  | _ => none }
def frameScanRow : OpenClaim := { program := "ytbbdkghkdmaolaadoor", sum := "9f9078c990b411ad3c084eb8f58c69d5e4720cb3afd8a1c2dafc7408939076a6", func := "tapearchive/tapearchivelaw03.FrameScan", spec := "frameScan", unfollowed := true, recurses := true, named := ["tapearchive/frame.magic"], apart := false, laid := [("tapearchive/frame.magic", laid_tapearchive_frame_magic)] }
def FrameScanSaid : Prop := frameScanRow.holds Tryd.pinned (OpenSpec.ofChange frameScanSpec)

/-- ITS FALSE NEIGHBOUR: 'it returns false'. Refute it at one input. -/
def frameScanWrong : ChangeSpec := { name := "frameScan", fn := fun _ => fun
  | [d1, d2] => { results := [.lit (.bool false)], args := [d1, d2] }
  | _ => none }
def FrameScanWrongFalsely : Prop := frameScanRow.holds Tryd.pinned (OpenSpec.ofChange frameScanWrong)

/-- 'tapearchivelaw03.FrameDetects': WHATEVER THE INPUT: true; the input reads as it did. -/
def frameDetectsSpec : ChangeSpec := { name := "frameDetects", fn := fun _ => fun
  | [d1, d2, d3] => { results := [.lit (.bool true)], args := [d1, d2, d3] }
  | _ => none }
def frameDetectsRow : OpenClaim := { program := "ytbbdkghkdmaolaadoor", sum := "9f9078c990b411ad3c084eb8f58c69d5e4720cb3afd8a1c2dafc7408939076a6", func := "tapearchive/tapearchivelaw03.FrameDetects", spec := "frameDetects", named := ["tapearchive/frame.magic"], apart := false, laid := [("tapearchive/frame.magic", laid_tapearchive_frame_magic)] }
def FrameDetectsSaid : Prop := frameDetectsRow.holds Tryd.pinned (OpenSpec.ofChange frameDetectsSpec)

/-- ITS FALSE NEIGHBOUR: 'it returns false'. Refute it at one input. -/
def frameDetectsWrong : ChangeSpec := { name := "frameDetects", fn := fun _ => fun
  | [d1, d2, d3] => { results := [.lit (.bool false)], args := [d1, d2, d3] }
  | _ => none }
def FrameDetectsWrongFalsely : Prop := frameDetectsRow.holds Tryd.pinned (OpenSpec.ofChange frameDetectsWrong)

/-- 'tapearchivelaw03.FramePrefix': WHATEVER THE INPUT: true; the input reads as it did. -/
def framePrefixSpec : ChangeSpec := { name := "framePrefix", fn := fun _ => fun
  | [d1, d2] => { results := [.lit (.bool true)], args := [d1, d2] }
  | _ => none }
def framePrefixRow : OpenClaim := { program := "ytbbdkghkdmaolaadoor", sum := "9f9078c990b411ad3c084eb8f58c69d5e4720cb3afd8a1c2dafc7408939076a6", func := "tapearchive/tapearchivelaw03.FramePrefix", spec := "framePrefix", unfollowed := true, recurses := true, named := ["tapearchive/frame.magic"], apart := false, laid := [("tapearchive/frame.magic", laid_tapearchive_frame_magic)] }
def FramePrefixSaid : Prop := framePrefixRow.holds Tryd.pinned (OpenSpec.ofChange framePrefixSpec)

/-- ITS FALSE NEIGHBOUR: 'it returns false'. Refute it at one input. -/
def framePrefixWrong : ChangeSpec := { name := "framePrefix", fn := fun _ => fun
  | [d1, d2] => { results := [.lit (.bool false)], args := [d1, d2] }
  | _ => none }
def FramePrefixWrongFalsely : Prop := framePrefixRow.holds Tryd.pinned (OpenSpec.ofChange framePrefixWrong)

/- THE SECOND FORM. 'bulk': how many values and letters a reading holds, each counted each time it is reached (what is shared counts as often as it is met; a slice's spare places count too). A statement '..UptoSaid' is the law's where the arguments, and the package variables that the reading takes, are together of bulk at most 1048576: NARROWER than '..Said'. Prove '..Said' where nothing that the law and all that it calls make is longer than what came in: it says more and counts as full. Else prove '..UptoSaid'. A law counts once. -/
mutual
def uptoBulk {H : Type} : DataW H → Nat
  | .lit (.string bytes) => bytes.length + 1
  | .lit _ => 1
  | .nil => 1
  | .ptr d => uptoBulk d + 1
  | .slice elems spare => uptoBulkAll elems + uptoBulkAll spare + 1
  | .agg parts => uptoBulkAll parts + 1
  | .iface _ d => uptoBulk d + 1
  | .map entries => uptoBulkEntries entries + 1
  | .held _ => 1
def uptoBulkAll {H : Type} : List (DataW H) → Nat
  | [] => 0
  | d :: r => uptoBulk d + uptoBulkAll r
def uptoBulkEntries {H : Type} : List (Lit × DataW H) → Nat
  | [] => 0
  | x :: r => uptoBulkEntry x + uptoBulkEntries r
def uptoBulkEntry {H : Type} : Lit × DataW H → Nat
  | (.string bytes, d) => bytes.length + uptoBulk d + 1
  | (_, d) => uptoBulk d + 1
 end
def uptoSmall : (H : Type) → List (DataW H) → Bool := fun _ ds => decide (uptoBulkAll ds ≤ 1048576)
def OpenSpec.upto (s : _root_.Go.ChangeSpec) : _root_.Go.OpenSpec := { _root_.Go.OpenSpec.ofChange s with cond := some uptoSmall }

/-- 'tapearchivelaw03.FrameAppends', WHERE WHAT IT READS IS OF BULK AT MOST 1048576: true; the input reads as it did. -/
def frameAppendsUptoRow : OpenClaim := { program := "ytbbdkghkdmaolaadoor", sum := "9f9078c990b411ad3c084eb8f58c69d5e4720cb3afd8a1c2dafc7408939076a6", func := "tapearchive/tapearchivelaw03.FrameAppends", spec := "frameAppends", named := ["tapearchive/frame.magic"], apart := false, laid := [("tapearchive/frame.magic", laid_tapearchive_frame_magic)], narrowed := true }
def FrameAppendsUptoSaid : Prop := frameAppendsUptoRow.holds Tryd.pinned (OpenSpec.upto frameAppendsSpec)

/-- 'tapearchivelaw03.FrameNexts', WHERE WHAT IT READS IS OF BULK AT MOST 1048576: true; the input reads as it did. -/
def frameNextsUptoRow : OpenClaim := { program := "ytbbdkghkdmaolaadoor", sum := "9f9078c990b411ad3c084eb8f58c69d5e4720cb3afd8a1c2dafc7408939076a6", func := "tapearchive/tapearchivelaw03.FrameNexts", spec := "frameNexts", named := ["tapearchive/frame.magic"], apart := false, laid := [("tapearchive/frame.magic", laid_tapearchive_frame_magic)], narrowed := true }
def FrameNextsUptoSaid : Prop := frameNextsUptoRow.holds Tryd.pinned (OpenSpec.upto frameNextsSpec)

/-- 'tapearchivelaw03.FrameFinds', WHERE WHAT IT READS IS OF BULK AT MOST 1048576: true; the input reads as it did. -/
def frameFindsUptoRow : OpenClaim := { program := "ytbbdkghkdmaolaadoor", sum := "9f9078c990b411ad3c084eb8f58c69d5e4720cb3afd8a1c2dafc7408939076a6", func := "tapearchive/tapearchivelaw03.FrameFinds", spec := "frameFinds", unfollowed := true, recurses := true, named := ["tapearchive/frame.magic"], apart := false, laid := [("tapearchive/frame.magic", laid_tapearchive_frame_magic)], narrowed := true }
def FrameFindsUptoSaid : Prop := frameFindsUptoRow.holds Tryd.pinned (OpenSpec.upto frameFindsSpec)

/-- 'tapearchivelaw03.FrameScan', WHERE WHAT IT READS IS OF BULK AT MOST 1048576: true; the input reads as it did. -/
def frameScanUptoRow : OpenClaim := { program := "ytbbdkghkdmaolaadoor", sum := "9f9078c990b411ad3c084eb8f58c69d5e4720cb3afd8a1c2dafc7408939076a6", func := "tapearchive/tapearchivelaw03.FrameScan", spec := "frameScan", unfollowed := true, recurses := true, named := ["tapearchive/frame.magic"], apart := false, laid := [("tapearchive/frame.magic", laid_tapearchive_frame_magic)], narrowed := true }
def FrameScanUptoSaid : Prop := frameScanUptoRow.holds Tryd.pinned (OpenSpec.upto frameScanSpec)

/-- 'tapearchivelaw03.FrameDetects', WHERE WHAT IT READS IS OF BULK AT MOST 1048576: true; the input reads as it did. -/
def frameDetectsUptoRow : OpenClaim := { program := "ytbbdkghkdmaolaadoor", sum := "9f9078c990b411ad3c084eb8f58c69d5e4720cb3afd8a1c2dafc7408939076a6", func := "tapearchive/tapearchivelaw03.FrameDetects", spec := "frameDetects", named := ["tapearchive/frame.magic"], apart := false, laid := [("tapearchive/frame.magic", laid_tapearchive_frame_magic)], narrowed := true }
def FrameDetectsUptoSaid : Prop := frameDetectsUptoRow.holds Tryd.pinned (OpenSpec.upto frameDetectsSpec)

/-- 'tapearchivelaw03.FramePrefix', WHERE WHAT IT READS IS OF BULK AT MOST 1048576: true; the input reads as it did. -/
def framePrefixUptoRow : OpenClaim := { program := "ytbbdkghkdmaolaadoor", sum := "9f9078c990b411ad3c084eb8f58c69d5e4720cb3afd8a1c2dafc7408939076a6", func := "tapearchive/tapearchivelaw03.FramePrefix", spec := "framePrefix", unfollowed := true, recurses := true, named := ["tapearchive/frame.magic"], apart := false, laid := [("tapearchive/frame.magic", laid_tapearchive_frame_magic)], narrowed := true }
def FramePrefixUptoSaid : Prop := framePrefixUptoRow.holds Tryd.pinned (OpenSpec.upto framePrefixSpec)

end Rows
end Go.Proofs.YtbbdkghkdmaolaaDoor
