/-
  NARROWER THAN 'FOR EVERY INPUT', by the rows' own cells (each row's printed sentence says how): ContainerBuilds: laid · ContainerReads: laid · ContainerNeeds: laid · ContainerRoundTrip: laid · ContainerExtracts: laid · ContainerDetects: laid.
  DERIVED. THE GIVEN ROWS OF THIS SEAT. 6 by the template 'for every input the law returns true; each argument reads behind the call as it read before'; 0 by the template 'total and deterministic' (their statements: YtjiijjdmkeeilaaDoorTotals.lean).
  GIVEN WITH THE SEED: the statements are not yours to turn. If you find one false, say at which input.
  Laid BY PROGRAM, IN A SANDBOX (cutbox-rows.mjs): the forced cells as the released guide's own fill.sh prints them over the translation 3baa406d1881ab2e… (all of the seat's roots in one cut). By AI agents, Wed Nov 11 2026. No macro, syntax, notation, axiom, sorry.
-/
import Derived.Test.YtjiijjdmkeeilaaDoorChecked
import GoSem.Claim
import GoSem.ClaimJoined
import GoSem.ClaimMapViews
import Derived.JoinedTies
import Derived.KernelRfl
namespace Go.Proofs.YtjiijjdmkeeilaaDoor
/- THE CELL 'sum', in the pinned program and in every row, IS THE sha256 OF THE DUMP (.gsa) THAT YtjiijjdmkeeilaaDoorProg.lean LOADS. Nothing in Lean hashes anything: it is a label: what it is worth is what the hold of that sum in a sandbox is worth. -/
noncomputable def Tryd.pinned : Pinned := { name := "ytjiijjdmkeeilaadoor", sum := "3baa406d1881ab2e3f5b159db153f52386dfbdafba7903af7d0275536ef4fcbf", checked := Tryd.checked }
namespace Rows
def none {H : Type} : Left H := { results := [], args := [] }

/- WHAT THE LISTED PACKAGE-LEVEL VARIABLES READ AS WHEN THE CALL BEGINS. Each datum BY PROGRAM (the guide's laid-datum.mjs) off the statement by which the dump's own 'gosem.cut.vars' lays the variable. In a bare row this is a premise. The card (YtjiijjdmkeeilaaDoorCards.lean) ties it to the program's text. -/
def laid_tapearchive_frame_magic {H : Type} : DataW H := .agg [.lit (.int .u8 167), .lit (.int .u8 60)]

/-- 'tapearchivelaw15.ContainerBuilds': WHATEVER THE INPUT: true; the input reads as it did. -/
def containerBuildsSpec : ChangeSpec := { name := "containerBuilds", fn := fun _ => fun
  | [d1, d2] => { results := [.lit (.bool true)], args := [d1, d2] }
  | _ => none }
def containerBuildsRow : OpenClaim := { program := "ytjiijjdmkeeilaadoor", sum := "3baa406d1881ab2e3f5b159db153f52386dfbdafba7903af7d0275536ef4fcbf", func := "tapearchive/tapearchivelaw15.ContainerBuilds", spec := "containerBuilds", unfollowed := true, recurses := true, named := ["tapearchive/frame.magic"], apart := false, laid := [("tapearchive/frame.magic", laid_tapearchive_frame_magic)] }
def ContainerBuildsSaid : Prop := containerBuildsRow.holds Tryd.pinned (OpenSpec.ofChange containerBuildsSpec)

/-- ITS FALSE NEIGHBOUR: 'it returns false'. Refute it at one input. -/
def containerBuildsWrong : ChangeSpec := { name := "containerBuilds", fn := fun _ => fun
  | [d1, d2] => { results := [.lit (.bool false)], args := [d1, d2] }
  | _ => none }
def ContainerBuildsWrongFalsely : Prop := containerBuildsRow.holds Tryd.pinned (OpenSpec.ofChange containerBuildsWrong)

/-- 'tapearchivelaw15.ContainerReads': WHATEVER THE INPUT: true; the input reads as it did. -/
def containerReadsSpec : ChangeSpec := { name := "containerReads", fn := fun _ => fun
  | [d] => { results := [.lit (.bool true)], args := [d] }
  | _ => none }
def containerReadsRow : OpenClaim := { program := "ytjiijjdmkeeilaadoor", sum := "3baa406d1881ab2e3f5b159db153f52386dfbdafba7903af7d0275536ef4fcbf", func := "tapearchive/tapearchivelaw15.ContainerReads", spec := "containerReads", unfollowed := true, recurses := true, named := ["tapearchive/frame.magic"], apart := false, laid := [("tapearchive/frame.magic", laid_tapearchive_frame_magic)] }
def ContainerReadsSaid : Prop := containerReadsRow.holds Tryd.pinned (OpenSpec.ofChange containerReadsSpec)

/-- ITS FALSE NEIGHBOUR: 'it returns false'. Refute it at one input. -/
def containerReadsWrong : ChangeSpec := { name := "containerReads", fn := fun _ => fun
  | [d] => { results := [.lit (.bool false)], args := [d] }
  | _ => none }
def ContainerReadsWrongFalsely : Prop := containerReadsRow.holds Tryd.pinned (OpenSpec.ofChange containerReadsWrong)

/-- 'tapearchivelaw15.ContainerNeeds': WHATEVER THE INPUT: true; the input reads as it did. -/
def containerNeedsSpec : ChangeSpec := { name := "containerNeeds", fn := fun _ => fun
  | [d1, d2, d3, d4, d5] => { results := [.lit (.bool true)], args := [d1, d2, d3, d4, d5] }
  | _ => none }
def containerNeedsRow : OpenClaim := { program := "ytjiijjdmkeeilaadoor", sum := "3baa406d1881ab2e3f5b159db153f52386dfbdafba7903af7d0275536ef4fcbf", func := "tapearchive/tapearchivelaw15.ContainerNeeds", spec := "containerNeeds", unfollowed := true, recurses := true, named := ["tapearchive/frame.magic"], apart := false, laid := [("tapearchive/frame.magic", laid_tapearchive_frame_magic)] }
def ContainerNeedsSaid : Prop := containerNeedsRow.holds Tryd.pinned (OpenSpec.ofChange containerNeedsSpec)

/-- ITS FALSE NEIGHBOUR: 'it returns false'. Refute it at one input. -/
def containerNeedsWrong : ChangeSpec := { name := "containerNeeds", fn := fun _ => fun
  | [d1, d2, d3, d4, d5] => { results := [.lit (.bool false)], args := [d1, d2, d3, d4, d5] }
  | _ => none }
def ContainerNeedsWrongFalsely : Prop := containerNeedsRow.holds Tryd.pinned (OpenSpec.ofChange containerNeedsWrong)

/-- 'tapearchivelaw15.ContainerRoundTrip': WHATEVER THE INPUT: true; the input reads as it did. -/
def containerRoundTripSpec : ChangeSpec := { name := "containerRoundTrip", fn := fun _ => fun
  | [d1, d2, d3] => { results := [.lit (.bool true)], args := [d1, d2, d3] }
  | _ => none }
def containerRoundTripRow : OpenClaim := { program := "ytjiijjdmkeeilaadoor", sum := "3baa406d1881ab2e3f5b159db153f52386dfbdafba7903af7d0275536ef4fcbf", func := "tapearchive/tapearchivelaw15.ContainerRoundTrip", spec := "containerRoundTrip", unfollowed := true, recurses := true, named := ["tapearchive/frame.magic"], apart := false, laid := [("tapearchive/frame.magic", laid_tapearchive_frame_magic)] }
def ContainerRoundTripSaid : Prop := containerRoundTripRow.holds Tryd.pinned (OpenSpec.ofChange containerRoundTripSpec)

/-- ITS FALSE NEIGHBOUR: 'it returns false'. Refute it at one input. -/
def containerRoundTripWrong : ChangeSpec := { name := "containerRoundTrip", fn := fun _ => fun
  | [d1, d2, d3] => { results := [.lit (.bool false)], args := [d1, d2, d3] }
  | _ => none }
def ContainerRoundTripWrongFalsely : Prop := containerRoundTripRow.holds Tryd.pinned (OpenSpec.ofChange containerRoundTripWrong)

/-- 'tapearchivelaw15.ContainerExtracts': WHATEVER THE INPUT: true; the input reads as it did. -/
def containerExtractsSpec : ChangeSpec := { name := "containerExtracts", fn := fun _ => fun
  | [d1, d2, d3, d4, d5] => { results := [.lit (.bool true)], args := [d1, d2, d3, d4, d5] }
  | _ => none }
def containerExtractsRow : OpenClaim := { program := "ytjiijjdmkeeilaadoor", sum := "3baa406d1881ab2e3f5b159db153f52386dfbdafba7903af7d0275536ef4fcbf", func := "tapearchive/tapearchivelaw15.ContainerExtracts", spec := "containerExtracts", unfollowed := true, recurses := true, named := ["tapearchive/frame.magic"], apart := false, laid := [("tapearchive/frame.magic", laid_tapearchive_frame_magic)] }
def ContainerExtractsSaid : Prop := containerExtractsRow.holds Tryd.pinned (OpenSpec.ofChange containerExtractsSpec)

/-- ITS FALSE NEIGHBOUR: 'it returns false'. Refute it at one input. -/
def containerExtractsWrong : ChangeSpec := { name := "containerExtracts", fn := fun _ => fun
  | [d1, d2, d3, d4, d5] => { results := [.lit (.bool false)], args := [d1, d2, d3, d4, d5] }
  | _ => none }
def ContainerExtractsWrongFalsely : Prop := containerExtractsRow.holds Tryd.pinned (OpenSpec.ofChange containerExtractsWrong)

/-- 'tapearchivelaw15.ContainerDetects': WHATEVER THE INPUT: true; the input reads as it did. -/
def containerDetectsSpec : ChangeSpec := { name := "containerDetects", fn := fun _ => fun
  | [d1, d2, d3, d4] => { results := [.lit (.bool true)], args := [d1, d2, d3, d4] }
  | _ => none }
def containerDetectsRow : OpenClaim := { program := "ytjiijjdmkeeilaadoor", sum := "3baa406d1881ab2e3f5b159db153f52386dfbdafba7903af7d0275536ef4fcbf", func := "tapearchive/tapearchivelaw15.ContainerDetects", spec := "containerDetects", unfollowed := true, recurses := true, named := ["tapearchive/frame.magic"], apart := false, laid := [("tapearchive/frame.magic", laid_tapearchive_frame_magic)] }
def ContainerDetectsSaid : Prop := containerDetectsRow.holds Tryd.pinned (OpenSpec.ofChange containerDetectsSpec)

/-- ITS FALSE NEIGHBOUR: 'it returns false'. Refute it at one input. -/
def containerDetectsWrong : ChangeSpec := { name := "containerDetects", fn := fun _ => fun
  | [d1, d2, d3, d4] => { results := [.lit (.bool false)], args := [d1, d2, d3, d4] }
  | _ => none }
def ContainerDetectsWrongFalsely : Prop := containerDetectsRow.holds Tryd.pinned (OpenSpec.ofChange containerDetectsWrong)

/- THE SECOND FORM. 'bulk': how many values and letters a reading holds, each counted each time it is reached (what is shared counts as often as it is met; a slice's spare places count too). A statement '..UptoSaid' is the law's where the arguments, and the package variables that the reading takes, are together of bulk at most 1048576: NARROWER than '..Said'. Prove '..Said' where nothing that the law and all that it calls make is longer than what came in: it says more and counts as full. Else prove '..UptoSaid'. A law counts once. -/
mutual
def uptoBulk {H : Type} : DataW H → Nat
  | .lit (.string bytes) => bytes.length + 1
  | .lit _ => 1
  | .nil => 1
  | .ptr d => uptoBulk d + 1
  | .slice elems spare => uptoBulkAll elems + uptoBulkAll spare + 1
  | .agg parts => uptoBulkAll parts + 1
  | .iface _ d => uptoBulk d + 1
  | .map entries => uptoBulkEntries entries + 1
  | .held _ => 1
def uptoBulkAll {H : Type} : List (DataW H) → Nat
  | [] => 0
  | d :: r => uptoBulk d + uptoBulkAll r
def uptoBulkEntries {H : Type} : List (Lit × DataW H) → Nat
  | [] => 0
  | x :: r => uptoBulkEntry x + uptoBulkEntries r
def uptoBulkEntry {H : Type} : Lit × DataW H → Nat
  | (.string bytes, d) => bytes.length + uptoBulk d + 1
  | (_, d) => uptoBulk d + 1
 end
def uptoSmall : (H : Type) → List (DataW H) → Bool := fun _ ds => decide (uptoBulkAll ds ≤ 1048576)
def OpenSpec.upto (s : _root_.Go.ChangeSpec) : _root_.Go.OpenSpec := { _root_.Go.OpenSpec.ofChange s with cond := some uptoSmall }

/-- 'tapearchivelaw15.ContainerBuilds', WHERE WHAT IT READS IS OF BULK AT MOST 1048576: true; the input reads as it did. -/
def containerBuildsUptoRow : OpenClaim := { program := "ytjiijjdmkeeilaadoor", sum := "3baa406d1881ab2e3f5b159db153f52386dfbdafba7903af7d0275536ef4fcbf", func := "tapearchive/tapearchivelaw15.ContainerBuilds", spec := "containerBuilds", unfollowed := true, recurses := true, named := ["tapearchive/frame.magic"], apart := false, laid := [("tapearchive/frame.magic", laid_tapearchive_frame_magic)], narrowed := true }
def ContainerBuildsUptoSaid : Prop := containerBuildsUptoRow.holds Tryd.pinned (OpenSpec.upto containerBuildsSpec)

/-- 'tapearchivelaw15.ContainerReads', WHERE WHAT IT READS IS OF BULK AT MOST 1048576: true; the input reads as it did. -/
def containerReadsUptoRow : OpenClaim := { program := "ytjiijjdmkeeilaadoor", sum := "3baa406d1881ab2e3f5b159db153f52386dfbdafba7903af7d0275536ef4fcbf", func := "tapearchive/tapearchivelaw15.ContainerReads", spec := "containerReads", unfollowed := true, recurses := true, named := ["tapearchive/frame.magic"], apart := false, laid := [("tapearchive/frame.magic", laid_tapearchive_frame_magic)], narrowed := true }
def ContainerReadsUptoSaid : Prop := containerReadsUptoRow.holds Tryd.pinned (OpenSpec.upto containerReadsSpec)

/-- 'tapearchivelaw15.ContainerNeeds', WHERE WHAT IT READS IS OF BULK AT MOST 1048576: true; the input reads as it did. -/
def containerNeedsUptoRow : OpenClaim := { program := "ytjiijjdmkeeilaadoor", sum := "3baa406d1881ab2e3f5b159db153f52386dfbdafba7903af7d0275536ef4fcbf", func := "tapearchive/tapearchivelaw15.ContainerNeeds", spec := "containerNeeds", unfollowed := true, recurses := true, named := ["tapearchive/frame.magic"], apart := false, laid := [("tapearchive/frame.magic", laid_tapearchive_frame_magic)], narrowed := true }
def ContainerNeedsUptoSaid : Prop := containerNeedsUptoRow.holds Tryd.pinned (OpenSpec.upto containerNeedsSpec)

/-- 'tapearchivelaw15.ContainerRoundTrip', WHERE WHAT IT READS IS OF BULK AT MOST 1048576: true; the input reads as it did. -/
def containerRoundTripUptoRow : OpenClaim := { program := "ytjiijjdmkeeilaadoor", sum := "3baa406d1881ab2e3f5b159db153f52386dfbdafba7903af7d0275536ef4fcbf", func := "tapearchive/tapearchivelaw15.ContainerRoundTrip", spec := "containerRoundTrip", unfollowed := true, recurses := true, named := ["tapearchive/frame.magic"], apart := false, laid := [("tapearchive/frame.magic", laid_tapearchive_frame_magic)], narrowed := true }
def ContainerRoundTripUptoSaid : Prop := containerRoundTripUptoRow.holds Tryd.pinned (OpenSpec.upto containerRoundTripSpec)

/-- 'tapearchivelaw15.ContainerExtracts', WHERE WHAT IT READS IS OF BULK AT MOST 1048576: true; the input reads as it did. -/
def containerExtractsUptoRow : OpenClaim := { program := "ytjiijjdmkeeilaadoor", sum := "3baa406d1881ab2e3f5b159db153f52386dfbdafba7903af7d0275536ef4fcbf", func := "tapearchive/tapearchivelaw15.ContainerExtracts", spec := "containerExtracts", unfollowed := true, recurses := true, named := ["tapearchive/frame.magic"], apart := false, laid := [("tapearchive/frame.magic", laid_tapearchive_frame_magic)], narrowed := true }
def ContainerExtractsUptoSaid : Prop := containerExtractsUptoRow.holds Tryd.pinned (OpenSpec.upto containerExtractsSpec)

/-- 'tapearchivelaw15.ContainerDetects', WHERE WHAT IT READS IS OF BULK AT MOST 1048576: true; the input reads as it did. -/
def containerDetectsUptoRow : OpenClaim := { program := "ytjiijjdmkeeilaadoor", sum := "3baa406d1881ab2e3f5b159db153f52386dfbdafba7903af7d0275536ef4fcbf", func := "tapearchive/tapearchivelaw15.ContainerDetects", spec := "containerDetects", unfollowed := true, recurses := true, named := ["tapearchive/frame.magic"], apart := false, laid := [("tapearchive/frame.magic", laid_tapearchive_frame_magic)], narrowed := true }
def ContainerDetectsUptoSaid : Prop := containerDetectsUptoRow.holds Tryd.pinned (OpenSpec.upto containerDetectsSpec)

end Rows
end Go.Proofs.YtjiijjdmkeeilaaDoor
