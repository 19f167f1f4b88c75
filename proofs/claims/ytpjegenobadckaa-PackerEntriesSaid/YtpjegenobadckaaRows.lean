/-
  No cell of these rows narrows 'for every input' (looked for: loops, veiled, ifaces, maps, wideKeys, modest, calm, conditions, laid).
  DERIVED. THE GIVEN ROWS OF THIS SEAT. 6 by the template 'for every input the law returns true; each argument reads behind the call as it read before'; 0 by the template 'total and deterministic' (their statements: YtpjegenobadckaaTotals.lean).
  GIVEN WITH THE SEED: the statements are not yours to turn. If you find one false, say at which input.
  Laid BY PROGRAM, IN A SANDBOX (cutbox-rows.mjs): the forced cells as the released guide's own fill.sh prints them over the translation f036a46ed311da79… (all of the seat's roots in one cut). By AI agents, Wed Nov 11 2026. No macro, syntax, notation, axiom, sorry.
-/
import Derived.Test.YtpjegenobadckaaChecked
import GoSem.Claim
import GoSem.ClaimJoined
import GoSem.ClaimMapViews
import Derived.JoinedTies
import Derived.KernelRfl
namespace Go.Proofs.Ytpjegenobadckaa
/- THE CELL 'sum', in the pinned program and in every row, IS THE sha256 OF THE DUMP (.gsa) THAT YtpjegenobadckaaProg.lean LOADS. Nothing in Lean hashes anything: it is a label: what it is worth is what the hold of that sum in a sandbox is worth. -/
noncomputable def Try.pinned : Pinned := { name := "ytpjegenobadckaa", sum := "f036a46ed311da7915c57da69556b9619b48ba8546c622fdb901ffc9bb55d1c1", checked := Try.checked }
namespace Rows
def none {H : Type} : Left H := { results := [], args := [] }

/-- 'tapearchivelaw16.PackerFills': WHATEVER THE INPUT: true; the input reads as it did. -/
def packerFillsSpec : ChangeSpec := { name := "packerFills", fn := fun _ => fun
  | [d1, d2] => { results := [.lit (.bool true)], args := [d1, d2] }
  | _ => none }
def packerFillsRow : OpenClaim := { program := "ytpjegenobadckaa", sum := "f036a46ed311da7915c57da69556b9619b48ba8546c622fdb901ffc9bb55d1c1", func := "tapearchive/tapearchivelaw16.PackerFills", spec := "packerFills", unfollowed := true, recurses := true, apart := false }
def PackerFillsSaid : Prop := packerFillsRow.holds Try.pinned (OpenSpec.ofChange packerFillsSpec)

/-- ITS FALSE NEIGHBOUR: 'it returns false'. Refute it at one input. -/
def packerFillsWrong : ChangeSpec := { name := "packerFills", fn := fun _ => fun
  | [d1, d2] => { results := [.lit (.bool false)], args := [d1, d2] }
  | _ => none }
def PackerFillsWrongFalsely : Prop := packerFillsRow.holds Try.pinned (OpenSpec.ofChange packerFillsWrong)

/-- 'tapearchivelaw16.PackerCovers': WHATEVER THE INPUT: true; the input reads as it did. -/
def packerCoversSpec : ChangeSpec := { name := "packerCovers", fn := fun _ => fun
  | [d1, d2] => { results := [.lit (.bool true)], args := [d1, d2] }
  | _ => none }
def packerCoversRow : OpenClaim := { program := "ytpjegenobadckaa", sum := "f036a46ed311da7915c57da69556b9619b48ba8546c622fdb901ffc9bb55d1c1", func := "tapearchive/tapearchivelaw16.PackerCovers", spec := "packerCovers", unfollowed := true, recurses := true, apart := false }
def PackerCoversSaid : Prop := packerCoversRow.holds Try.pinned (OpenSpec.ofChange packerCoversSpec)

/-- ITS FALSE NEIGHBOUR: 'it returns false'. Refute it at one input. -/
def packerCoversWrong : ChangeSpec := { name := "packerCovers", fn := fun _ => fun
  | [d1, d2] => { results := [.lit (.bool false)], args := [d1, d2] }
  | _ => none }
def PackerCoversWrongFalsely : Prop := packerCoversRow.holds Try.pinned (OpenSpec.ofChange packerCoversWrong)

/-- 'tapearchivelaw16.PackerFits': WHATEVER THE INPUT: true; the input reads as it did. -/
def packerFitsSpec : ChangeSpec := { name := "packerFits", fn := fun _ => fun
  | [d1, d2] => { results := [.lit (.bool true)], args := [d1, d2] }
  | _ => none }
def packerFitsRow : OpenClaim := { program := "ytpjegenobadckaa", sum := "f036a46ed311da7915c57da69556b9619b48ba8546c622fdb901ffc9bb55d1c1", func := "tapearchive/tapearchivelaw16.PackerFits", spec := "packerFits", unfollowed := true, recurses := true, apart := false }
def PackerFitsSaid : Prop := packerFitsRow.holds Try.pinned (OpenSpec.ofChange packerFitsSpec)

/-- ITS FALSE NEIGHBOUR: 'it returns false'. Refute it at one input. -/
def packerFitsWrong : ChangeSpec := { name := "packerFits", fn := fun _ => fun
  | [d1, d2] => { results := [.lit (.bool false)], args := [d1, d2] }
  | _ => none }
def PackerFitsWrongFalsely : Prop := packerFitsRow.holds Try.pinned (OpenSpec.ofChange packerFitsWrong)

/-- 'tapearchivelaw16.PackerBounds': WHATEVER THE INPUT: true; the input reads as it did. -/
def packerBoundsSpec : ChangeSpec := { name := "packerBounds", fn := fun _ => fun
  | [d1, d2] => { results := [.lit (.bool true)], args := [d1, d2] }
  | _ => none }
def packerBoundsRow : OpenClaim := { program := "ytpjegenobadckaa", sum := "f036a46ed311da7915c57da69556b9619b48ba8546c622fdb901ffc9bb55d1c1", func := "tapearchive/tapearchivelaw16.PackerBounds", spec := "packerBounds", unfollowed := true, recurses := true, apart := false }
def PackerBoundsSaid : Prop := packerBoundsRow.holds Try.pinned (OpenSpec.ofChange packerBoundsSpec)

/-- ITS FALSE NEIGHBOUR: 'it returns false'. Refute it at one input. -/
def packerBoundsWrong : ChangeSpec := { name := "packerBounds", fn := fun _ => fun
  | [d1, d2] => { results := [.lit (.bool false)], args := [d1, d2] }
  | _ => none }
def PackerBoundsWrongFalsely : Prop := packerBoundsRow.holds Try.pinned (OpenSpec.ofChange packerBoundsWrong)

/-- 'tapearchivelaw16.PackerHalves': WHATEVER THE INPUT: true; the input reads as it did. -/
def packerHalvesSpec : ChangeSpec := { name := "packerHalves", fn := fun _ => fun
  | [d1, d2] => { results := [.lit (.bool true)], args := [d1, d2] }
  | _ => none }
def packerHalvesRow : OpenClaim := { program := "ytpjegenobadckaa", sum := "f036a46ed311da7915c57da69556b9619b48ba8546c622fdb901ffc9bb55d1c1", func := "tapearchive/tapearchivelaw16.PackerHalves", spec := "packerHalves", unfollowed := true, recurses := true, apart := false }
def PackerHalvesSaid : Prop := packerHalvesRow.holds Try.pinned (OpenSpec.ofChange packerHalvesSpec)

/-- ITS FALSE NEIGHBOUR: 'it returns false'. Refute it at one input. -/
def packerHalvesWrong : ChangeSpec := { name := "packerHalves", fn := fun _ => fun
  | [d1, d2] => { results := [.lit (.bool false)], args := [d1, d2] }
  | _ => none }
def PackerHalvesWrongFalsely : Prop := packerHalvesRow.holds Try.pinned (OpenSpec.ofChange packerHalvesWrong)

/-- 'tapearchivelaw16.PackerEntries': WHATEVER THE INPUT: true; the input reads as it did. -/
def packerEntriesSpec : ChangeSpec := { name := "packerEntries", fn := fun _ => fun
  | [d] => { results := [.lit (.bool true)], args := [d] }
  | _ => none }
def packerEntriesRow : OpenClaim := { program := "ytpjegenobadckaa", sum := "f036a46ed311da7915c57da69556b9619b48ba8546c622fdb901ffc9bb55d1c1", func := "tapearchive/tapearchivelaw16.PackerEntries", spec := "packerEntries", unfollowed := true, recurses := true, apart := false }
def PackerEntriesSaid : Prop := packerEntriesRow.holds Try.pinned (OpenSpec.ofChange packerEntriesSpec)

/-- ITS FALSE NEIGHBOUR: 'it returns false'. Refute it at one input. -/
def packerEntriesWrong : ChangeSpec := { name := "packerEntries", fn := fun _ => fun
  | [d] => { results := [.lit (.bool false)], args := [d] }
  | _ => none }
def PackerEntriesWrongFalsely : Prop := packerEntriesRow.holds Try.pinned (OpenSpec.ofChange packerEntriesWrong)

/- THE SECOND FORM. 'bulk': how many values and letters a reading holds, each counted each time it is reached (what is shared counts as often as it is met; a slice's spare places count too). A statement '..UptoSaid' is the law's where the arguments, and the package variables that the reading takes, are together of bulk at most 1048576: NARROWER than '..Said'. Prove '..Said' where nothing that the law and all that it calls make is longer than what came in: it says more and counts as full. Else prove '..UptoSaid'. A law counts once. -/
mutual
def uptoBulk {H : Type} : DataW H → Nat
  | .lit (.string bytes) => bytes.length + 1
  | .lit _ => 1
  | .nil => 1
  | .ptr d => uptoBulk d + 1
  | .slice elems spare => uptoBulkAll elems + uptoBulkAll spare + 1
  | .agg parts => uptoBulkAll parts + 1
  | .iface _ d => uptoBulk d + 1
  | .map entries => uptoBulkEntries entries + 1
  | .held _ => 1
def uptoBulkAll {H : Type} : List (DataW H) → Nat
  | [] => 0
  | d :: r => uptoBulk d + uptoBulkAll r
def uptoBulkEntries {H : Type} : List (Lit × DataW H) → Nat
  | [] => 0
  | x :: r => uptoBulkEntry x + uptoBulkEntries r
def uptoBulkEntry {H : Type} : Lit × DataW H → Nat
  | (.string bytes, d) => bytes.length + uptoBulk d + 1
  | (_, d) => uptoBulk d + 1
 end
def uptoSmall : (H : Type) → List (DataW H) → Bool := fun _ ds => decide (uptoBulkAll ds ≤ 1048576)
def OpenSpec.upto (s : _root_.Go.ChangeSpec) : _root_.Go.OpenSpec := { _root_.Go.OpenSpec.ofChange s with cond := some uptoSmall }

/-- 'tapearchivelaw16.PackerFills', WHERE WHAT IT READS IS OF BULK AT MOST 1048576: true; the input reads as it did. -/
def packerFillsUptoRow : OpenClaim := { program := "ytpjegenobadckaa", sum := "f036a46ed311da7915c57da69556b9619b48ba8546c622fdb901ffc9bb55d1c1", func := "tapearchive/tapearchivelaw16.PackerFills", spec := "packerFills", unfollowed := true, recurses := true, apart := false, narrowed := true }
def PackerFillsUptoSaid : Prop := packerFillsUptoRow.holds Try.pinned (OpenSpec.upto packerFillsSpec)

/-- 'tapearchivelaw16.PackerCovers', WHERE WHAT IT READS IS OF BULK AT MOST 1048576: true; the input reads as it did. -/
def packerCoversUptoRow : OpenClaim := { program := "ytpjegenobadckaa", sum := "f036a46ed311da7915c57da69556b9619b48ba8546c622fdb901ffc9bb55d1c1", func := "tapearchive/tapearchivelaw16.PackerCovers", spec := "packerCovers", unfollowed := true, recurses := true, apart := false, narrowed := true }
def PackerCoversUptoSaid : Prop := packerCoversUptoRow.holds Try.pinned (OpenSpec.upto packerCoversSpec)

/-- 'tapearchivelaw16.PackerFits', WHERE WHAT IT READS IS OF BULK AT MOST 1048576: true; the input reads as it did. -/
def packerFitsUptoRow : OpenClaim := { program := "ytpjegenobadckaa", sum := "f036a46ed311da7915c57da69556b9619b48ba8546c622fdb901ffc9bb55d1c1", func := "tapearchive/tapearchivelaw16.PackerFits", spec := "packerFits", unfollowed := true, recurses := true, apart := false, narrowed := true }
def PackerFitsUptoSaid : Prop := packerFitsUptoRow.holds Try.pinned (OpenSpec.upto packerFitsSpec)

/-- 'tapearchivelaw16.PackerBounds', WHERE WHAT IT READS IS OF BULK AT MOST 1048576: true; the input reads as it did. -/
def packerBoundsUptoRow : OpenClaim := { program := "ytpjegenobadckaa", sum := "f036a46ed311da7915c57da69556b9619b48ba8546c622fdb901ffc9bb55d1c1", func := "tapearchive/tapearchivelaw16.PackerBounds", spec := "packerBounds", unfollowed := true, recurses := true, apart := false, narrowed := true }
def PackerBoundsUptoSaid : Prop := packerBoundsUptoRow.holds Try.pinned (OpenSpec.upto packerBoundsSpec)

/-- 'tapearchivelaw16.PackerHalves', WHERE WHAT IT READS IS OF BULK AT MOST 1048576: true; the input reads as it did. -/
def packerHalvesUptoRow : OpenClaim := { program := "ytpjegenobadckaa", sum := "f036a46ed311da7915c57da69556b9619b48ba8546c622fdb901ffc9bb55d1c1", func := "tapearchive/tapearchivelaw16.PackerHalves", spec := "packerHalves", unfollowed := true, recurses := true, apart := false, narrowed := true }
def PackerHalvesUptoSaid : Prop := packerHalvesUptoRow.holds Try.pinned (OpenSpec.upto packerHalvesSpec)

/-- 'tapearchivelaw16.PackerEntries', WHERE WHAT IT READS IS OF BULK AT MOST 1048576: true; the input reads as it did. -/
def packerEntriesUptoRow : OpenClaim := { program := "ytpjegenobadckaa", sum := "f036a46ed311da7915c57da69556b9619b48ba8546c622fdb901ffc9bb55d1c1", func := "tapearchive/tapearchivelaw16.PackerEntries", spec := "packerEntries", unfollowed := true, recurses := true, apart := false, narrowed := true }
def PackerEntriesUptoSaid : Prop := packerEntriesUptoRow.holds Try.pinned (OpenSpec.upto packerEntriesSpec)

end Rows
end Go.Proofs.Ytpjegenobadckaa
