/-
  No cell of these rows narrows 'for every input' (looked for: loops, veiled, ifaces, maps, wideKeys, modest, calm, conditions, laid).
  DERIVED. THE GIVEN ROWS OF THIS SEAT. 6 by the template 'for every input the law returns true; each argument reads behind the call as it read before'; 0 by the template 'total and deterministic' (their statements: YtmhaeipklifhcaaTotals.lean).
  GIVEN WITH THE SEED: the statements are not yours to turn. If you find one false, say at which input.
  Laid BY PROGRAM, IN A SANDBOX (cutbox-rows.mjs): the forced cells as the released guide's own fill.sh prints them over the translation baf3dc99e681f5ea… (all of the seat's roots in one cut). By AI agents, Wed Nov 11 2026. No macro, syntax, notation, axiom, sorry.
-/
import Derived.Test.YtmhaeipklifhcaaChecked
import GoSem.Claim
import GoSem.ClaimJoined
import GoSem.ClaimMapViews
import Derived.JoinedTies
import Derived.KernelRfl
namespace Go.Proofs.Ytmhaeipklifhcaa
/- THE CELL 'sum', in the pinned program and in every row, IS THE sha256 OF THE DUMP (.gsa) THAT YtmhaeipklifhcaaProg.lean LOADS. Nothing in Lean hashes anything: it is a label: what it is worth is what the hold of that sum in a sandbox is worth. -/
noncomputable def Try.pinned : Pinned := { name := "ytmhaeipklifhcaa", sum := "baf3dc99e681f5ea0d3b054b7cf34db3b77e7e7210020904de747369e9f1b88d", checked := Try.checked }
namespace Rows
def none {H : Type} : Left H := { results := [], args := [] }

/-- 'tapearchivelaw12.RobotValids': WHATEVER THE INPUT: true; the input reads as it did. -/
def robotValidsSpec : ChangeSpec := { name := "robotValids", fn := fun _ => fun
  | [d1, d2, d3, d4, d5, d6] => { results := [.lit (.bool true)], args := [d1, d2, d3, d4, d5, d6] }
  | _ => none }
def robotValidsRow : OpenClaim := { program := "ytmhaeipklifhcaa", sum := "baf3dc99e681f5ea0d3b054b7cf34db3b77e7e7210020904de747369e9f1b88d", func := "tapearchive/tapearchivelaw12.RobotValids", spec := "robotValids", unfollowed := true, recurses := true, apart := false }
def RobotValidsSaid : Prop := robotValidsRow.holds Try.pinned (OpenSpec.ofChange robotValidsSpec)

/-- ITS FALSE NEIGHBOUR: 'it returns false'. Refute it at one input. -/
def robotValidsWrong : ChangeSpec := { name := "robotValids", fn := fun _ => fun
  | [d1, d2, d3, d4, d5, d6] => { results := [.lit (.bool false)], args := [d1, d2, d3, d4, d5, d6] }
  | _ => none }
def RobotValidsWrongFalsely : Prop := robotValidsRow.holds Try.pinned (OpenSpec.ofChange robotValidsWrong)

/-- 'tapearchivelaw12.RobotPicks': WHATEVER THE INPUT: true; the input reads as it did. -/
def robotPicksSpec : ChangeSpec := { name := "robotPicks", fn := fun _ => fun
  | [d1, d2, d3, d4] => { results := [.lit (.bool true)], args := [d1, d2, d3, d4] }
  | _ => none }
def robotPicksRow : OpenClaim := { program := "ytmhaeipklifhcaa", sum := "baf3dc99e681f5ea0d3b054b7cf34db3b77e7e7210020904de747369e9f1b88d", func := "tapearchive/tapearchivelaw12.RobotPicks", spec := "robotPicks", unfollowed := true, recurses := true, apart := false }
def RobotPicksSaid : Prop := robotPicksRow.holds Try.pinned (OpenSpec.ofChange robotPicksSpec)

/-- ITS FALSE NEIGHBOUR: 'it returns false'. Refute it at one input. -/
def robotPicksWrong : ChangeSpec := { name := "robotPicks", fn := fun _ => fun
  | [d1, d2, d3, d4] => { results := [.lit (.bool false)], args := [d1, d2, d3, d4] }
  | _ => none }
def RobotPicksWrongFalsely : Prop := robotPicksRow.holds Try.pinned (OpenSpec.ofChange robotPicksWrong)

/-- 'tapearchivelaw12.RobotPuts': WHATEVER THE INPUT: true; the input reads as it did. -/
def robotPutsSpec : ChangeSpec := { name := "robotPuts", fn := fun _ => fun
  | [d1, d2, d3] => { results := [.lit (.bool true)], args := [d1, d2, d3] }
  | _ => none }
def robotPutsRow : OpenClaim := { program := "ytmhaeipklifhcaa", sum := "baf3dc99e681f5ea0d3b054b7cf34db3b77e7e7210020904de747369e9f1b88d", func := "tapearchive/tapearchivelaw12.RobotPuts", spec := "robotPuts", unfollowed := true, recurses := true, apart := false }
def RobotPutsSaid : Prop := robotPutsRow.holds Try.pinned (OpenSpec.ofChange robotPutsSpec)

/-- ITS FALSE NEIGHBOUR: 'it returns false'. Refute it at one input. -/
def robotPutsWrong : ChangeSpec := { name := "robotPuts", fn := fun _ => fun
  | [d1, d2, d3] => { results := [.lit (.bool false)], args := [d1, d2, d3] }
  | _ => none }
def RobotPutsWrongFalsely : Prop := robotPutsRow.holds Try.pinned (OpenSpec.ofChange robotPutsWrong)

/-- 'tapearchivelaw12.RobotMoves': WHATEVER THE INPUT: true; the input reads as it did. -/
def robotMovesSpec : ChangeSpec := { name := "robotMoves", fn := fun _ => fun
  | [d1, d2, d3, d4, d5] => { results := [.lit (.bool true)], args := [d1, d2, d3, d4, d5] }
  | _ => none }
def robotMovesRow : OpenClaim := { program := "ytmhaeipklifhcaa", sum := "baf3dc99e681f5ea0d3b054b7cf34db3b77e7e7210020904de747369e9f1b88d", func := "tapearchive/tapearchivelaw12.RobotMoves", spec := "robotMoves", unfollowed := true, recurses := true, apart := false }
def RobotMovesSaid : Prop := robotMovesRow.holds Try.pinned (OpenSpec.ofChange robotMovesSpec)

/-- ITS FALSE NEIGHBOUR: 'it returns false'. Refute it at one input. -/
def robotMovesWrong : ChangeSpec := { name := "robotMoves", fn := fun _ => fun
  | [d1, d2, d3, d4, d5] => { results := [.lit (.bool false)], args := [d1, d2, d3, d4, d5] }
  | _ => none }
def RobotMovesWrongFalsely : Prop := robotMovesRow.holds Try.pinned (OpenSpec.ofChange robotMovesWrong)

/-- 'tapearchivelaw12.RobotBack': WHATEVER THE INPUT: true; the input reads as it did. -/
def robotBackSpec : ChangeSpec := { name := "robotBack", fn := fun _ => fun
  | [d1, d2, d3] => { results := [.lit (.bool true)], args := [d1, d2, d3] }
  | _ => none }
def robotBackRow : OpenClaim := { program := "ytmhaeipklifhcaa", sum := "baf3dc99e681f5ea0d3b054b7cf34db3b77e7e7210020904de747369e9f1b88d", func := "tapearchive/tapearchivelaw12.RobotBack", spec := "robotBack", unfollowed := true, recurses := true, apart := false }
def RobotBackSaid : Prop := robotBackRow.holds Try.pinned (OpenSpec.ofChange robotBackSpec)

/-- ITS FALSE NEIGHBOUR: 'it returns false'. Refute it at one input. -/
def robotBackWrong : ChangeSpec := { name := "robotBack", fn := fun _ => fun
  | [d1, d2, d3] => { results := [.lit (.bool false)], args := [d1, d2, d3] }
  | _ => none }
def RobotBackWrongFalsely : Prop := robotBackRow.holds Try.pinned (OpenSpec.ofChange robotBackWrong)

/-- 'tapearchivelaw12.RobotFinds': WHATEVER THE INPUT: true; the input reads as it did. -/
def robotFindsSpec : ChangeSpec := { name := "robotFinds", fn := fun _ => fun
  | [d1, d2] => { results := [.lit (.bool true)], args := [d1, d2] }
  | _ => none }
def robotFindsRow : OpenClaim := { program := "ytmhaeipklifhcaa", sum := "baf3dc99e681f5ea0d3b054b7cf34db3b77e7e7210020904de747369e9f1b88d", func := "tapearchive/tapearchivelaw12.RobotFinds", spec := "robotFinds", unfollowed := true, recurses := true, apart := false }
def RobotFindsSaid : Prop := robotFindsRow.holds Try.pinned (OpenSpec.ofChange robotFindsSpec)

/-- ITS FALSE NEIGHBOUR: 'it returns false'. Refute it at one input. -/
def robotFindsWrong : ChangeSpec := { name := "robotFinds", fn := fun _ => fun
  | [d1, d2] => { results := [.lit (.bool false)], args := [d1, d2] }
  | _ => none }
def RobotFindsWrongFalsely : Prop := robotFindsRow.holds Try.pinned (OpenSpec.ofChange robotFindsWrong)

/- THE SECOND FORM. 'bulk': how many values and letters a reading holds, each counted each time it is reached (what is shared counts as often as it is met; a slice's spare places count too). A statement '..UptoSaid' is the law's where the arguments, and the package variables that the reading takes, are together of bulk at most 1048576: NARROWER than '..Said'. Prove '..Said' where nothing that the law and all that it calls make is longer than what came in: it says more and counts as full. Else prove '..UptoSaid'. A law counts once. -/
mutual
def uptoBulk {H : Type} : DataW H → Nat
  | .lit (.string bytes) => bytes.length + 1
  | .lit _ => 1
  | .nil => 1
  | .ptr d => uptoBulk d + 1
  | .slice elems spare => uptoBulkAll elems + uptoBulkAll spare + 1
  | .agg parts => uptoBulkAll parts + 1
  | .iface _ d => uptoBulk d + 1
  | .map entries => uptoBulkEntries entries + 1
  | .held _ => 1
def uptoBulkAll {H : Type} : List (DataW H) → Nat
  | [] => 0
  | d :: r => uptoBulk d + uptoBulkAll r
def uptoBulkEntries {H : Type} : List (Lit × DataW H) → Nat
  | [] => 0
  | x :: r => uptoBulkEntry x + uptoBulkEntries r
def uptoBulkEntry {H : Type} : Lit × DataW H → Nat
  | (.string bytes, d) => bytes.length + uptoBulk d + 1
  | (_, d) => uptoBulk d + 1
 end
def uptoSmall : (H : Type) → List (DataW H) → Bool := fun _ ds => decide (uptoBulkAll ds ≤ 1048576)
def OpenSpec.upto (s : _root_.Go.ChangeSpec) : _root_.Go.OpenSpec := { _root_.Go.OpenSpec.ofChange s with cond := some uptoSmall }

/-- 'tapearchivelaw12.RobotValids', WHERE WHAT IT READS IS OF BULK AT MOST 1048576: true; the input reads as it did. -/
def robotValidsUptoRow : OpenClaim := { program := "ytmhaeipklifhcaa", sum := "baf3dc99e681f5ea0d3b054b7cf34db3b77e7e7210020904de747369e9f1b88d", func := "tapearchive/tapearchivelaw12.RobotValids", spec := "robotValids", unfollowed := true, recurses := true, apart := false, narrowed := true }
def RobotValidsUptoSaid : Prop := robotValidsUptoRow.holds Try.pinned (OpenSpec.upto robotValidsSpec)

/-- 'tapearchivelaw12.RobotPicks', WHERE WHAT IT READS IS OF BULK AT MOST 1048576: true; the input reads as it did. -/
def robotPicksUptoRow : OpenClaim := { program := "ytmhaeipklifhcaa", sum := "baf3dc99e681f5ea0d3b054b7cf34db3b77e7e7210020904de747369e9f1b88d", func := "tapearchive/tapearchivelaw12.RobotPicks", spec := "robotPicks", unfollowed := true, recurses := true, apart := false, narrowed := true }
def RobotPicksUptoSaid : Prop := robotPicksUptoRow.holds Try.pinned (OpenSpec.upto robotPicksSpec)

/-- 'tapearchivelaw12.RobotPuts', WHERE WHAT IT READS IS OF BULK AT MOST 1048576: true; the input reads as it did. -/
def robotPutsUptoRow : OpenClaim := { program := "ytmhaeipklifhcaa", sum := "baf3dc99e681f5ea0d3b054b7cf34db3b77e7e7210020904de747369e9f1b88d", func := "tapearchive/tapearchivelaw12.RobotPuts", spec := "robotPuts", unfollowed := true, recurses := true, apart := false, narrowed := true }
def RobotPutsUptoSaid : Prop := robotPutsUptoRow.holds Try.pinned (OpenSpec.upto robotPutsSpec)

/-- 'tapearchivelaw12.RobotMoves', WHERE WHAT IT READS IS OF BULK AT MOST 1048576: true; the input reads as it did. -/
def robotMovesUptoRow : OpenClaim := { program := "ytmhaeipklifhcaa", sum := "baf3dc99e681f5ea0d3b054b7cf34db3b77e7e7210020904de747369e9f1b88d", func := "tapearchive/tapearchivelaw12.RobotMoves", spec := "robotMoves", unfollowed := true, recurses := true, apart := false, narrowed := true }
def RobotMovesUptoSaid : Prop := robotMovesUptoRow.holds Try.pinned (OpenSpec.upto robotMovesSpec)

/-- 'tapearchivelaw12.RobotBack', WHERE WHAT IT READS IS OF BULK AT MOST 1048576: true; the input reads as it did. -/
def robotBackUptoRow : OpenClaim := { program := "ytmhaeipklifhcaa", sum := "baf3dc99e681f5ea0d3b054b7cf34db3b77e7e7210020904de747369e9f1b88d", func := "tapearchive/tapearchivelaw12.RobotBack", spec := "robotBack", unfollowed := true, recurses := true, apart := false, narrowed := true }
def RobotBackUptoSaid : Prop := robotBackUptoRow.holds Try.pinned (OpenSpec.upto robotBackSpec)

/-- 'tapearchivelaw12.RobotFinds', WHERE WHAT IT READS IS OF BULK AT MOST 1048576: true; the input reads as it did. -/
def robotFindsUptoRow : OpenClaim := { program := "ytmhaeipklifhcaa", sum := "baf3dc99e681f5ea0d3b054b7cf34db3b77e7e7210020904de747369e9f1b88d", func := "tapearchive/tapearchivelaw12.RobotFinds", spec := "robotFinds", unfollowed := true, recurses := true, apart := false, narrowed := true }
def RobotFindsUptoSaid : Prop := robotFindsUptoRow.holds Try.pinned (OpenSpec.upto robotFindsSpec)

end Rows
end Go.Proofs.Ytmhaeipklifhcaa
