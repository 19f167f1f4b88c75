/-
  No cell of these rows narrows 'for every input' (looked for: loops, veiled, ifaces, maps, wideKeys, modest, calm, conditions, laid).
  DERIVED. THE GIVEN ROWS OF THIS SEAT. 6 by the template 'for every input the law returns true; each argument reads behind the call as it read before'; 0 by the template 'total and deterministic' (their statements: YtcoijhemnfnghaaTotals.lean).
  GIVEN WITH THE SEED: the statements are not yours to turn. If you find one false, say at which input.
  Laid BY PROGRAM, IN A SANDBOX (cutbox-rows.mjs): the forced cells as the released guide's own fill.sh prints them over the translation c189f70e23dc7c21… (all of the seat's roots in one cut). By AI agents, Wed Nov 11 2026. No macro, syntax, notation, axiom, sorry.
-/
import Derived.Test.YtcoijhemnfnghaaChecked
import GoSem.Claim
import GoSem.ClaimJoined
import GoSem.ClaimMapViews
import Derived.JoinedTies
import Derived.KernelRfl
namespace Go.Proofs.Ytcoijhemnfnghaa
/- THE CELL 'sum', in the pinned program and in every row, IS THE sha256 OF THE DUMP (.gsa) THAT YtcoijhemnfnghaaProg.lean LOADS. Nothing in Lean hashes anything: it is a label: what it is worth is what the hold of that sum in a sandbox is worth. -/
noncomputable def Try.pinned : Pinned := { name := "ytcoijhemnfnghaa", sum := "c189f70e23dc7c21f6a2d3d41cc60ea36f8becbf80d1e9b8222a8150772e6ea1", checked := Try.checked }
namespace Rows
def none {H : Type} : Left H := { results := [], args := [] }

/-- 'tapearchivelaw09.SerpentinePlaces': WHATEVER THE INPUT: true; the input reads as it did. -/
def serpentinePlacesSpec : ChangeSpec := { name := "serpentinePlaces", fn := fun _ => fun
  | [d1, d2] => { results := [.lit (.bool true)], args := [d1, d2] }
  | _ => none }
def serpentinePlacesRow : OpenClaim := { program := "ytcoijhemnfnghaa", sum := "c189f70e23dc7c21f6a2d3d41cc60ea36f8becbf80d1e9b8222a8150772e6ea1", func := "tapearchive/tapearchivelaw09.SerpentinePlaces", spec := "serpentinePlaces", recurses := true, apart := false }
def SerpentinePlacesSaid : Prop := serpentinePlacesRow.holds Try.pinned (OpenSpec.ofChange serpentinePlacesSpec)

/-- ITS FALSE NEIGHBOUR: 'it returns false'. Refute it at one input. -/
def serpentinePlacesWrong : ChangeSpec := { name := "serpentinePlaces", fn := fun _ => fun
  | [d1, d2] => { results := [.lit (.bool false)], args := [d1, d2] }
  | _ => none }
def SerpentinePlacesWrongFalsely : Prop := serpentinePlacesRow.holds Try.pinned (OpenSpec.ofChange serpentinePlacesWrong)

/-- 'tapearchivelaw09.SerpentineBlocks': WHATEVER THE INPUT: true; the input reads as it did. -/
def serpentineBlocksSpec : ChangeSpec := { name := "serpentineBlocks", fn := fun _ => fun
  | [d1, d2] => { results := [.lit (.bool true)], args := [d1, d2] }
  | _ => none }
def serpentineBlocksRow : OpenClaim := { program := "ytcoijhemnfnghaa", sum := "c189f70e23dc7c21f6a2d3d41cc60ea36f8becbf80d1e9b8222a8150772e6ea1", func := "tapearchive/tapearchivelaw09.SerpentineBlocks", spec := "serpentineBlocks", recurses := true, apart := false }
def SerpentineBlocksSaid : Prop := serpentineBlocksRow.holds Try.pinned (OpenSpec.ofChange serpentineBlocksSpec)

/-- ITS FALSE NEIGHBOUR: 'it returns false'. Refute it at one input. -/
def serpentineBlocksWrong : ChangeSpec := { name := "serpentineBlocks", fn := fun _ => fun
  | [d1, d2] => { results := [.lit (.bool false)], args := [d1, d2] }
  | _ => none }
def SerpentineBlocksWrongFalsely : Prop := serpentineBlocksRow.holds Try.pinned (OpenSpec.ofChange serpentineBlocksWrong)

/-- 'tapearchivelaw09.SerpentineTimes': WHATEVER THE INPUT: true; the input reads as it did. -/
def serpentineTimesSpec : ChangeSpec := { name := "serpentineTimes", fn := fun _ => fun
  | [d1, d2, d3, d4] => { results := [.lit (.bool true)], args := [d1, d2, d3, d4] }
  | _ => none }
def serpentineTimesRow : OpenClaim := { program := "ytcoijhemnfnghaa", sum := "c189f70e23dc7c21f6a2d3d41cc60ea36f8becbf80d1e9b8222a8150772e6ea1", func := "tapearchive/tapearchivelaw09.SerpentineTimes", spec := "serpentineTimes", recurses := true, apart := false }
def SerpentineTimesSaid : Prop := serpentineTimesRow.holds Try.pinned (OpenSpec.ofChange serpentineTimesSpec)

/-- ITS FALSE NEIGHBOUR: 'it returns false'. Refute it at one input. -/
def serpentineTimesWrong : ChangeSpec := { name := "serpentineTimes", fn := fun _ => fun
  | [d1, d2, d3, d4] => { results := [.lit (.bool false)], args := [d1, d2, d3, d4] }
  | _ => none }
def SerpentineTimesWrongFalsely : Prop := serpentineTimesRow.holds Try.pinned (OpenSpec.ofChange serpentineTimesWrong)

/-- 'tapearchivelaw09.SerpentineCosts': WHATEVER THE INPUT: true; the input reads as it did. -/
def serpentineCostsSpec : ChangeSpec := { name := "serpentineCosts", fn := fun _ => fun
  | [d1, d2, d3] => { results := [.lit (.bool true)], args := [d1, d2, d3] }
  | _ => none }
def serpentineCostsRow : OpenClaim := { program := "ytcoijhemnfnghaa", sum := "c189f70e23dc7c21f6a2d3d41cc60ea36f8becbf80d1e9b8222a8150772e6ea1", func := "tapearchive/tapearchivelaw09.SerpentineCosts", spec := "serpentineCosts", apart := false }
def SerpentineCostsSaid : Prop := serpentineCostsRow.holds Try.pinned (OpenSpec.ofChange serpentineCostsSpec)

/-- ITS FALSE NEIGHBOUR: 'it returns false'. Refute it at one input. -/
def serpentineCostsWrong : ChangeSpec := { name := "serpentineCosts", fn := fun _ => fun
  | [d1, d2, d3] => { results := [.lit (.bool false)], args := [d1, d2, d3] }
  | _ => none }
def SerpentineCostsWrongFalsely : Prop := serpentineCostsRow.holds Try.pinned (OpenSpec.ofChange serpentineCostsWrong)

/-- 'tapearchivelaw09.SerpentineAdds': WHATEVER THE INPUT: true; the input reads as it did. -/
def serpentineAddsSpec : ChangeSpec := { name := "serpentineAdds", fn := fun _ => fun
  | [d1, d2, d3, d4] => { results := [.lit (.bool true)], args := [d1, d2, d3, d4] }
  | _ => none }
def serpentineAddsRow : OpenClaim := { program := "ytcoijhemnfnghaa", sum := "c189f70e23dc7c21f6a2d3d41cc60ea36f8becbf80d1e9b8222a8150772e6ea1", func := "tapearchive/tapearchivelaw09.SerpentineAdds", spec := "serpentineAdds", apart := false }
def SerpentineAddsSaid : Prop := serpentineAddsRow.holds Try.pinned (OpenSpec.ofChange serpentineAddsSpec)

/-- ITS FALSE NEIGHBOUR: 'it returns false'. Refute it at one input. -/
def serpentineAddsWrong : ChangeSpec := { name := "serpentineAdds", fn := fun _ => fun
  | [d1, d2, d3, d4] => { results := [.lit (.bool false)], args := [d1, d2, d3, d4] }
  | _ => none }
def SerpentineAddsWrongFalsely : Prop := serpentineAddsRow.holds Try.pinned (OpenSpec.ofChange serpentineAddsWrong)

/-- 'tapearchivelaw09.SerpentineNeighbors': WHATEVER THE INPUT: true; the input reads as it did. -/
def serpentineNeighborsSpec : ChangeSpec := { name := "serpentineNeighbors", fn := fun _ => fun
  | [d1, d2] => { results := [.lit (.bool true)], args := [d1, d2] }
  | _ => none }
def serpentineNeighborsRow : OpenClaim := { program := "ytcoijhemnfnghaa", sum := "c189f70e23dc7c21f6a2d3d41cc60ea36f8becbf80d1e9b8222a8150772e6ea1", func := "tapearchive/tapearchivelaw09.SerpentineNeighbors", spec := "serpentineNeighbors", apart := false }
def SerpentineNeighborsSaid : Prop := serpentineNeighborsRow.holds Try.pinned (OpenSpec.ofChange serpentineNeighborsSpec)

/-- ITS FALSE NEIGHBOUR: 'it returns false'. Refute it at one input. -/
def serpentineNeighborsWrong : ChangeSpec := { name := "serpentineNeighbors", fn := fun _ => fun
  | [d1, d2] => { results := [.lit (.bool false)], args := [d1, d2] }
  | _ => none }
def SerpentineNeighborsWrongFalsely : Prop := serpentineNeighborsRow.holds Try.pinned (OpenSpec.ofChange serpentineNeighborsWrong)

/- THE SECOND FORM. 'bulk': how many values and letters a reading holds, each counted each time it is reached (what is shared counts as often as it is met; a slice's spare places count too). A statement '..UptoSaid' is the law's where the arguments, and the package variables that the reading takes, are together of bulk at most 1048576: NARROWER than '..Said'. Prove '..Said' where nothing that the law and all that it calls make is longer than what came in: it says more and counts as full. Else prove '..UptoSaid'. A law counts once. -/
mutual
def uptoBulk {H : Type} : DataW H → Nat
  | .lit (.string bytes) => bytes.length + 1
  | .lit _ => 1
  | .nil => 1
  | .ptr d => uptoBulk d + 1
  | .slice elems spare => uptoBulkAll elems + uptoBulkAll spare + 1
  | .agg parts => uptoBulkAll parts + 1
  | .iface _ d => uptoBulk d + 1
  | .map entries => uptoBulkEntries entries + 1
  | .held _ => 1
def uptoBulkAll {H : Type} : List (DataW H) → Nat
  | [] => 0
  | d :: r => uptoBulk d + uptoBulkAll r
def uptoBulkEntries {H : Type} : List (Lit × DataW H) → Nat
  | [] => 0
  | x :: r => uptoBulkEntry x + uptoBulkEntries r
def uptoBulkEntry {H : Type} : Lit × DataW H → Nat
  | (.string bytes, d) => bytes.length + uptoBulk d + 1
  | (_, d) => uptoBulk d + 1
 end
def uptoSmall : (H : Type) → List (DataW H) → Bool := fun _ ds => decide (uptoBulkAll ds ≤ 1048576)
def OpenSpec.upto (s : _root_.Go.ChangeSpec) : _root_.Go.OpenSpec := { _root_.Go.OpenSpec.ofChange s with cond := some uptoSmall }

/-- 'tapearchivelaw09.SerpentinePlaces', WHERE WHAT IT READS IS OF BULK AT MOST 1048576: true; the input reads as it did. -/
def serpentinePlacesUptoRow : OpenClaim := { program := "ytcoijhemnfnghaa", sum := "c189f70e23dc7c21f6a2d3d41cc60ea36f8becbf80d1e9b8222a8150772e6ea1", func := "tapearchive/tapearchivelaw09.SerpentinePlaces", spec := "serpentinePlaces", recurses := true, apart := false, narrowed := true }
def SerpentinePlacesUptoSaid : Prop := serpentinePlacesUptoRow.holds Try.pinned (OpenSpec.upto serpentinePlacesSpec)

/-- 'tapearchivelaw09.SerpentineBlocks', WHERE WHAT IT READS IS OF BULK AT MOST 1048576: true; the input reads as it did. -/
def serpentineBlocksUptoRow : OpenClaim := { program := "ytcoijhemnfnghaa", sum := "c189f70e23dc7c21f6a2d3d41cc60ea36f8becbf80d1e9b8222a8150772e6ea1", func := "tapearchive/tapearchivelaw09.SerpentineBlocks", spec := "serpentineBlocks", recurses := true, apart := false, narrowed := true }
def SerpentineBlocksUptoSaid : Prop := serpentineBlocksUptoRow.holds Try.pinned (OpenSpec.upto serpentineBlocksSpec)

/-- 'tapearchivelaw09.SerpentineTimes', WHERE WHAT IT READS IS OF BULK AT MOST 1048576: true; the input reads as it did. -/
def serpentineTimesUptoRow : OpenClaim := { program := "ytcoijhemnfnghaa", sum := "c189f70e23dc7c21f6a2d3d41cc60ea36f8becbf80d1e9b8222a8150772e6ea1", func := "tapearchive/tapearchivelaw09.SerpentineTimes", spec := "serpentineTimes", recurses := true, apart := false, narrowed := true }
def SerpentineTimesUptoSaid : Prop := serpentineTimesUptoRow.holds Try.pinned (OpenSpec.upto serpentineTimesSpec)

/-- 'tapearchivelaw09.SerpentineCosts', WHERE WHAT IT READS IS OF BULK AT MOST 1048576: true; the input reads as it did. -/
def serpentineCostsUptoRow : OpenClaim := { program := "ytcoijhemnfnghaa", sum := "c189f70e23dc7c21f6a2d3d41cc60ea36f8becbf80d1e9b8222a8150772e6ea1", func := "tapearchive/tapearchivelaw09.SerpentineCosts", spec := "serpentineCosts", apart := false, narrowed := true }
def SerpentineCostsUptoSaid : Prop := serpentineCostsUptoRow.holds Try.pinned (OpenSpec.upto serpentineCostsSpec)

/-- 'tapearchivelaw09.SerpentineAdds', WHERE WHAT IT READS IS OF BULK AT MOST 1048576: true; the input reads as it did. -/
def serpentineAddsUptoRow : OpenClaim := { program := "ytcoijhemnfnghaa", sum := "c189f70e23dc7c21f6a2d3d41cc60ea36f8becbf80d1e9b8222a8150772e6ea1", func := "tapearchive/tapearchivelaw09.SerpentineAdds", spec := "serpentineAdds", apart := false, narrowed := true }
def SerpentineAddsUptoSaid : Prop := serpentineAddsUptoRow.holds Try.pinned (OpenSpec.upto serpentineAddsSpec)

/-- 'tapearchivelaw09.SerpentineNeighbors', WHERE WHAT IT READS IS OF BULK AT MOST 1048576: true; the input reads as it did. -/
def serpentineNeighborsUptoRow : OpenClaim := { program := "ytcoijhemnfnghaa", sum := "c189f70e23dc7c21f6a2d3d41cc60ea36f8becbf80d1e9b8222a8150772e6ea1", func := "tapearchive/tapearchivelaw09.SerpentineNeighbors", spec := "serpentineNeighbors", apart := false, narrowed := true }
def SerpentineNeighborsUptoSaid : Prop := serpentineNeighborsUptoRow.holds Try.pinned (OpenSpec.upto serpentineNeighborsSpec)

end Rows
end Go.Proofs.Ytcoijhemnfnghaa
