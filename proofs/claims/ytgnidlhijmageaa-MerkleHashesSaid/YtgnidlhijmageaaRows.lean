/-
  No cell of these rows narrows 'for every input' (looked for: loops, veiled, ifaces, maps, wideKeys, modest, calm, conditions, laid).
  DERIVED. THE GIVEN ROWS OF THIS SEAT. 7 by the template 'for every input the law returns true; each argument reads behind the call as it read before'; 0 by the template 'total and deterministic' (their statements: YtgnidlhijmageaaTotals.lean).
  GIVEN WITH THE SEED: the statements are not yours to turn. If you find one false, say at which input.
  Laid BY PROGRAM, IN A SANDBOX (cutbox-rows.mjs): the forced cells as the released guide's own fill.sh prints them over the translation 5e3d02f7c7be37e9… (all of the seat's roots in one cut). By AI agents, Wed Nov 11 2026. No macro, syntax, notation, axiom, sorry.
-/
import Derived.Test.YtgnidlhijmageaaChecked
import GoSem.Claim
import GoSem.ClaimJoined
import GoSem.ClaimMapViews
import Derived.JoinedTies
import Derived.KernelRfl
namespace Go.Proofs.Ytgnidlhijmageaa
/- THE CELL 'sum', in the pinned program and in every row, IS THE sha256 OF THE DUMP (.gsa) THAT YtgnidlhijmageaaProg.lean LOADS. Nothing in Lean hashes anything: it is a label: what it is worth is what the hold of that sum in a sandbox is worth. -/
noncomputable def Try.pinned : Pinned := { name := "ytgnidlhijmageaa", sum := "5e3d02f7c7be37e90e461d2c8d7379e6796369f0ffa44360558920b927c176f7", checked := Try.checked }
namespace Rows
def none {H : Type} : Left H := { results := [], args := [] }

/-- 'tapearchivelaw07.MerkleHashes': WHATEVER THE INPUT: true; the input reads as it did. -/
def merkleHashesSpec : ChangeSpec := { name := "merkleHashes", fn := fun _ => fun
  | [d1, d2, d3] => { results := [.lit (.bool true)], args := [d1, d2, d3] }
  | _ => none }
def merkleHashesRow : OpenClaim := { program := "ytgnidlhijmageaa", sum := "5e3d02f7c7be37e90e461d2c8d7379e6796369f0ffa44360558920b927c176f7", func := "tapearchive/tapearchivelaw07.MerkleHashes", spec := "merkleHashes", unfollowed := true, recurses := true, apart := false }
def MerkleHashesSaid : Prop := merkleHashesRow.holds Try.pinned (OpenSpec.ofChange merkleHashesSpec)

/-- ITS FALSE NEIGHBOUR: 'it returns false'. Refute it at one input. -/
def merkleHashesWrong : ChangeSpec := { name := "merkleHashes", fn := fun _ => fun
  | [d1, d2, d3] => { results := [.lit (.bool false)], args := [d1, d2, d3] }
  | _ => none }
def MerkleHashesWrongFalsely : Prop := merkleHashesRow.holds Try.pinned (OpenSpec.ofChange merkleHashesWrong)

/-- 'tapearchivelaw07.MerkleRoots': WHATEVER THE INPUT: true; the input reads as it did. -/
def merkleRootsSpec : ChangeSpec := { name := "merkleRoots", fn := fun _ => fun
  | [d] => { results := [.lit (.bool true)], args := [d] }
  | _ => none }
def merkleRootsRow : OpenClaim := { program := "ytgnidlhijmageaa", sum := "5e3d02f7c7be37e90e461d2c8d7379e6796369f0ffa44360558920b927c176f7", func := "tapearchive/tapearchivelaw07.MerkleRoots", spec := "merkleRoots", recurses := true, apart := false }
def MerkleRootsSaid : Prop := merkleRootsRow.holds Try.pinned (OpenSpec.ofChange merkleRootsSpec)

/-- ITS FALSE NEIGHBOUR: 'it returns false'. Refute it at one input. -/
def merkleRootsWrong : ChangeSpec := { name := "merkleRoots", fn := fun _ => fun
  | [d] => { results := [.lit (.bool false)], args := [d] }
  | _ => none }
def MerkleRootsWrongFalsely : Prop := merkleRootsRow.holds Try.pinned (OpenSpec.ofChange merkleRootsWrong)

/-- 'tapearchivelaw07.MerkleProves': WHATEVER THE INPUT: true; the input reads as it did. -/
def merkleProvesSpec : ChangeSpec := { name := "merkleProves", fn := fun _ => fun
  | [d1, d2] => { results := [.lit (.bool true)], args := [d1, d2] }
  | _ => none }
def merkleProvesRow : OpenClaim := { program := "ytgnidlhijmageaa", sum := "5e3d02f7c7be37e90e461d2c8d7379e6796369f0ffa44360558920b927c176f7", func := "tapearchive/tapearchivelaw07.MerkleProves", spec := "merkleProves", recurses := true, apart := false }
def MerkleProvesSaid : Prop := merkleProvesRow.holds Try.pinned (OpenSpec.ofChange merkleProvesSpec)

/-- ITS FALSE NEIGHBOUR: 'it returns false'. Refute it at one input. -/
def merkleProvesWrong : ChangeSpec := { name := "merkleProves", fn := fun _ => fun
  | [d1, d2] => { results := [.lit (.bool false)], args := [d1, d2] }
  | _ => none }
def MerkleProvesWrongFalsely : Prop := merkleProvesRow.holds Try.pinned (OpenSpec.ofChange merkleProvesWrong)

/-- 'tapearchivelaw07.MerkleVerifies': WHATEVER THE INPUT: true; the input reads as it did. -/
def merkleVerifiesSpec : ChangeSpec := { name := "merkleVerifies", fn := fun _ => fun
  | [d] => { results := [.lit (.bool true)], args := [d] }
  | _ => none }
def merkleVerifiesRow : OpenClaim := { program := "ytgnidlhijmageaa", sum := "5e3d02f7c7be37e90e461d2c8d7379e6796369f0ffa44360558920b927c176f7", func := "tapearchive/tapearchivelaw07.MerkleVerifies", spec := "merkleVerifies", recurses := true, apart := false }
def MerkleVerifiesSaid : Prop := merkleVerifiesRow.holds Try.pinned (OpenSpec.ofChange merkleVerifiesSpec)

/-- ITS FALSE NEIGHBOUR: 'it returns false'. Refute it at one input. -/
def merkleVerifiesWrong : ChangeSpec := { name := "merkleVerifies", fn := fun _ => fun
  | [d] => { results := [.lit (.bool false)], args := [d] }
  | _ => none }
def MerkleVerifiesWrongFalsely : Prop := merkleVerifiesRow.holds Try.pinned (OpenSpec.ofChange merkleVerifiesWrong)

/-- 'tapearchivelaw07.MerklePrefixes': WHATEVER THE INPUT: true; the input reads as it did. -/
def merklePrefixesSpec : ChangeSpec := { name := "merklePrefixes", fn := fun _ => fun
  | [d1, d2] => { results := [.lit (.bool true)], args := [d1, d2] }
  | _ => none }
def merklePrefixesRow : OpenClaim := { program := "ytgnidlhijmageaa", sum := "5e3d02f7c7be37e90e461d2c8d7379e6796369f0ffa44360558920b927c176f7", func := "tapearchive/tapearchivelaw07.MerklePrefixes", spec := "merklePrefixes", recurses := true, apart := false }
def MerklePrefixesSaid : Prop := merklePrefixesRow.holds Try.pinned (OpenSpec.ofChange merklePrefixesSpec)

/-- ITS FALSE NEIGHBOUR: 'it returns false'. Refute it at one input. -/
def merklePrefixesWrong : ChangeSpec := { name := "merklePrefixes", fn := fun _ => fun
  | [d1, d2] => { results := [.lit (.bool false)], args := [d1, d2] }
  | _ => none }
def MerklePrefixesWrongFalsely : Prop := merklePrefixesRow.holds Try.pinned (OpenSpec.ofChange merklePrefixesWrong)

/-- 'tapearchivelaw07.MerkleExtends': WHATEVER THE INPUT: true; the input reads as it did. -/
def merkleExtendsSpec : ChangeSpec := { name := "merkleExtends", fn := fun _ => fun
  | [d] => { results := [.lit (.bool true)], args := [d] }
  | _ => none }
def merkleExtendsRow : OpenClaim := { program := "ytgnidlhijmageaa", sum := "5e3d02f7c7be37e90e461d2c8d7379e6796369f0ffa44360558920b927c176f7", func := "tapearchive/tapearchivelaw07.MerkleExtends", spec := "merkleExtends", recurses := true, apart := false }
def MerkleExtendsSaid : Prop := merkleExtendsRow.holds Try.pinned (OpenSpec.ofChange merkleExtendsSpec)

/-- ITS FALSE NEIGHBOUR: 'it returns false'. Refute it at one input. -/
def merkleExtendsWrong : ChangeSpec := { name := "merkleExtends", fn := fun _ => fun
  | [d] => { results := [.lit (.bool false)], args := [d] }
  | _ => none }
def MerkleExtendsWrongFalsely : Prop := merkleExtendsRow.holds Try.pinned (OpenSpec.ofChange merkleExtendsWrong)

/-- 'tapearchivelaw07.MerkleGrows': WHATEVER THE INPUT: true; the input reads as it did. -/
def merkleGrowsSpec : ChangeSpec := { name := "merkleGrows", fn := fun _ => fun
  | [d1, d2, d3] => { results := [.lit (.bool true)], args := [d1, d2, d3] }
  | _ => none }
def merkleGrowsRow : OpenClaim := { program := "ytgnidlhijmageaa", sum := "5e3d02f7c7be37e90e461d2c8d7379e6796369f0ffa44360558920b927c176f7", func := "tapearchive/tapearchivelaw07.MerkleGrows", spec := "merkleGrows", recurses := true, apart := false }
def MerkleGrowsSaid : Prop := merkleGrowsRow.holds Try.pinned (OpenSpec.ofChange merkleGrowsSpec)

/-- ITS FALSE NEIGHBOUR: 'it returns false'. Refute it at one input. -/
def merkleGrowsWrong : ChangeSpec := { name := "merkleGrows", fn := fun _ => fun
  | [d1, d2, d3] => { results := [.lit (.bool false)], args := [d1, d2, d3] }
  | _ => none }
def MerkleGrowsWrongFalsely : Prop := merkleGrowsRow.holds Try.pinned (OpenSpec.ofChange merkleGrowsWrong)

/- THE SECOND FORM. 'bulk': how many values and letters a reading holds, each counted each time it is reached (what is shared counts as often as it is met; a slice's spare places count too). A statement '..UptoSaid' is the law's where the arguments, and the package variables that the reading takes, are together of bulk at most 1048576: NARROWER than '..Said'. Prove '..Said' where nothing that the law and all that it calls make is longer than what came in: it says more and counts as full. Else prove '..UptoSaid'. A law counts once. -/
mutual
def uptoBulk {H : Type} : DataW H → Nat
  | .lit (.string bytes) => bytes.length + 1
  | .lit _ => 1
  | .nil => 1
  | .ptr d => uptoBulk d + 1
  | .slice elems spare => uptoBulkAll elems + uptoBulkAll spare + 1
  | .agg parts => uptoBulkAll parts + 1
  | .iface _ d => uptoBulk d + 1
  | .map entries => uptoBulkEntries entries + 1
  | .held _ => 1
def uptoBulkAll {H : Type} : List (DataW H) → Nat
  | [] => 0
  | d :: r => uptoBulk d + uptoBulkAll r
def uptoBulkEntries {H : Type} : List (Lit × DataW H) → Nat
  | [] => 0
  | x :: r => uptoBulkEntry x + uptoBulkEntries r
def uptoBulkEntry {H : Type} : Lit × DataW H → Nat
  | (.string bytes, d) => bytes.length + uptoBulk d + 1
  | (_, d) => uptoBulk d + 1
 end
def uptoSmall : (H : Type) → List (DataW H) → Bool := fun _ ds => decide (uptoBulkAll ds ≤ 1048576)
def OpenSpec.upto (s : _root_.Go.ChangeSpec) : _root_.Go.OpenSpec := { _root_.Go.OpenSpec.ofChange s with cond := some uptoSmall }

/-- 'tapearchivelaw07.MerkleHashes', WHERE WHAT IT READS IS OF BULK AT MOST 1048576: true; the input reads as it did. -/
def merkleHashesUptoRow : OpenClaim := { program := "ytgnidlhijmageaa", sum := "5e3d02f7c7be37e90e461d2c8d7379e6796369f0ffa44360558920b927c176f7", func := "tapearchive/tapearchivelaw07.MerkleHashes", spec := "merkleHashes", unfollowed := true, recurses := true, apart := false, narrowed := true }
def MerkleHashesUptoSaid : Prop := merkleHashesUptoRow.holds Try.pinned (OpenSpec.upto merkleHashesSpec)

/-- 'tapearchivelaw07.MerkleRoots', WHERE WHAT IT READS IS OF BULK AT MOST 1048576: true; the input reads as it did. -/
def merkleRootsUptoRow : OpenClaim := { program := "ytgnidlhijmageaa", sum := "5e3d02f7c7be37e90e461d2c8d7379e6796369f0ffa44360558920b927c176f7", func := "tapearchive/tapearchivelaw07.MerkleRoots", spec := "merkleRoots", recurses := true, apart := false, narrowed := true }
def MerkleRootsUptoSaid : Prop := merkleRootsUptoRow.holds Try.pinned (OpenSpec.upto merkleRootsSpec)

/-- 'tapearchivelaw07.MerkleProves', WHERE WHAT IT READS IS OF BULK AT MOST 1048576: true; the input reads as it did. -/
def merkleProvesUptoRow : OpenClaim := { program := "ytgnidlhijmageaa", sum := "5e3d02f7c7be37e90e461d2c8d7379e6796369f0ffa44360558920b927c176f7", func := "tapearchive/tapearchivelaw07.MerkleProves", spec := "merkleProves", recurses := true, apart := false, narrowed := true }
def MerkleProvesUptoSaid : Prop := merkleProvesUptoRow.holds Try.pinned (OpenSpec.upto merkleProvesSpec)

/-- 'tapearchivelaw07.MerkleVerifies', WHERE WHAT IT READS IS OF BULK AT MOST 1048576: true; the input reads as it did. -/
def merkleVerifiesUptoRow : OpenClaim := { program := "ytgnidlhijmageaa", sum := "5e3d02f7c7be37e90e461d2c8d7379e6796369f0ffa44360558920b927c176f7", func := "tapearchive/tapearchivelaw07.MerkleVerifies", spec := "merkleVerifies", recurses := true, apart := false, narrowed := true }
def MerkleVerifiesUptoSaid : Prop := merkleVerifiesUptoRow.holds Try.pinned (OpenSpec.upto merkleVerifiesSpec)

/-- 'tapearchivelaw07.MerklePrefixes', WHERE WHAT IT READS IS OF BULK AT MOST 1048576: true; the input reads as it did. -/
def merklePrefixesUptoRow : OpenClaim := { program := "ytgnidlhijmageaa", sum := "5e3d02f7c7be37e90e461d2c8d7379e6796369f0ffa44360558920b927c176f7", func := "tapearchive/tapearchivelaw07.MerklePrefixes", spec := "merklePrefixes", recurses := true, apart := false, narrowed := true }
def MerklePrefixesUptoSaid : Prop := merklePrefixesUptoRow.holds Try.pinned (OpenSpec.upto merklePrefixesSpec)

/-- 'tapearchivelaw07.MerkleExtends', WHERE WHAT IT READS IS OF BULK AT MOST 1048576: true; the input reads as it did. -/
def merkleExtendsUptoRow : OpenClaim := { program := "ytgnidlhijmageaa", sum := "5e3d02f7c7be37e90e461d2c8d7379e6796369f0ffa44360558920b927c176f7", func := "tapearchive/tapearchivelaw07.MerkleExtends", spec := "merkleExtends", recurses := true, apart := false, narrowed := true }
def MerkleExtendsUptoSaid : Prop := merkleExtendsUptoRow.holds Try.pinned (OpenSpec.upto merkleExtendsSpec)

/-- 'tapearchivelaw07.MerkleGrows', WHERE WHAT IT READS IS OF BULK AT MOST 1048576: true; the input reads as it did. -/
def merkleGrowsUptoRow : OpenClaim := { program := "ytgnidlhijmageaa", sum := "5e3d02f7c7be37e90e461d2c8d7379e6796369f0ffa44360558920b927c176f7", func := "tapearchive/tapearchivelaw07.MerkleGrows", spec := "merkleGrows", recurses := true, apart := false, narrowed := true }
def MerkleGrowsUptoSaid : Prop := merkleGrowsUptoRow.holds Try.pinned (OpenSpec.upto merkleGrowsSpec)

end Rows
end Go.Proofs.Ytgnidlhijmageaa
