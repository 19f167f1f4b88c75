/-
  No cell of these rows narrows 'for every input' (looked for: loops, veiled, ifaces, maps, wideKeys, modest, calm, conditions, laid).
  DERIVED. THE GIVEN ROWS OF THIS SEAT. 7 by the template 'for every input the law returns true; each argument reads behind the call as it read before'; 0 by the template 'total and deterministic' (their statements: YtlbnjojafaieoaaTotals.lean).
  GIVEN WITH THE SEED: the statements are not yours to turn. If you find one false, say at which input.
  Laid BY PROGRAM, IN A SANDBOX (cutbox-rows.mjs): the forced cells as the released guide's own fill.sh prints them over the translation 2dd58ad050b7d5e2… (all of the seat's roots in one cut). By AI agents, Wed Nov 11 2026. No macro, syntax, notation, axiom, sorry.
-/
import Derived.Test.YtlbnjojafaieoaaChecked
import GoSem.Claim
import GoSem.ClaimJoined
import GoSem.ClaimMapViews
import Derived.JoinedTies
import Derived.KernelRfl
namespace Go.Proofs.Ytlbnjojafaieoaa
/- THE CELL 'sum', in the pinned program and in every row, IS THE sha256 OF THE DUMP (.gsa) THAT YtlbnjojafaieoaaProg.lean LOADS. Nothing in Lean hashes anything: it is a label: what it is worth is what the hold of that sum in a sandbox is worth. -/
noncomputable def Try.pinned : Pinned := { name := "ytlbnjojafaieoaa", sum := "2dd58ad050b7d5e27bce4bf549c3728e67017bdb52057fdc6e3baac8e66b6caa", checked := Try.checked }
namespace Rows
def none {H : Type} : Left H := { results := [], args := [] }

/-- 'tapearchivelaw10.CartridgeNew': WHATEVER THE INPUT: true; the input reads as it did. -/
def cartridgeNewSpec : ChangeSpec := { name := "cartridgeNew", fn := fun _ => fun
  | [d] => { results := [.lit (.bool true)], args := [d] }
  | _ => none }
def cartridgeNewRow : OpenClaim := { program := "ytlbnjojafaieoaa", sum := "2dd58ad050b7d5e27bce4bf549c3728e67017bdb52057fdc6e3baac8e66b6caa", func := "tapearchive/tapearchivelaw10.CartridgeNew", spec := "cartridgeNew", unfollowed := true, recurses := true, apart := false }
def CartridgeNewSaid : Prop := cartridgeNewRow.holds Try.pinned (OpenSpec.ofChange cartridgeNewSpec)

/-- ITS FALSE NEIGHBOUR: 'it returns false'. Refute it at one input. -/
def cartridgeNewWrong : ChangeSpec := { name := "cartridgeNew", fn := fun _ => fun
  | [d] => { results := [.lit (.bool false)], args := [d] }
  | _ => none }
def CartridgeNewWrongFalsely : Prop := cartridgeNewRow.holds Try.pinned (OpenSpec.ofChange cartridgeNewWrong)

/-- 'tapearchivelaw10.CartridgeWrites': WHATEVER THE INPUT: true; the input reads as it did. -/
def cartridgeWritesSpec : ChangeSpec := { name := "cartridgeWrites", fn := fun _ => fun
  | [d1, d2, d3] => { results := [.lit (.bool true)], args := [d1, d2, d3] }
  | _ => none }
def cartridgeWritesRow : OpenClaim := { program := "ytlbnjojafaieoaa", sum := "2dd58ad050b7d5e27bce4bf549c3728e67017bdb52057fdc6e3baac8e66b6caa", func := "tapearchive/tapearchivelaw10.CartridgeWrites", spec := "cartridgeWrites", unfollowed := true, recurses := true, apart := false }
def CartridgeWritesSaid : Prop := cartridgeWritesRow.holds Try.pinned (OpenSpec.ofChange cartridgeWritesSpec)

/-- ITS FALSE NEIGHBOUR: 'it returns false'. Refute it at one input. -/
def cartridgeWritesWrong : ChangeSpec := { name := "cartridgeWrites", fn := fun _ => fun
  | [d1, d2, d3] => { results := [.lit (.bool false)], args := [d1, d2, d3] }
  | _ => none }
def CartridgeWritesWrongFalsely : Prop := cartridgeWritesRow.holds Try.pinned (OpenSpec.ofChange cartridgeWritesWrong)

/-- 'tapearchivelaw10.CartridgeReads': WHATEVER THE INPUT: true; the input reads as it did. -/
def cartridgeReadsSpec : ChangeSpec := { name := "cartridgeReads", fn := fun _ => fun
  | [d1, d2, d3] => { results := [.lit (.bool true)], args := [d1, d2, d3] }
  | _ => none }
def cartridgeReadsRow : OpenClaim := { program := "ytlbnjojafaieoaa", sum := "2dd58ad050b7d5e27bce4bf549c3728e67017bdb52057fdc6e3baac8e66b6caa", func := "tapearchive/tapearchivelaw10.CartridgeReads", spec := "cartridgeReads", unfollowed := true, recurses := true, apart := false }
def CartridgeReadsSaid : Prop := cartridgeReadsRow.holds Try.pinned (OpenSpec.ofChange cartridgeReadsSpec)

/-- ITS FALSE NEIGHBOUR: 'it returns false'. Refute it at one input. -/
def cartridgeReadsWrong : ChangeSpec := { name := "cartridgeReads", fn := fun _ => fun
  | [d1, d2, d3] => { results := [.lit (.bool false)], args := [d1, d2, d3] }
  | _ => none }
def CartridgeReadsWrongFalsely : Prop := cartridgeReadsRow.holds Try.pinned (OpenSpec.ofChange cartridgeReadsWrong)

/-- 'tapearchivelaw10.CartridgeErases': WHATEVER THE INPUT: true; the input reads as it did. -/
def cartridgeErasesSpec : ChangeSpec := { name := "cartridgeErases", fn := fun _ => fun
  | [d1, d2] => { results := [.lit (.bool true)], args := [d1, d2] }
  | _ => none }
def cartridgeErasesRow : OpenClaim := { program := "ytlbnjojafaieoaa", sum := "2dd58ad050b7d5e27bce4bf549c3728e67017bdb52057fdc6e3baac8e66b6caa", func := "tapearchive/tapearchivelaw10.CartridgeErases", spec := "cartridgeErases", unfollowed := true, recurses := true, apart := false }
def CartridgeErasesSaid : Prop := cartridgeErasesRow.holds Try.pinned (OpenSpec.ofChange cartridgeErasesSpec)

/-- ITS FALSE NEIGHBOUR: 'it returns false'. Refute it at one input. -/
def cartridgeErasesWrong : ChangeSpec := { name := "cartridgeErases", fn := fun _ => fun
  | [d1, d2] => { results := [.lit (.bool false)], args := [d1, d2] }
  | _ => none }
def CartridgeErasesWrongFalsely : Prop := cartridgeErasesRow.holds Try.pinned (OpenSpec.ofChange cartridgeErasesWrong)

/-- 'tapearchivelaw10.CartridgeAppends': WHATEVER THE INPUT: true; the input reads as it did. -/
def cartridgeAppendsSpec : ChangeSpec := { name := "cartridgeAppends", fn := fun _ => fun
  | [d1, d2] => { results := [.lit (.bool true)], args := [d1, d2] }
  | _ => none }
def cartridgeAppendsRow : OpenClaim := { program := "ytlbnjojafaieoaa", sum := "2dd58ad050b7d5e27bce4bf549c3728e67017bdb52057fdc6e3baac8e66b6caa", func := "tapearchive/tapearchivelaw10.CartridgeAppends", spec := "cartridgeAppends", unfollowed := true, recurses := true, apart := false }
def CartridgeAppendsSaid : Prop := cartridgeAppendsRow.holds Try.pinned (OpenSpec.ofChange cartridgeAppendsSpec)

/-- ITS FALSE NEIGHBOUR: 'it returns false'. Refute it at one input. -/
def cartridgeAppendsWrong : ChangeSpec := { name := "cartridgeAppends", fn := fun _ => fun
  | [d1, d2] => { results := [.lit (.bool false)], args := [d1, d2] }
  | _ => none }
def CartridgeAppendsWrongFalsely : Prop := cartridgeAppendsRow.holds Try.pinned (OpenSpec.ofChange cartridgeAppendsWrong)

/-- 'tapearchivelaw10.CartridgeKeeps': WHATEVER THE INPUT: true; the input reads as it did. -/
def cartridgeKeepsSpec : ChangeSpec := { name := "cartridgeKeeps", fn := fun _ => fun
  | [d1, d2] => { results := [.lit (.bool true)], args := [d1, d2] }
  | _ => none }
def cartridgeKeepsRow : OpenClaim := { program := "ytlbnjojafaieoaa", sum := "2dd58ad050b7d5e27bce4bf549c3728e67017bdb52057fdc6e3baac8e66b6caa", func := "tapearchive/tapearchivelaw10.CartridgeKeeps", spec := "cartridgeKeeps", unfollowed := true, recurses := true, apart := false }
def CartridgeKeepsSaid : Prop := cartridgeKeepsRow.holds Try.pinned (OpenSpec.ofChange cartridgeKeepsSpec)

/-- ITS FALSE NEIGHBOUR: 'it returns false'. Refute it at one input. -/
def cartridgeKeepsWrong : ChangeSpec := { name := "cartridgeKeeps", fn := fun _ => fun
  | [d1, d2] => { results := [.lit (.bool false)], args := [d1, d2] }
  | _ => none }
def CartridgeKeepsWrongFalsely : Prop := cartridgeKeepsRow.holds Try.pinned (OpenSpec.ofChange cartridgeKeepsWrong)

/-- 'tapearchivelaw10.CartridgeCounts': WHATEVER THE INPUT: true; the input reads as it did. -/
def cartridgeCountsSpec : ChangeSpec := { name := "cartridgeCounts", fn := fun _ => fun
  | [d1, d2, d3] => { results := [.lit (.bool true)], args := [d1, d2, d3] }
  | _ => none }
def cartridgeCountsRow : OpenClaim := { program := "ytlbnjojafaieoaa", sum := "2dd58ad050b7d5e27bce4bf549c3728e67017bdb52057fdc6e3baac8e66b6caa", func := "tapearchive/tapearchivelaw10.CartridgeCounts", spec := "cartridgeCounts", unfollowed := true, recurses := true, apart := false }
def CartridgeCountsSaid : Prop := cartridgeCountsRow.holds Try.pinned (OpenSpec.ofChange cartridgeCountsSpec)

/-- ITS FALSE NEIGHBOUR: 'it returns false'. Refute it at one input. -/
def cartridgeCountsWrong : ChangeSpec := { name := "cartridgeCounts", fn := fun _ => fun
  | [d1, d2, d3] => { results := [.lit (.bool false)], args := [d1, d2, d3] }
  | _ => none }
def CartridgeCountsWrongFalsely : Prop := cartridgeCountsRow.holds Try.pinned (OpenSpec.ofChange cartridgeCountsWrong)

/- THE SECOND FORM. 'bulk': how many values and letters a reading holds, each counted each time it is reached (what is shared counts as often as it is met; a slice's spare places count too). A statement '..UptoSaid' is the law's where the arguments, and the package variables that the reading takes, are together of bulk at most 1048576: NARROWER than '..Said'. Prove '..Said' where nothing that the law and all that it calls make is longer than what came in: it says more and counts as full. Else prove '..UptoSaid'. A law counts once. -/
mutual
def uptoBulk {H : Type} : DataW H → Nat
  | .lit (.string bytes) => bytes.length + 1
  | .lit _ => 1
  | .nil => 1
  | .ptr d => uptoBulk d + 1
  | .slice elems spare => uptoBulkAll elems + uptoBulkAll spare + 1
  | .agg parts => uptoBulkAll parts + 1
  | .iface _ d => uptoBulk d + 1
  | .map entries => uptoBulkEntries entries + 1
  | .held _ => 1
def uptoBulkAll {H : Type} : List (DataW H) → Nat
  | [] => 0
  | d :: r => uptoBulk d + uptoBulkAll r
def uptoBulkEntries {H : Type} : List (Lit × DataW H) → Nat
  | [] => 0
  | x :: r => uptoBulkEntry x + uptoBulkEntries r
def uptoBulkEntry {H : Type} : Lit × DataW H → Nat
  | (.string bytes, d) => bytes.length + uptoBulk d + 1
  | (_, d) => uptoBulk d + 1
 end
def uptoSmall : (H : Type) → List (DataW H) → Bool := fun _ ds => decide (uptoBulkAll ds ≤ 1048576)
def OpenSpec.upto (s : _root_.Go.ChangeSpec) : _root_.Go.OpenSpec := { _root_.Go.OpenSpec.ofChange s with cond := some uptoSmall }

/-- 'tapearchivelaw10.CartridgeNew', WHERE WHAT IT READS IS OF BULK AT MOST 1048576: true; the input reads as it did. -/
def cartridgeNewUptoRow : OpenClaim := { program := "ytlbnjojafaieoaa", sum := "2dd58ad050b7d5e27bce4bf549c3728e67017bdb52057fdc6e3baac8e66b6caa", func := "tapearchive/tapearchivelaw10.CartridgeNew", spec := "cartridgeNew", unfollowed := true, recurses := true, apart := false, narrowed := true }
def CartridgeNewUptoSaid : Prop := cartridgeNewUptoRow.holds Try.pinned (OpenSpec.upto cartridgeNewSpec)

/-- 'tapearchivelaw10.CartridgeWrites', WHERE WHAT IT READS IS OF BULK AT MOST 1048576: true; the input reads as it did. -/
def cartridgeWritesUptoRow : OpenClaim := { program := "ytlbnjojafaieoaa", sum := "2dd58ad050b7d5e27bce4bf549c3728e67017bdb52057fdc6e3baac8e66b6caa", func := "tapearchive/tapearchivelaw10.CartridgeWrites", spec := "cartridgeWrites", unfollowed := true, recurses := true, apart := false, narrowed := true }
def CartridgeWritesUptoSaid : Prop := cartridgeWritesUptoRow.holds Try.pinned (OpenSpec.upto cartridgeWritesSpec)

/-- 'tapearchivelaw10.CartridgeReads', WHERE WHAT IT READS IS OF BULK AT MOST 1048576: true; the input reads as it did. -/
def cartridgeReadsUptoRow : OpenClaim := { program := "ytlbnjojafaieoaa", sum := "2dd58ad050b7d5e27bce4bf549c3728e67017bdb52057fdc6e3baac8e66b6caa", func := "tapearchive/tapearchivelaw10.CartridgeReads", spec := "cartridgeReads", unfollowed := true, recurses := true, apart := false, narrowed := true }
def CartridgeReadsUptoSaid : Prop := cartridgeReadsUptoRow.holds Try.pinned (OpenSpec.upto cartridgeReadsSpec)

/-- 'tapearchivelaw10.CartridgeErases', WHERE WHAT IT READS IS OF BULK AT MOST 1048576: true; the input reads as it did. -/
def cartridgeErasesUptoRow : OpenClaim := { program := "ytlbnjojafaieoaa", sum := "2dd58ad050b7d5e27bce4bf549c3728e67017bdb52057fdc6e3baac8e66b6caa", func := "tapearchive/tapearchivelaw10.CartridgeErases", spec := "cartridgeErases", unfollowed := true, recurses := true, apart := false, narrowed := true }
def CartridgeErasesUptoSaid : Prop := cartridgeErasesUptoRow.holds Try.pinned (OpenSpec.upto cartridgeErasesSpec)

/-- 'tapearchivelaw10.CartridgeAppends', WHERE WHAT IT READS IS OF BULK AT MOST 1048576: true; the input reads as it did. -/
def cartridgeAppendsUptoRow : OpenClaim := { program := "ytlbnjojafaieoaa", sum := "2dd58ad050b7d5e27bce4bf549c3728e67017bdb52057fdc6e3baac8e66b6caa", func := "tapearchive/tapearchivelaw10.CartridgeAppends", spec := "cartridgeAppends", unfollowed := true, recurses := true, apart := false, narrowed := true }
def CartridgeAppendsUptoSaid : Prop := cartridgeAppendsUptoRow.holds Try.pinned (OpenSpec.upto cartridgeAppendsSpec)

/-- 'tapearchivelaw10.CartridgeKeeps', WHERE WHAT IT READS IS OF BULK AT MOST 1048576: true; the input reads as it did. -/
def cartridgeKeepsUptoRow : OpenClaim := { program := "ytlbnjojafaieoaa", sum := "2dd58ad050b7d5e27bce4bf549c3728e67017bdb52057fdc6e3baac8e66b6caa", func := "tapearchive/tapearchivelaw10.CartridgeKeeps", spec := "cartridgeKeeps", unfollowed := true, recurses := true, apart := false, narrowed := true }
def CartridgeKeepsUptoSaid : Prop := cartridgeKeepsUptoRow.holds Try.pinned (OpenSpec.upto cartridgeKeepsSpec)

/-- 'tapearchivelaw10.CartridgeCounts', WHERE WHAT IT READS IS OF BULK AT MOST 1048576: true; the input reads as it did. -/
def cartridgeCountsUptoRow : OpenClaim := { program := "ytlbnjojafaieoaa", sum := "2dd58ad050b7d5e27bce4bf549c3728e67017bdb52057fdc6e3baac8e66b6caa", func := "tapearchive/tapearchivelaw10.CartridgeCounts", spec := "cartridgeCounts", unfollowed := true, recurses := true, apart := false, narrowed := true }
def CartridgeCountsUptoSaid : Prop := cartridgeCountsUptoRow.holds Try.pinned (OpenSpec.upto cartridgeCountsSpec)

end Rows
end Go.Proofs.Ytlbnjojafaieoaa
