/-
  No cell of these rows narrows 'for every input' (looked for: loops, veiled, ifaces, maps, wideKeys, modest, calm, conditions, laid).
  DERIVED. THE GIVEN ROWS OF THIS SEAT. 7 by the template 'for every input the law returns true; each argument reads behind the call as it read before'; 0 by the template 'total and deterministic' (their statements: YtinfjidclkgfnaaTotals.lean).
  GIVEN WITH THE SEED: the statements are not yours to turn. If you find one false, say at which input.
  Laid BY PROGRAM, IN A SANDBOX (cutbox-rows.mjs): the forced cells as the released guide's own fill.sh prints them over the translation c5c1c5fcc9583d67… (all of the seat's roots in one cut). By AI agents, Wed Nov 11 2026. No macro, syntax, notation, axiom, sorry.
-/
import Derived.Test.YtinfjidclkgfnaaChecked
import GoSem.Claim
import GoSem.ClaimJoined
import GoSem.ClaimMapViews
import Derived.JoinedTies
import Derived.KernelRfl
namespace Go.Proofs.Ytinfjidclkgfnaa
/- THE CELL 'sum', in the pinned program and in every row, IS THE sha256 OF THE DUMP (.gsa) THAT YtinfjidclkgfnaaProg.lean LOADS. Nothing in Lean hashes anything: it is a label: what it is worth is what the hold of that sum in a sandbox is worth. -/
noncomputable def Try.pinned : Pinned := { name := "ytinfjidclkgfnaa", sum := "c5c1c5fcc9583d67082a8f44bddc1cebb22252dc3ef8aab27f75c7a4c2649a81", checked := Try.checked }
namespace Rows
def none {H : Type} : Left H := { results := [], args := [] }

/-- 'tapearchivelaw06.ErasureParities': WHATEVER THE INPUT: true; the input reads as it did. -/
def erasureParitiesSpec : ChangeSpec := { name := "erasureParities", fn := fun _ => fun
  | [d1, d2] => { results := [.lit (.bool true)], args := [d1, d2] }
  | _ => none }
def erasureParitiesRow : OpenClaim := { program := "ytinfjidclkgfnaa", sum := "c5c1c5fcc9583d67082a8f44bddc1cebb22252dc3ef8aab27f75c7a4c2649a81", func := "tapearchive/tapearchivelaw06.ErasureParities", spec := "erasureParities", unfollowed := true, recurses := true, apart := false }
def ErasureParitiesSaid : Prop := erasureParitiesRow.holds Try.pinned (OpenSpec.ofChange erasureParitiesSpec)

/-- ITS FALSE NEIGHBOUR: 'it returns false'. Refute it at one input. -/
def erasureParitiesWrong : ChangeSpec := { name := "erasureParities", fn := fun _ => fun
  | [d1, d2] => { results := [.lit (.bool false)], args := [d1, d2] }
  | _ => none }
def ErasureParitiesWrongFalsely : Prop := erasureParitiesRow.holds Try.pinned (OpenSpec.ofChange erasureParitiesWrong)

/-- 'tapearchivelaw06.ErasureReconstructs': WHATEVER THE INPUT: true; the input reads as it did. -/
def erasureReconstructsSpec : ChangeSpec := { name := "erasureReconstructs", fn := fun _ => fun
  | [d1, d2, d3] => { results := [.lit (.bool true)], args := [d1, d2, d3] }
  | _ => none }
def erasureReconstructsRow : OpenClaim := { program := "ytinfjidclkgfnaa", sum := "c5c1c5fcc9583d67082a8f44bddc1cebb22252dc3ef8aab27f75c7a4c2649a81", func := "tapearchive/tapearchivelaw06.ErasureReconstructs", spec := "erasureReconstructs", unfollowed := true, recurses := true, apart := false }
def ErasureReconstructsSaid : Prop := erasureReconstructsRow.holds Try.pinned (OpenSpec.ofChange erasureReconstructsSpec)

/-- ITS FALSE NEIGHBOUR: 'it returns false'. Refute it at one input. -/
def erasureReconstructsWrong : ChangeSpec := { name := "erasureReconstructs", fn := fun _ => fun
  | [d1, d2, d3] => { results := [.lit (.bool false)], args := [d1, d2, d3] }
  | _ => none }
def ErasureReconstructsWrongFalsely : Prop := erasureReconstructsRow.holds Try.pinned (OpenSpec.ofChange erasureReconstructsWrong)

/-- 'tapearchivelaw06.ErasureUpdates': WHATEVER THE INPUT: true; the input reads as it did. -/
def erasureUpdatesSpec : ChangeSpec := { name := "erasureUpdates", fn := fun _ => fun
  | [d1, d2, d3, d4, d5] => { results := [.lit (.bool true)], args := [d1, d2, d3, d4, d5] }
  | _ => none }
def erasureUpdatesRow : OpenClaim := { program := "ytinfjidclkgfnaa", sum := "c5c1c5fcc9583d67082a8f44bddc1cebb22252dc3ef8aab27f75c7a4c2649a81", func := "tapearchive/tapearchivelaw06.ErasureUpdates", spec := "erasureUpdates", unfollowed := true, recurses := true, apart := false }
def ErasureUpdatesSaid : Prop := erasureUpdatesRow.holds Try.pinned (OpenSpec.ofChange erasureUpdatesSpec)

/-- ITS FALSE NEIGHBOUR: 'it returns false'. Refute it at one input. -/
def erasureUpdatesWrong : ChangeSpec := { name := "erasureUpdates", fn := fun _ => fun
  | [d1, d2, d3, d4, d5] => { results := [.lit (.bool false)], args := [d1, d2, d3, d4, d5] }
  | _ => none }
def ErasureUpdatesWrongFalsely : Prop := erasureUpdatesRow.holds Try.pinned (OpenSpec.ofChange erasureUpdatesWrong)

/-- 'tapearchivelaw06.ErasureRecovers': WHATEVER THE INPUT: true; the input reads as it did. -/
def erasureRecoversSpec : ChangeSpec := { name := "erasureRecovers", fn := fun _ => fun
  | [d1, d2, d3] => { results := [.lit (.bool true)], args := [d1, d2, d3] }
  | _ => none }
def erasureRecoversRow : OpenClaim := { program := "ytinfjidclkgfnaa", sum := "c5c1c5fcc9583d67082a8f44bddc1cebb22252dc3ef8aab27f75c7a4c2649a81", func := "tapearchive/tapearchivelaw06.ErasureRecovers", spec := "erasureRecovers", unfollowed := true, recurses := true, apart := false }
def ErasureRecoversSaid : Prop := erasureRecoversRow.holds Try.pinned (OpenSpec.ofChange erasureRecoversSpec)

/-- ITS FALSE NEIGHBOUR: 'it returns false'. Refute it at one input. -/
def erasureRecoversWrong : ChangeSpec := { name := "erasureRecovers", fn := fun _ => fun
  | [d1, d2, d3] => { results := [.lit (.bool false)], args := [d1, d2, d3] }
  | _ => none }
def ErasureRecoversWrongFalsely : Prop := erasureRecoversRow.holds Try.pinned (OpenSpec.ofChange erasureRecoversWrong)

/-- 'tapearchivelaw06.ErasureFollows': WHATEVER THE INPUT: true; the input reads as it did. -/
def erasureFollowsSpec : ChangeSpec := { name := "erasureFollows", fn := fun _ => fun
  | [d1, d2, d3, d4] => { results := [.lit (.bool true)], args := [d1, d2, d3, d4] }
  | _ => none }
def erasureFollowsRow : OpenClaim := { program := "ytinfjidclkgfnaa", sum := "c5c1c5fcc9583d67082a8f44bddc1cebb22252dc3ef8aab27f75c7a4c2649a81", func := "tapearchive/tapearchivelaw06.ErasureFollows", spec := "erasureFollows", unfollowed := true, recurses := true, apart := false }
def ErasureFollowsSaid : Prop := erasureFollowsRow.holds Try.pinned (OpenSpec.ofChange erasureFollowsSpec)

/-- ITS FALSE NEIGHBOUR: 'it returns false'. Refute it at one input. -/
def erasureFollowsWrong : ChangeSpec := { name := "erasureFollows", fn := fun _ => fun
  | [d1, d2, d3, d4] => { results := [.lit (.bool false)], args := [d1, d2, d3, d4] }
  | _ => none }
def ErasureFollowsWrongFalsely : Prop := erasureFollowsRow.holds Try.pinned (OpenSpec.ofChange erasureFollowsWrong)

/-- 'tapearchivelaw06.ErasureSplits': WHATEVER THE INPUT: true; the input reads as it did. -/
def erasureSplitsSpec : ChangeSpec := { name := "erasureSplits", fn := fun _ => fun
  | [d1, d2, d3, d4] => { results := [.lit (.bool true)], args := [d1, d2, d3, d4] }
  | _ => none }
def erasureSplitsRow : OpenClaim := { program := "ytinfjidclkgfnaa", sum := "c5c1c5fcc9583d67082a8f44bddc1cebb22252dc3ef8aab27f75c7a4c2649a81", func := "tapearchive/tapearchivelaw06.ErasureSplits", spec := "erasureSplits", unfollowed := true, recurses := true, apart := false }
def ErasureSplitsSaid : Prop := erasureSplitsRow.holds Try.pinned (OpenSpec.ofChange erasureSplitsSpec)

/-- ITS FALSE NEIGHBOUR: 'it returns false'. Refute it at one input. -/
def erasureSplitsWrong : ChangeSpec := { name := "erasureSplits", fn := fun _ => fun
  | [d1, d2, d3, d4] => { results := [.lit (.bool false)], args := [d1, d2, d3, d4] }
  | _ => none }
def ErasureSplitsWrongFalsely : Prop := erasureSplitsRow.holds Try.pinned (OpenSpec.ofChange erasureSplitsWrong)

/-- 'tapearchivetop.TopShards': WHATEVER THE INPUT: true; the input reads as it did. -/
def topShardsSpec : ChangeSpec := { name := "topShards", fn := fun _ => fun
  | [d1, d2, d3] => { results := [.lit (.bool true)], args := [d1, d2, d3] }
  | _ => none }
def topShardsRow : OpenClaim := { program := "ytinfjidclkgfnaa", sum := "c5c1c5fcc9583d67082a8f44bddc1cebb22252dc3ef8aab27f75c7a4c2649a81", func := "tapearchive/tapearchivetop.TopShards", spec := "topShards", apart := false }
def TopShardsSaid : Prop := topShardsRow.holds Try.pinned (OpenSpec.ofChange topShardsSpec)

/-- ITS FALSE NEIGHBOUR: 'it returns false'. Refute it at one input. -/
def topShardsWrong : ChangeSpec := { name := "topShards", fn := fun _ => fun
  | [d1, d2, d3] => { results := [.lit (.bool false)], args := [d1, d2, d3] }
  | _ => none }
def TopShardsWrongFalsely : Prop := topShardsRow.holds Try.pinned (OpenSpec.ofChange topShardsWrong)

/- THE SECOND FORM. 'bulk': how many values and letters a reading holds, each counted each time it is reached (what is shared counts as often as it is met; a slice's spare places count too). A statement '..UptoSaid' is the law's where the arguments, and the package variables that the reading takes, are together of bulk at most 1048576: NARROWER than '..Said'. Prove '..Said' where nothing that the law and all that it calls make is longer than what came in: it says more and counts as full. Else prove '..UptoSaid'. A law counts once. -/
mutual
def uptoBulk {H : Type} : DataW H → Nat
  | .lit (.string bytes) => bytes.length + 1
  | .lit _ => 1
  | .nil => 1
  | .ptr d => uptoBulk d + 1
  | .slice elems spare => uptoBulkAll elems + uptoBulkAll spare + 1
  | .agg parts => uptoBulkAll parts + 1
  | .iface _ d => uptoBulk d + 1
  | .map entries => uptoBulkEntries entries + 1
  | .held _ => 1
def uptoBulkAll {H : Type} : List (DataW H) → Nat
  | [] => 0
  | d :: r => uptoBulk d + uptoBulkAll r
def uptoBulkEntries {H : Type} : List (Lit × DataW H) → Nat
  | [] => 0
  | x :: r => uptoBulkEntry x + uptoBulkEntries r
def uptoBulkEntry {H : Type} : Lit × DataW H → Nat
  | (.string bytes, d) => bytes.length + uptoBulk d + 1
  | (_, d) => uptoBulk d + 1
 end
def uptoSmall : (H : Type) → List (DataW H) → Bool := fun _ ds => decide (uptoBulkAll ds ≤ 1048576)
def OpenSpec.upto (s : _root_.Go.ChangeSpec) : _root_.Go.OpenSpec := { _root_.Go.OpenSpec.ofChange s with cond := some uptoSmall }

/-- 'tapearchivelaw06.ErasureParities', WHERE WHAT IT READS IS OF BULK AT MOST 1048576: true; the input reads as it did. -/
def erasureParitiesUptoRow : OpenClaim := { program := "ytinfjidclkgfnaa", sum := "c5c1c5fcc9583d67082a8f44bddc1cebb22252dc3ef8aab27f75c7a4c2649a81", func := "tapearchive/tapearchivelaw06.ErasureParities", spec := "erasureParities", unfollowed := true, recurses := true, apart := false, narrowed := true }
def ErasureParitiesUptoSaid : Prop := erasureParitiesUptoRow.holds Try.pinned (OpenSpec.upto erasureParitiesSpec)

/-- 'tapearchivelaw06.ErasureReconstructs', WHERE WHAT IT READS IS OF BULK AT MOST 1048576: true; the input reads as it did. -/
def erasureReconstructsUptoRow : OpenClaim := { program := "ytinfjidclkgfnaa", sum := "c5c1c5fcc9583d67082a8f44bddc1cebb22252dc3ef8aab27f75c7a4c2649a81", func := "tapearchive/tapearchivelaw06.ErasureReconstructs", spec := "erasureReconstructs", unfollowed := true, recurses := true, apart := false, narrowed := true }
def ErasureReconstructsUptoSaid : Prop := erasureReconstructsUptoRow.holds Try.pinned (OpenSpec.upto erasureReconstructsSpec)

/-- 'tapearchivelaw06.ErasureUpdates', WHERE WHAT IT READS IS OF BULK AT MOST 1048576: true; the input reads as it did. -/
def erasureUpdatesUptoRow : OpenClaim := { program := "ytinfjidclkgfnaa", sum := "c5c1c5fcc9583d67082a8f44bddc1cebb22252dc3ef8aab27f75c7a4c2649a81", func := "tapearchive/tapearchivelaw06.ErasureUpdates", spec := "erasureUpdates", unfollowed := true, recurses := true, apart := false, narrowed := true }
def ErasureUpdatesUptoSaid : Prop := erasureUpdatesUptoRow.holds Try.pinned (OpenSpec.upto erasureUpdatesSpec)

/-- 'tapearchivelaw06.ErasureRecovers', WHERE WHAT IT READS IS OF BULK AT MOST 1048576: true; the input reads as it did. -/
def erasureRecoversUptoRow : OpenClaim := { program := "ytinfjidclkgfnaa", sum := "c5c1c5fcc9583d67082a8f44bddc1cebb22252dc3ef8aab27f75c7a4c2649a81", func := "tapearchive/tapearchivelaw06.ErasureRecovers", spec := "erasureRecovers", unfollowed := true, recurses := true, apart := false, narrowed := true }
def ErasureRecoversUptoSaid : Prop := erasureRecoversUptoRow.holds Try.pinned (OpenSpec.upto erasureRecoversSpec)

/-- 'tapearchivelaw06.ErasureFollows', WHERE WHAT IT READS IS OF BULK AT MOST 1048576: true; the input reads as it did. -/
def erasureFollowsUptoRow : OpenClaim := { program := "ytinfjidclkgfnaa", sum := "c5c1c5fcc9583d67082a8f44bddc1cebb22252dc3ef8aab27f75c7a4c2649a81", func := "tapearchive/tapearchivelaw06.ErasureFollows", spec := "erasureFollows", unfollowed := true, recurses := true, apart := false, narrowed := true }
def ErasureFollowsUptoSaid : Prop := erasureFollowsUptoRow.holds Try.pinned (OpenSpec.upto erasureFollowsSpec)

/-- 'tapearchivelaw06.ErasureSplits', WHERE WHAT IT READS IS OF BULK AT MOST 1048576: true; the input reads as it did. -/
def erasureSplitsUptoRow : OpenClaim := { program := "ytinfjidclkgfnaa", sum := "c5c1c5fcc9583d67082a8f44bddc1cebb22252dc3ef8aab27f75c7a4c2649a81", func := "tapearchive/tapearchivelaw06.ErasureSplits", spec := "erasureSplits", unfollowed := true, recurses := true, apart := false, narrowed := true }
def ErasureSplitsUptoSaid : Prop := erasureSplitsUptoRow.holds Try.pinned (OpenSpec.upto erasureSplitsSpec)

/-- 'tapearchivetop.TopShards', WHERE WHAT IT READS IS OF BULK AT MOST 1048576: true; the input reads as it did. -/
def topShardsUptoRow : OpenClaim := { program := "ytinfjidclkgfnaa", sum := "c5c1c5fcc9583d67082a8f44bddc1cebb22252dc3ef8aab27f75c7a4c2649a81", func := "tapearchive/tapearchivetop.TopShards", spec := "topShards", apart := false, narrowed := true }
def TopShardsUptoSaid : Prop := topShardsUptoRow.holds Try.pinned (OpenSpec.upto topShardsSpec)

end Rows
end Go.Proofs.Ytinfjidclkgfnaa
