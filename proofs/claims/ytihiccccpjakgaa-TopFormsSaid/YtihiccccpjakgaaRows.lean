/-
  No cell of these rows narrows 'for every input' (looked for: loops, veiled, ifaces, maps, wideKeys, modest, calm, conditions, laid).
  DERIVED. THE GIVEN ROWS OF THIS SEAT. 6 by the template 'for every input the law returns true; each argument reads behind the call as it read before'; 0 by the template 'total and deterministic' (their statements: YtihiccccpjakgaaTotals.lean).
  GIVEN WITH THE SEED: the statements are not yours to turn. If you find one false, say at which input.
  Laid BY PROGRAM, IN A SANDBOX (cutbox-rows.mjs): the forced cells as the released guide's own fill.sh prints them over the translation cde9febb90db7e03… (all of the seat's roots in one cut). By AI agents, Wed Nov 11 2026. No macro, syntax, notation, axiom, sorry.
-/
import Derived.Test.YtihiccccpjakgaaChecked
import GoSem.Claim
import GoSem.ClaimJoined
import GoSem.ClaimMapViews
import Derived.JoinedTies
import Derived.KernelRfl
namespace Go.Proofs.Ytihiccccpjakgaa
/- THE CELL 'sum', in the pinned program and in every row, IS THE sha256 OF THE DUMP (.gsa) THAT YtihiccccpjakgaaProg.lean LOADS. Nothing in Lean hashes anything: it is a label: what it is worth is what the hold of that sum in a sandbox is worth. -/
noncomputable def Try.pinned : Pinned := { name := "ytihiccccpjakgaa", sum := "cde9febb90db7e0360ca48d24db825471ca6cde2b61624815cababf26585c0cc", checked := Try.checked }
namespace Rows
def none {H : Type} : Left H := { results := [], args := [] }

/-- 'tapearchivelaw08.LzUnpacks': WHATEVER THE INPUT: true; the input reads as it did. -/
def lzUnpacksSpec : ChangeSpec := { name := "lzUnpacks", fn := fun _ => fun
  | [d1, d2] => { results := [.lit (.bool true)], args := [d1, d2] }
  | _ => none }
def lzUnpacksRow : OpenClaim := { program := "ytihiccccpjakgaa", sum := "cde9febb90db7e0360ca48d24db825471ca6cde2b61624815cababf26585c0cc", func := "tapearchive/tapearchivelaw08.LzUnpacks", spec := "lzUnpacks", unfollowed := true, recurses := true, apart := false }
def LzUnpacksSaid : Prop := lzUnpacksRow.holds Try.pinned (OpenSpec.ofChange lzUnpacksSpec)

/-- ITS FALSE NEIGHBOUR: 'it returns false'. Refute it at one input. -/
def lzUnpacksWrong : ChangeSpec := { name := "lzUnpacks", fn := fun _ => fun
  | [d1, d2] => { results := [.lit (.bool false)], args := [d1, d2] }
  | _ => none }
def LzUnpacksWrongFalsely : Prop := lzUnpacksRow.holds Try.pinned (OpenSpec.ofChange lzUnpacksWrong)

/-- 'tapearchivelaw08.LzTokens': WHATEVER THE INPUT: true; the input reads as it did. -/
def lzTokensSpec : ChangeSpec := { name := "lzTokens", fn := fun _ => fun
  | [d] => { results := [.lit (.bool true)], args := [d] }
  | _ => none }
def lzTokensRow : OpenClaim := { program := "ytihiccccpjakgaa", sum := "cde9febb90db7e0360ca48d24db825471ca6cde2b61624815cababf26585c0cc", func := "tapearchive/tapearchivelaw08.LzTokens", spec := "lzTokens", unfollowed := true, recurses := true, apart := false }
def LzTokensSaid : Prop := lzTokensRow.holds Try.pinned (OpenSpec.ofChange lzTokensSpec)

/-- ITS FALSE NEIGHBOUR: 'it returns false'. Refute it at one input. -/
def lzTokensWrong : ChangeSpec := { name := "lzTokens", fn := fun _ => fun
  | [d] => { results := [.lit (.bool false)], args := [d] }
  | _ => none }
def LzTokensWrongFalsely : Prop := lzTokensRow.holds Try.pinned (OpenSpec.ofChange lzTokensWrong)

/-- 'tapearchivelaw08.LzRoundTrip': WHATEVER THE INPUT: true; the input reads as it did. -/
def lzRoundTripSpec : ChangeSpec := { name := "lzRoundTrip", fn := fun _ => fun
  | [d1, d2] => { results := [.lit (.bool true)], args := [d1, d2] }
  | _ => none }
def lzRoundTripRow : OpenClaim := { program := "ytihiccccpjakgaa", sum := "cde9febb90db7e0360ca48d24db825471ca6cde2b61624815cababf26585c0cc", func := "tapearchive/tapearchivelaw08.LzRoundTrip", spec := "lzRoundTrip", unfollowed := true, recurses := true, apart := false }
def LzRoundTripSaid : Prop := lzRoundTripRow.holds Try.pinned (OpenSpec.ofChange lzRoundTripSpec)

/-- ITS FALSE NEIGHBOUR: 'it returns false'. Refute it at one input. -/
def lzRoundTripWrong : ChangeSpec := { name := "lzRoundTrip", fn := fun _ => fun
  | [d1, d2] => { results := [.lit (.bool false)], args := [d1, d2] }
  | _ => none }
def LzRoundTripWrongFalsely : Prop := lzRoundTripRow.holds Try.pinned (OpenSpec.ofChange lzRoundTripWrong)

/-- 'tapearchivelaw08.LzBounded': WHATEVER THE INPUT: true; the input reads as it did. -/
def lzBoundedSpec : ChangeSpec := { name := "lzBounded", fn := fun _ => fun
  | [d1, d2] => { results := [.lit (.bool true)], args := [d1, d2] }
  | _ => none }
def lzBoundedRow : OpenClaim := { program := "ytihiccccpjakgaa", sum := "cde9febb90db7e0360ca48d24db825471ca6cde2b61624815cababf26585c0cc", func := "tapearchive/tapearchivelaw08.LzBounded", spec := "lzBounded", unfollowed := true, recurses := true, apart := false }
def LzBoundedSaid : Prop := lzBoundedRow.holds Try.pinned (OpenSpec.ofChange lzBoundedSpec)

/-- ITS FALSE NEIGHBOUR: 'it returns false'. Refute it at one input. -/
def lzBoundedWrong : ChangeSpec := { name := "lzBounded", fn := fun _ => fun
  | [d1, d2] => { results := [.lit (.bool false)], args := [d1, d2] }
  | _ => none }
def LzBoundedWrongFalsely : Prop := lzBoundedRow.holds Try.pinned (OpenSpec.ofChange lzBoundedWrong)

/-- 'tapearchivelaw08.LzShrinks': WHATEVER THE INPUT: true; the input reads as it did. -/
def lzShrinksSpec : ChangeSpec := { name := "lzShrinks", fn := fun _ => fun
  | [d1, d2] => { results := [.lit (.bool true)], args := [d1, d2] }
  | _ => none }
def lzShrinksRow : OpenClaim := { program := "ytihiccccpjakgaa", sum := "cde9febb90db7e0360ca48d24db825471ca6cde2b61624815cababf26585c0cc", func := "tapearchive/tapearchivelaw08.LzShrinks", spec := "lzShrinks", unfollowed := true, recurses := true, apart := false }
def LzShrinksSaid : Prop := lzShrinksRow.holds Try.pinned (OpenSpec.ofChange lzShrinksSpec)

/-- ITS FALSE NEIGHBOUR: 'it returns false'. Refute it at one input. -/
def lzShrinksWrong : ChangeSpec := { name := "lzShrinks", fn := fun _ => fun
  | [d1, d2] => { results := [.lit (.bool false)], args := [d1, d2] }
  | _ => none }
def LzShrinksWrongFalsely : Prop := lzShrinksRow.holds Try.pinned (OpenSpec.ofChange lzShrinksWrong)

/-- 'tapearchivetop.TopForms': WHATEVER THE INPUT: true; the input reads as it did. -/
def topFormsSpec : ChangeSpec := { name := "topForms", fn := fun _ => fun
  | [d1, d2, d3] => { results := [.lit (.bool true)], args := [d1, d2, d3] }
  | _ => none }
def topFormsRow : OpenClaim := { program := "ytihiccccpjakgaa", sum := "cde9febb90db7e0360ca48d24db825471ca6cde2b61624815cababf26585c0cc", func := "tapearchive/tapearchivetop.TopForms", spec := "topForms", unfollowed := true, recurses := true, apart := false }
def TopFormsSaid : Prop := topFormsRow.holds Try.pinned (OpenSpec.ofChange topFormsSpec)

/-- ITS FALSE NEIGHBOUR: 'it returns false'. Refute it at one input. -/
def topFormsWrong : ChangeSpec := { name := "topForms", fn := fun _ => fun
  | [d1, d2, d3] => { results := [.lit (.bool false)], args := [d1, d2, d3] }
  | _ => none }
def TopFormsWrongFalsely : Prop := topFormsRow.holds Try.pinned (OpenSpec.ofChange topFormsWrong)

/- THE SECOND FORM. 'bulk': how many values and letters a reading holds, each counted each time it is reached (what is shared counts as often as it is met; a slice's spare places count too). A statement '..UptoSaid' is the law's where the arguments, and the package variables that the reading takes, are together of bulk at most 1048576: NARROWER than '..Said'. Prove '..Said' where nothing that the law and all that it calls make is longer than what came in: it says more and counts as full. Else prove '..UptoSaid'. A law counts once. -/
mutual
def uptoBulk {H : Type} : DataW H → Nat
  | .lit (.string bytes) => bytes.length + 1
  | .lit _ => 1
  | .nil => 1
  | .ptr d => uptoBulk d + 1
  | .slice elems spare => uptoBulkAll elems + uptoBulkAll spare + 1
  | .agg parts => uptoBulkAll parts + 1
  | .iface _ d => uptoBulk d + 1
  | .map entries => uptoBulkEntries entries + 1
  | .held _ => 1
def uptoBulkAll {H : Type} : List (DataW H) → Nat
  | [] => 0
  | d :: r => uptoBulk d + uptoBulkAll r
def uptoBulkEntries {H : Type} : List (Lit × DataW H) → Nat
  | [] => 0
  | x :: r => uptoBulkEntry x + uptoBulkEntries r
def uptoBulkEntry {H : Type} : Lit × DataW H → Nat
  | (.string bytes, d) => bytes.length + uptoBulk d + 1
  | (_, d) => uptoBulk d + 1
 end
def uptoSmall : (H : Type) → List (DataW H) → Bool := fun _ ds => decide (uptoBulkAll ds ≤ 1048576)
def OpenSpec.upto (s : _root_.Go.ChangeSpec) : _root_.Go.OpenSpec := { _root_.Go.OpenSpec.ofChange s with cond := some uptoSmall }

/-- 'tapearchivelaw08.LzUnpacks', WHERE WHAT IT READS IS OF BULK AT MOST 1048576: true; the input reads as it did. -/
def lzUnpacksUptoRow : OpenClaim := { program := "ytihiccccpjakgaa", sum := "cde9febb90db7e0360ca48d24db825471ca6cde2b61624815cababf26585c0cc", func := "tapearchive/tapearchivelaw08.LzUnpacks", spec := "lzUnpacks", unfollowed := true, recurses := true, apart := false, narrowed := true }
def LzUnpacksUptoSaid : Prop := lzUnpacksUptoRow.holds Try.pinned (OpenSpec.upto lzUnpacksSpec)

/-- 'tapearchivelaw08.LzTokens', WHERE WHAT IT READS IS OF BULK AT MOST 1048576: true; the input reads as it did. -/
def lzTokensUptoRow : OpenClaim := { program := "ytihiccccpjakgaa", sum := "cde9febb90db7e0360ca48d24db825471ca6cde2b61624815cababf26585c0cc", func := "tapearchive/tapearchivelaw08.LzTokens", spec := "lzTokens", unfollowed := true, recurses := true, apart := false, narrowed := true }
def LzTokensUptoSaid : Prop := lzTokensUptoRow.holds Try.pinned (OpenSpec.upto lzTokensSpec)

/-- 'tapearchivelaw08.LzRoundTrip', WHERE WHAT IT READS IS OF BULK AT MOST 1048576: true; the input reads as it did. -/
def lzRoundTripUptoRow : OpenClaim := { program := "ytihiccccpjakgaa", sum := "cde9febb90db7e0360ca48d24db825471ca6cde2b61624815cababf26585c0cc", func := "tapearchive/tapearchivelaw08.LzRoundTrip", spec := "lzRoundTrip", unfollowed := true, recurses := true, apart := false, narrowed := true }
def LzRoundTripUptoSaid : Prop := lzRoundTripUptoRow.holds Try.pinned (OpenSpec.upto lzRoundTripSpec)

/-- 'tapearchivelaw08.LzBounded', WHERE WHAT IT READS IS OF BULK AT MOST 1048576: true; the input reads as it did. -/
def lzBoundedUptoRow : OpenClaim := { program := "ytihiccccpjakgaa", sum := "cde9febb90db7e0360ca48d24db825471ca6cde2b61624815cababf26585c0cc", func := "tapearchive/tapearchivelaw08.LzBounded", spec := "lzBounded", unfollowed := true, recurses := true, apart := false, narrowed := true }
def LzBoundedUptoSaid : Prop := lzBoundedUptoRow.holds Try.pinned (OpenSpec.upto lzBoundedSpec)

/-- 'tapearchivelaw08.LzShrinks', WHERE WHAT IT READS IS OF BULK AT MOST 1048576: true; the input reads as it did. -/
def lzShrinksUptoRow : OpenClaim := { program := "ytihiccccpjakgaa", sum := "cde9febb90db7e0360ca48d24db825471ca6cde2b61624815cababf26585c0cc", func := "tapearchive/tapearchivelaw08.LzShrinks", spec := "lzShrinks", unfollowed := true, recurses := true, apart := false, narrowed := true }
def LzShrinksUptoSaid : Prop := lzShrinksUptoRow.holds Try.pinned (OpenSpec.upto lzShrinksSpec)

/-- 'tapearchivetop.TopForms', WHERE WHAT IT READS IS OF BULK AT MOST 1048576: true; the input reads as it did. -/
def topFormsUptoRow : OpenClaim := { program := "ytihiccccpjakgaa", sum := "cde9febb90db7e0360ca48d24db825471ca6cde2b61624815cababf26585c0cc", func := "tapearchive/tapearchivetop.TopForms", spec := "topForms", unfollowed := true, recurses := true, apart := false, narrowed := true }
def TopFormsUptoSaid : Prop := topFormsUptoRow.holds Try.pinned (OpenSpec.upto topFormsSpec)

end Rows
end Go.Proofs.Ytihiccccpjakgaa
