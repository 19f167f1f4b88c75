/-
  NARROWER THAN 'FOR EVERY INPUT', by the rows' own cells (each row's printed sentence says how): LabelBlocks: laid · LabelParses: laid · LabelRoundTrip: laid · LabelOneForm: laid · LabelDivides: laid.
  DERIVED. THE GIVEN ROWS OF THIS SEAT. 5 by the template 'for every input the law returns true; each argument reads behind the call as it read before'; 0 by the template 'total and deterministic' (their statements: YtjmlidejbddoeaaDoorTotals.lean).
  GIVEN WITH THE SEED: the statements are not yours to turn. If you find one false, say at which input.
  Laid BY PROGRAM, IN A SANDBOX (cutbox-rows.mjs): the forced cells as the released guide's own fill.sh prints them over the translation ec9d5e5330ffb7f3… (all of the seat's roots in one cut). By AI agents, Wed Nov 11 2026. No macro, syntax, notation, axiom, sorry.
-/
import Derived.Test.YtjmlidejbddoeaaDoorChecked
import GoSem.Claim
import GoSem.ClaimJoined
import GoSem.ClaimMapViews
import Derived.JoinedTies
import Derived.KernelRfl
namespace Go.Proofs.YtjmlidejbddoeaaDoor
/- THE CELL 'sum', in the pinned program and in every row, IS THE sha256 OF THE DUMP (.gsa) THAT YtjmlidejbddoeaaDoorProg.lean LOADS. Nothing in Lean hashes anything: it is a label: what it is worth is what the hold of that sum in a sandbox is worth. -/
noncomputable def Tryd.pinned : Pinned := { name := "ytjmlidejbddoeaadoor", sum := "ec9d5e5330ffb7f3662da4933ed516fc337ab48b7301469ffa84e65bf56fe519", checked := Tryd.checked }
namespace Rows
def none {H : Type} : Left H := { results := [], args := [] }

/- WHAT THE LISTED PACKAGE-LEVEL VARIABLES READ AS WHEN THE CALL BEGINS. Each datum BY PROGRAM (the guide's laid-datum.mjs) off the statement by which the dump's own 'gosem.cut.vars' lays the variable. In a bare row this is a premise. The card (YtjmlidejbddoeaaDoorCards.lean) ties it to the program's text. -/
def laid_tapearchive_frame_magic {H : Type} : DataW H := .agg [.lit (.int .u8 167), .lit (.int .u8 60)]
def laid_tapearchive_label_upper {H : Type} : DataW H := .agg [.lit (.int .u8 65), .lit (.int .u8 90)]
def laid_tapearchive_label_lower {H : Type} : DataW H := .agg [.lit (.int .u8 97), .lit (.int .u8 122)]
def laid_tapearchive_label_digits {H : Type} : DataW H := .agg [.lit (.int .u8 48), .lit (.int .u8 57)]
def laid_tapearchive_label_hyphen {H : Type} : DataW H := .agg [.lit (.int .u8 45), .lit (.int .u8 45)]

/-- 'tapearchivelaw14.LabelBlocks': WHATEVER THE INPUT: true; the input reads as it did. -/
def labelBlocksSpec : ChangeSpec := { name := "labelBlocks", fn := fun _ => fun
  | [d1, d2] => { results := [.lit (.bool true)], args := [d1, d2] }
  | _ => none }
def labelBlocksRow : OpenClaim := { program := "ytjmlidejbddoeaadoor", sum := "ec9d5e5330ffb7f3662da4933ed516fc337ab48b7301469ffa84e65bf56fe519", func := "tapearchive/tapearchivelaw14.LabelBlocks", spec := "labelBlocks", unfollowed := true, recurses := true, named := ["tapearchive/label.upper", "tapearchive/label.digits", "tapearchive/label.lower", "tapearchive/label.hyphen", "tapearchive/frame.magic"], apart := false, laid := [("tapearchive/frame.magic", laid_tapearchive_frame_magic), ("tapearchive/label.upper", laid_tapearchive_label_upper), ("tapearchive/label.lower", laid_tapearchive_label_lower), ("tapearchive/label.digits", laid_tapearchive_label_digits), ("tapearchive/label.hyphen", laid_tapearchive_label_hyphen)] }
def LabelBlocksSaid : Prop := labelBlocksRow.holds Tryd.pinned (OpenSpec.ofChange labelBlocksSpec)

/-- ITS FALSE NEIGHBOUR: 'it returns false'. Refute it at one input. -/
def labelBlocksWrong : ChangeSpec := { name := "labelBlocks", fn := fun _ => fun
  | [d1, d2] => { results := [.lit (.bool false)], args := [d1, d2] }
  | _ => none }
def LabelBlocksWrongFalsely : Prop := labelBlocksRow.holds Tryd.pinned (OpenSpec.ofChange labelBlocksWrong)

/-- 'tapearchivelaw14.LabelParses': WHATEVER THE INPUT: true; the input reads as it did. -/
def labelParsesSpec : ChangeSpec := { name := "labelParses", fn := fun _ => fun
  | [d] => { results := [.lit (.bool true)], args := [d] }
  | _ => none }
def labelParsesRow : OpenClaim := { program := "ytjmlidejbddoeaadoor", sum := "ec9d5e5330ffb7f3662da4933ed516fc337ab48b7301469ffa84e65bf56fe519", func := "tapearchive/tapearchivelaw14.LabelParses", spec := "labelParses", unfollowed := true, recurses := true, named := ["tapearchive/label.upper", "tapearchive/label.digits", "tapearchive/label.lower", "tapearchive/label.hyphen", "tapearchive/frame.magic"], apart := false, laid := [("tapearchive/frame.magic", laid_tapearchive_frame_magic), ("tapearchive/label.upper", laid_tapearchive_label_upper), ("tapearchive/label.lower", laid_tapearchive_label_lower), ("tapearchive/label.digits", laid_tapearchive_label_digits), ("tapearchive/label.hyphen", laid_tapearchive_label_hyphen)] }
def LabelParsesSaid : Prop := labelParsesRow.holds Tryd.pinned (OpenSpec.ofChange labelParsesSpec)

/-- ITS FALSE NEIGHBOUR: 'it returns false'. Refute it at one input. -/
def labelParsesWrong : ChangeSpec := { name := "labelParses", fn := fun _ => fun
  | [d] => { results := [.lit (.bool false)], args := [d] }
  | _ => none }
def LabelParsesWrongFalsely : Prop := labelParsesRow.holds Tryd.pinned (OpenSpec.ofChange labelParsesWrong)

/-- 'tapearchivelaw14.LabelRoundTrip': WHATEVER THE INPUT: true; the input reads as it did. -/
def labelRoundTripSpec : ChangeSpec := { name := "labelRoundTrip", fn := fun _ => fun
  | [d1, d2] => { results := [.lit (.bool true)], args := [d1, d2] }
  | _ => none }
def labelRoundTripRow : OpenClaim := { program := "ytjmlidejbddoeaadoor", sum := "ec9d5e5330ffb7f3662da4933ed516fc337ab48b7301469ffa84e65bf56fe519", func := "tapearchive/tapearchivelaw14.LabelRoundTrip", spec := "labelRoundTrip", unfollowed := true, recurses := true, named := ["tapearchive/label.upper", "tapearchive/label.digits", "tapearchive/label.lower", "tapearchive/label.hyphen", "tapearchive/frame.magic"], apart := false, laid := [("tapearchive/frame.magic", laid_tapearchive_frame_magic), ("tapearchive/label.upper", laid_tapearchive_label_upper), ("tapearchive/label.lower", laid_tapearchive_label_lower), ("tapearchive/label.digits", laid_tapearchive_label_digits), ("tapearchive/label.hyphen", laid_tapearchive_label_hyphen)] }
def LabelRoundTripSaid : Prop := labelRoundTripRow.holds Tryd.pinned (OpenSpec.ofChange labelRoundTripSpec)

/-- ITS FALSE NEIGHBOUR: 'it returns false'. Refute it at one input. -/
def labelRoundTripWrong : ChangeSpec := { name := "labelRoundTrip", fn := fun _ => fun
  | [d1, d2] => { results := [.lit (.bool false)], args := [d1, d2] }
  | _ => none }
def LabelRoundTripWrongFalsely : Prop := labelRoundTripRow.holds Tryd.pinned (OpenSpec.ofChange labelRoundTripWrong)

/-- 'tapearchivelaw14.LabelOneForm': WHATEVER THE INPUT: true; the input reads as it did. -/
def labelOneFormSpec : ChangeSpec := { name := "labelOneForm", fn := fun _ => fun
  | [d] => { results := [.lit (.bool true)], args := [d] }
  | _ => none }
def labelOneFormRow : OpenClaim := { program := "ytjmlidejbddoeaadoor", sum := "ec9d5e5330ffb7f3662da4933ed516fc337ab48b7301469ffa84e65bf56fe519", func := "tapearchive/tapearchivelaw14.LabelOneForm", spec := "labelOneForm", unfollowed := true, recurses := true, named := ["tapearchive/label.upper", "tapearchive/label.digits", "tapearchive/label.lower", "tapearchive/label.hyphen", "tapearchive/frame.magic"], apart := false, laid := [("tapearchive/frame.magic", laid_tapearchive_frame_magic), ("tapearchive/label.upper", laid_tapearchive_label_upper), ("tapearchive/label.lower", laid_tapearchive_label_lower), ("tapearchive/label.digits", laid_tapearchive_label_digits), ("tapearchive/label.hyphen", laid_tapearchive_label_hyphen)] }
def LabelOneFormSaid : Prop := labelOneFormRow.holds Tryd.pinned (OpenSpec.ofChange labelOneFormSpec)

/-- ITS FALSE NEIGHBOUR: 'it returns false'. Refute it at one input. -/
def labelOneFormWrong : ChangeSpec := { name := "labelOneForm", fn := fun _ => fun
  | [d] => { results := [.lit (.bool false)], args := [d] }
  | _ => none }
def LabelOneFormWrongFalsely : Prop := labelOneFormRow.holds Tryd.pinned (OpenSpec.ofChange labelOneFormWrong)

/-- 'tapearchivelaw14.LabelDivides': WHATEVER THE INPUT: true; the input reads as it did. -/
def labelDividesSpec : ChangeSpec := { name := "labelDivides", fn := fun _ => fun
  | [d1, d2] => { results := [.lit (.bool true)], args := [d1, d2] }
  | _ => none }
def labelDividesRow : OpenClaim := { program := "ytjmlidejbddoeaadoor", sum := "ec9d5e5330ffb7f3662da4933ed516fc337ab48b7301469ffa84e65bf56fe519", func := "tapearchive/tapearchivelaw14.LabelDivides", spec := "labelDivides", unfollowed := true, recurses := true, named := ["tapearchive/label.upper", "tapearchive/label.digits", "tapearchive/label.lower", "tapearchive/label.hyphen", "tapearchive/frame.magic"], apart := false, laid := [("tapearchive/frame.magic", laid_tapearchive_frame_magic), ("tapearchive/label.upper", laid_tapearchive_label_upper), ("tapearchive/label.lower", laid_tapearchive_label_lower), ("tapearchive/label.digits", laid_tapearchive_label_digits), ("tapearchive/label.hyphen", laid_tapearchive_label_hyphen)] }
def LabelDividesSaid : Prop := labelDividesRow.holds Tryd.pinned (OpenSpec.ofChange labelDividesSpec)

/-- ITS FALSE NEIGHBOUR: 'it returns false'. Refute it at one input. -/
def labelDividesWrong : ChangeSpec := { name := "labelDivides", fn := fun _ => fun
  | [d1, d2] => { results := [.lit (.bool false)], args := [d1, d2] }
  | _ => none }
def LabelDividesWrongFalsely : Prop := labelDividesRow.holds Tryd.pinned (OpenSpec.ofChange labelDividesWrong)

/- THE SECOND FORM. 'bulk': how many values and letters a reading holds, each counted each time it is reached (what is shared counts as often as it is met; a slice's spare places count too). A statement '..UptoSaid' is the law's where the arguments, and the package variables that the reading takes, are together of bulk at most 1048576: NARROWER than '..Said'. Prove '..Said' where nothing that the law and all that it calls make is longer than what came in: it says more and counts as full. Else prove '..UptoSaid'. A law counts once. -/
mutual
def uptoBulk {H : Type} : DataW H → Nat
  | .lit (.string bytes) => bytes.length + 1
  | .lit _ => 1
  | .nil => 1
  | .ptr d => uptoBulk d + 1
  | .slice elems spare => uptoBulkAll elems + uptoBulkAll spare + 1
  | .agg parts => uptoBulkAll parts + 1
  | .iface _ d => uptoBulk d + 1
  | .map entries => uptoBulkEntries entries + 1
  | .held _ => 1
def uptoBulkAll {H : Type} : List (DataW H) → Nat
  | [] => 0
  | d :: r => uptoBulk d + uptoBulkAll r
def uptoBulkEntries {H : Type} : List (Lit × DataW H) → Nat
  | [] => 0
  | x :: r => uptoBulkEntry x + uptoBulkEntries r
def uptoBulkEntry {H : Type} : Lit × DataW H → Nat
  | (.string bytes, d) => bytes.length + uptoBulk d + 1
  | (_, d) => uptoBulk d + 1
 end
def uptoSmall : (H : Type) → List (DataW H) → Bool := fun _ ds => decide (uptoBulkAll ds ≤ 1048576)
def OpenSpec.upto (s : _root_.Go.ChangeSpec) : _root_.Go.OpenSpec := { _root_.Go.OpenSpec.ofChange s with cond := some uptoSmall }

/-- 'tapearchivelaw14.LabelBlocks', WHERE WHAT IT READS IS OF BULK AT MOST 1048576: true; the input reads as it did. -/
def labelBlocksUptoRow : OpenClaim := { program := "ytjmlidejbddoeaadoor", sum := "ec9d5e5330ffb7f3662da4933ed516fc337ab48b7301469ffa84e65bf56fe519", func := "tapearchive/tapearchivelaw14.LabelBlocks", spec := "labelBlocks", unfollowed := true, recurses := true, named := ["tapearchive/label.upper", "tapearchive/label.digits", "tapearchive/label.lower", "tapearchive/label.hyphen", "tapearchive/frame.magic"], apart := false, laid := [("tapearchive/frame.magic", laid_tapearchive_frame_magic), ("tapearchive/label.upper", laid_tapearchive_label_upper), ("tapearchive/label.lower", laid_tapearchive_label_lower), ("tapearchive/label.digits", laid_tapearchive_label_digits), ("tapearchive/label.hyphen", laid_tapearchive_label_hyphen)], narrowed := true }
def LabelBlocksUptoSaid : Prop := labelBlocksUptoRow.holds Tryd.pinned (OpenSpec.upto labelBlocksSpec)

/-- 'tapearchivelaw14.LabelParses', WHERE WHAT IT READS IS OF BULK AT MOST 1048576: true; the input reads as it did. -/
def labelParsesUptoRow : OpenClaim := { program := "ytjmlidejbddoeaadoor", sum := "ec9d5e5330ffb7f3662da4933ed516fc337ab48b7301469ffa84e65bf56fe519", func := "tapearchive/tapearchivelaw14.LabelParses", spec := "labelParses", unfollowed := true, recurses := true, named := ["tapearchive/label.upper", "tapearchive/label.digits", "tapearchive/label.lower", "tapearchive/label.hyphen", "tapearchive/frame.magic"], apart := false, laid := [("tapearchive/frame.magic", laid_tapearchive_frame_magic), ("tapearchive/label.upper", laid_tapearchive_label_upper), ("tapearchive/label.lower", laid_tapearchive_label_lower), ("tapearchive/label.digits", laid_tapearchive_label_digits), ("tapearchive/label.hyphen", laid_tapearchive_label_hyphen)], narrowed := true }
def LabelParsesUptoSaid : Prop := labelParsesUptoRow.holds Tryd.pinned (OpenSpec.upto labelParsesSpec)

/-- 'tapearchivelaw14.LabelRoundTrip', WHERE WHAT IT READS IS OF BULK AT MOST 1048576: true; the input reads as it did. -/
def labelRoundTripUptoRow : OpenClaim := { program := "ytjmlidejbddoeaadoor", sum := "ec9d5e5330ffb7f3662da4933ed516fc337ab48b7301469ffa84e65bf56fe519", func := "tapearchive/tapearchivelaw14.LabelRoundTrip", spec := "labelRoundTrip", unfollowed := true, recurses := true, named := ["tapearchive/label.upper", "tapearchive/label.digits", "tapearchive/label.lower", "tapearchive/label.hyphen", "tapearchive/frame.magic"], apart := false, laid := [("tapearchive/frame.magic", laid_tapearchive_frame_magic), ("tapearchive/label.upper", laid_tapearchive_label_upper), ("tapearchive/label.lower", laid_tapearchive_label_lower), ("tapearchive/label.digits", laid_tapearchive_label_digits), ("tapearchive/label.hyphen", laid_tapearchive_label_hyphen)], narrowed := true }
def LabelRoundTripUptoSaid : Prop := labelRoundTripUptoRow.holds Tryd.pinned (OpenSpec.upto labelRoundTripSpec)

/-- 'tapearchivelaw14.LabelOneForm', WHERE WHAT IT READS IS OF BULK AT MOST 1048576: true; the input reads as it did. -/
def labelOneFormUptoRow : OpenClaim := { program := "ytjmlidejbddoeaadoor", sum := "ec9d5e5330ffb7f3662da4933ed516fc337ab48b7301469ffa84e65bf56fe519", func := "tapearchive/tapearchivelaw14.LabelOneForm", spec := "labelOneForm", unfollowed := true, recurses := true, named := ["tapearchive/label.upper", "tapearchive/label.digits", "tapearchive/label.lower", "tapearchive/label.hyphen", "tapearchive/frame.magic"], apart := false, laid := [("tapearchive/frame.magic", laid_tapearchive_frame_magic), ("tapearchive/label.upper", laid_tapearchive_label_upper), ("tapearchive/label.lower", laid_tapearchive_label_lower), ("tapearchive/label.digits", laid_tapearchive_label_digits), ("tapearchive/label.hyphen", laid_tapearchive_label_hyphen)], narrowed := true }
def LabelOneFormUptoSaid : Prop := labelOneFormUptoRow.holds Tryd.pinned (OpenSpec.upto labelOneFormSpec)

/-- 'tapearchivelaw14.LabelDivides', WHERE WHAT IT READS IS OF BULK AT MOST 1048576: true; the input reads as it did. -/
def labelDividesUptoRow : OpenClaim := { program := "ytjmlidejbddoeaadoor", sum := "ec9d5e5330ffb7f3662da4933ed516fc337ab48b7301469ffa84e65bf56fe519", func := "tapearchive/tapearchivelaw14.LabelDivides", spec := "labelDivides", unfollowed := true, recurses := true, named := ["tapearchive/label.upper", "tapearchive/label.digits", "tapearchive/label.lower", "tapearchive/label.hyphen", "tapearchive/frame.magic"], apart := false, laid := [("tapearchive/frame.magic", laid_tapearchive_frame_magic), ("tapearchive/label.upper", laid_tapearchive_label_upper), ("tapearchive/label.lower", laid_tapearchive_label_lower), ("tapearchive/label.digits", laid_tapearchive_label_digits), ("tapearchive/label.hyphen", laid_tapearchive_label_hyphen)], narrowed := true }
def LabelDividesUptoSaid : Prop := labelDividesUptoRow.holds Tryd.pinned (OpenSpec.upto labelDividesSpec)

end Rows
end Go.Proofs.YtjmlidejbddoeaaDoor
