/-
  DERIVED. GIVEN WITH THE SEED: THE CARDS: each row of YtjmlidejbddoeaaDoorRows.lean that lists a variable, with what it lists TIED to the program's text (the seventh form; the later family's looks); each row that meets fmt, with fmt's text TOLD by the authors' own Lean function (tested against real Go, not proved from fmt's source: count such statements apart). THE CARD IS WHAT COUNTS. Prove the row's statement (the work); the ties are given (YtjmlidejbddoeaaDoorTie.lean); close each card by the builder's one call (the guide's Derived/Test/ToyasCard.lean, 'card_holds'). Laid BY PROGRAM, IN A SANDBOX (cutbox-door.mjs). By AI agents, Wed Nov 11 2026. No macro, syntax, notation, axiom, sorry.
-/
import Derived.Test.YtjmlidejbddoeaaDoorRows
import GoSem.ClaimSeven
namespace Go.Proofs.YtjmlidejbddoeaaDoor
namespace Rows

/-- THE TIED CARD OF 'tapearchivelaw14.LabelBlocks'. -/
def labelBlocksCard : Claim7 := { stood := { row := labelBlocksRow, standIns := [], harness := (true, "86e6a33bc5ef11366747b8f2fd85894f83310e4a152d10e0e62a3a6d5b1ce0c1"), looks := false }, kinds := [], alts := [], laidByText := true, laidKinds := [.data, .data, .data, .data, .data], laidTests := true, laidLooks := .later }
def LabelBlocksCardSaid : Prop := Claim7.holds Tryd.pinned (.plain (OpenSpec.ofChange labelBlocksSpec)) labelBlocksCard

/-- THE TIED CARD OF 'tapearchivelaw14.LabelParses'. -/
def labelParsesCard : Claim7 := { stood := { row := labelParsesRow, standIns := [], harness := (true, "86e6a33bc5ef11366747b8f2fd85894f83310e4a152d10e0e62a3a6d5b1ce0c1"), looks := false }, kinds := [], alts := [], laidByText := true, laidKinds := [.data, .data, .data, .data, .data], laidTests := true, laidLooks := .later }
def LabelParsesCardSaid : Prop := Claim7.holds Tryd.pinned (.plain (OpenSpec.ofChange labelParsesSpec)) labelParsesCard

/-- THE TIED CARD OF 'tapearchivelaw14.LabelRoundTrip'. -/
def labelRoundTripCard : Claim7 := { stood := { row := labelRoundTripRow, standIns := [], harness := (true, "86e6a33bc5ef11366747b8f2fd85894f83310e4a152d10e0e62a3a6d5b1ce0c1"), looks := false }, kinds := [], alts := [], laidByText := true, laidKinds := [.data, .data, .data, .data, .data], laidTests := true, laidLooks := .later }
def LabelRoundTripCardSaid : Prop := Claim7.holds Tryd.pinned (.plain (OpenSpec.ofChange labelRoundTripSpec)) labelRoundTripCard

/-- THE TIED CARD OF 'tapearchivelaw14.LabelOneForm'. -/
def labelOneFormCard : Claim7 := { stood := { row := labelOneFormRow, standIns := [], harness := (true, "86e6a33bc5ef11366747b8f2fd85894f83310e4a152d10e0e62a3a6d5b1ce0c1"), looks := false }, kinds := [], alts := [], laidByText := true, laidKinds := [.data, .data, .data, .data, .data], laidTests := true, laidLooks := .later }
def LabelOneFormCardSaid : Prop := Claim7.holds Tryd.pinned (.plain (OpenSpec.ofChange labelOneFormSpec)) labelOneFormCard

/-- THE TIED CARD OF 'tapearchivelaw14.LabelDivides'. -/
def labelDividesCard : Claim7 := { stood := { row := labelDividesRow, standIns := [], harness := (true, "86e6a33bc5ef11366747b8f2fd85894f83310e4a152d10e0e62a3a6d5b1ce0c1"), looks := false }, kinds := [], alts := [], laidByText := true, laidKinds := [.data, .data, .data, .data, .data], laidTests := true, laidLooks := .later }
def LabelDividesCardSaid : Prop := Claim7.holds Tryd.pinned (.plain (OpenSpec.ofChange labelDividesSpec)) labelDividesCard

/-- THE SECOND FORM's CARD OF 'tapearchivelaw14.LabelBlocks'. -/
def labelBlocksUptoCard : Claim7 := { stood := { row := labelBlocksUptoRow, standIns := [], harness := (true, "86e6a33bc5ef11366747b8f2fd85894f83310e4a152d10e0e62a3a6d5b1ce0c1"), looks := false }, kinds := [], alts := [], laidByText := true, laidKinds := [.data, .data, .data, .data, .data], laidTests := true, laidLooks := .later }
def LabelBlocksUptoCardSaid : Prop := Claim7.holds Tryd.pinned (.plain (OpenSpec.upto labelBlocksSpec)) labelBlocksUptoCard

/-- THE SECOND FORM's CARD OF 'tapearchivelaw14.LabelParses'. -/
def labelParsesUptoCard : Claim7 := { stood := { row := labelParsesUptoRow, standIns := [], harness := (true, "86e6a33bc5ef11366747b8f2fd85894f83310e4a152d10e0e62a3a6d5b1ce0c1"), looks := false }, kinds := [], alts := [], laidByText := true, laidKinds := [.data, .data, .data, .data, .data], laidTests := true, laidLooks := .later }
def LabelParsesUptoCardSaid : Prop := Claim7.holds Tryd.pinned (.plain (OpenSpec.upto labelParsesSpec)) labelParsesUptoCard

/-- THE SECOND FORM's CARD OF 'tapearchivelaw14.LabelRoundTrip'. -/
def labelRoundTripUptoCard : Claim7 := { stood := { row := labelRoundTripUptoRow, standIns := [], harness := (true, "86e6a33bc5ef11366747b8f2fd85894f83310e4a152d10e0e62a3a6d5b1ce0c1"), looks := false }, kinds := [], alts := [], laidByText := true, laidKinds := [.data, .data, .data, .data, .data], laidTests := true, laidLooks := .later }
def LabelRoundTripUptoCardSaid : Prop := Claim7.holds Tryd.pinned (.plain (OpenSpec.upto labelRoundTripSpec)) labelRoundTripUptoCard

/-- THE SECOND FORM's CARD OF 'tapearchivelaw14.LabelOneForm'. -/
def labelOneFormUptoCard : Claim7 := { stood := { row := labelOneFormUptoRow, standIns := [], harness := (true, "86e6a33bc5ef11366747b8f2fd85894f83310e4a152d10e0e62a3a6d5b1ce0c1"), looks := false }, kinds := [], alts := [], laidByText := true, laidKinds := [.data, .data, .data, .data, .data], laidTests := true, laidLooks := .later }
def LabelOneFormUptoCardSaid : Prop := Claim7.holds Tryd.pinned (.plain (OpenSpec.upto labelOneFormSpec)) labelOneFormUptoCard

/-- THE SECOND FORM's CARD OF 'tapearchivelaw14.LabelDivides'. -/
def labelDividesUptoCard : Claim7 := { stood := { row := labelDividesUptoRow, standIns := [], harness := (true, "86e6a33bc5ef11366747b8f2fd85894f83310e4a152d10e0e62a3a6d5b1ce0c1"), looks := false }, kinds := [], alts := [], laidByText := true, laidKinds := [.data, .data, .data, .data, .data], laidTests := true, laidLooks := .later }
def LabelDividesUptoCardSaid : Prop := Claim7.holds Tryd.pinned (.plain (OpenSpec.upto labelDividesSpec)) labelDividesUptoCard
end Rows
end Go.Proofs.YtjmlidejbddoeaaDoor
