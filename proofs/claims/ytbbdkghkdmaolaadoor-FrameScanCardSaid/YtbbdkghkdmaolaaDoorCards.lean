/-
  DERIVED. GIVEN WITH THE SEED: THE CARDS: each row of YtbbdkghkdmaolaaDoorRows.lean that lists a variable, with what it lists TIED to the program's text (the seventh form; the later family's looks); each row that meets fmt, with fmt's text TOLD by the authors' own Lean function (tested against real Go, not proved from fmt's source: count such statements apart). THE CARD IS WHAT COUNTS. Prove the row's statement (the work); the ties are given (YtbbdkghkdmaolaaDoorTie.lean); close each card by the builder's one call (the guide's Derived/Test/ToyasCard.lean, 'card_holds'). Laid BY PROGRAM, IN A SANDBOX (cutbox-door.mjs). By AI agents, Wed Nov 11 2026. No macro, syntax, notation, axiom, sorry.
-/
import Derived.Test.YtbbdkghkdmaolaaDoorRows
import GoSem.ClaimSeven
namespace Go.Proofs.YtbbdkghkdmaolaaDoor
namespace Rows

/-- THE TIED CARD OF 'tapearchivelaw03.FrameAppends'. -/
def frameAppendsCard : Claim7 := { stood := { row := frameAppendsRow, standIns := [], harness := (true, "7f8e85c5a8c02f15805f3d199ad85c7df4e9e0d8f9af698e0310c81601b2b595"), looks := false }, kinds := [], alts := [], laidByText := true, laidKinds := [.data], laidTests := true, laidLooks := .later }
def FrameAppendsCardSaid : Prop := Claim7.holds Tryd.pinned (.plain (OpenSpec.ofChange frameAppendsSpec)) frameAppendsCard

/-- THE TIED CARD OF 'tapearchivelaw03.FrameNexts'. -/
def frameNextsCard : Claim7 := { stood := { row := frameNextsRow, standIns := [], harness := (true, "7f8e85c5a8c02f15805f3d199ad85c7df4e9e0d8f9af698e0310c81601b2b595"), looks := false }, kinds := [], alts := [], laidByText := true, laidKinds := [.data], laidTests := true, laidLooks := .later }
def FrameNextsCardSaid : Prop := Claim7.holds Tryd.pinned (.plain (OpenSpec.ofChange frameNextsSpec)) frameNextsCard

/-- THE TIED CARD OF 'tapearchivelaw03.FrameFinds'. -/
def frameFindsCard : Claim7 := { stood := { row := frameFindsRow, standIns := [], harness := (true, "7f8e85c5a8c02f15805f3d199ad85c7df4e9e0d8f9af698e0310c81601b2b595"), looks := false }, kinds := [], alts := [], laidByText := true, laidKinds := [.data], laidTests := true, laidLooks := .later }
def FrameFindsCardSaid : Prop := Claim7.holds Tryd.pinned (.plain (OpenSpec.ofChange frameFindsSpec)) frameFindsCard

/-- THE TIED CARD OF 'tapearchivelaw03.FrameScan'. -/
def frameScanCard : Claim7 := { stood := { row := frameScanRow, standIns := [], harness := (true, "7f8e85c5a8c02f15805f3d199ad85c7df4e9e0d8f9af698e0310c81601b2b595"), looks := false }, kinds := [], alts := [], laidByText := true, laidKinds := [.data], laidTests := true, laidLooks := .later }
def FrameScanCardSaid : Prop := Claim7.holds Tryd.pinned (.plain (OpenSpec.ofChange frameScanSpec)) frameScanCard

/-- THE TIED CARD OF 'tapearchivelaw03.FrameDetects'. -/
def frameDetectsCard : Claim7 := { stood := { row := frameDetectsRow, standIns := [], harness := (true, "7f8e85c5a8c02f15805f3d199ad85c7df4e9e0d8f9af698e0310c81601b2b595"), looks := false }, kinds := [], alts := [], laidByText := true, laidKinds := [.data], laidTests := true, laidLooks := .later }
def FrameDetectsCardSaid : Prop := Claim7.holds Tryd.pinned (.plain (OpenSpec.ofChange frameDetectsSpec)) frameDetectsCard

/-- THE TIED CARD OF 'tapearchivelaw03.FramePrefix'. -/
def framePrefixCard : Claim7 := { stood := { row := framePrefixRow, standIns := [], harness := (true, "7f8e85c5a8c02f15805f3d199ad85c7df4e9e0d8f9af698e0310c81601b2b595"), looks := false }, kinds := [], alts := [], laidByText := true, laidKinds := [.data], laidTests := true, laidLooks := .later }
def FramePrefixCardSaid : Prop := Claim7.holds Tryd.pinned (.plain (OpenSpec.ofChange framePrefixSpec)) framePrefixCard

/-- THE SECOND FORM's CARD OF 'tapearchivelaw03.FrameAppends'. -/
def frameAppendsUptoCard : Claim7 := { stood := { row := frameAppendsUptoRow, standIns := [], harness := (true, "7f8e85c5a8c02f15805f3d199ad85c7df4e9e0d8f9af698e0310c81601b2b595"), looks := false }, kinds := [], alts := [], laidByText := true, laidKinds := [.data], laidTests := true, laidLooks := .later }
def FrameAppendsUptoCardSaid : Prop := Claim7.holds Tryd.pinned (.plain (OpenSpec.upto frameAppendsSpec)) frameAppendsUptoCard

/-- THE SECOND FORM's CARD OF 'tapearchivelaw03.FrameNexts'. -/
def frameNextsUptoCard : Claim7 := { stood := { row := frameNextsUptoRow, standIns := [], harness := (true, "7f8e85c5a8c02f15805f3d199ad85c7df4e9e0d8f9af698e0310c81601b2b595"), looks := false }, kinds := [], alts := [], laidByText := true, laidKinds := [.data], laidTests := true, laidLooks := .later }
def FrameNextsUptoCardSaid : Prop := Claim7.holds Tryd.pinned (.plain (OpenSpec.upto frameNextsSpec)) frameNextsUptoCard

/-- THE SECOND FORM's CARD OF 'tapearchivelaw03.FrameFinds'. -/
def frameFindsUptoCard : Claim7 := { stood := { row := frameFindsUptoRow, standIns := [], harness := (true, "7f8e85c5a8c02f15805f3d199ad85c7df4e9e0d8f9af698e0310c81601b2b595"), looks := false }, kinds := [], alts := [], laidByText := true, laidKinds := [.data], laidTests := true, laidLooks := .later }
def FrameFindsUptoCardSaid : Prop := Claim7.holds Tryd.pinned (.plain (OpenSpec.upto frameFindsSpec)) frameFindsUptoCard

/-- THE SECOND FORM's CARD OF 'tapearchivelaw03.FrameScan'. -/
def frameScanUptoCard : Claim7 := { stood := { row := frameScanUptoRow, standIns := [], harness := (true, "7f8e85c5a8c02f15805f3d199ad85c7df4e9e0d8f9af698e0310c81601b2b595"), looks := false }, kinds := [], alts := [], laidByText := true, laidKinds := [.data], laidTests := true, laidLooks := .later }
def FrameScanUptoCardSaid : Prop := Claim7.holds Tryd.pinned (.plain (OpenSpec.upto frameScanSpec)) frameScanUptoCard

/-- THE SECOND FORM's CARD OF 'tapearchivelaw03.FrameDetects'. -/
def frameDetectsUptoCard : Claim7 := { stood := { row := frameDetectsUptoRow, standIns := [], harness := (true, "7f8e85c5a8c02f15805f3d199ad85c7df4e9e0d8f9af698e0310c81601b2b595"), looks := false }, kinds := [], alts := [], laidByText := true, laidKinds := [.data], laidTests := true, laidLooks := .later }
def FrameDetectsUptoCardSaid : Prop := Claim7.holds Tryd.pinned (.plain (OpenSpec.upto frameDetectsSpec)) frameDetectsUptoCard

/-- THE SECOND FORM's CARD OF 'tapearchivelaw03.FramePrefix'. -/
def framePrefixUptoCard : Claim7 := { stood := { row := framePrefixUptoRow, standIns := [], harness := (true, "7f8e85c5a8c02f15805f3d199ad85c7df4e9e0d8f9af698e0310c81601b2b595"), looks := false }, kinds := [], alts := [], laidByText := true, laidKinds := [.data], laidTests := true, laidLooks := .later }
def FramePrefixUptoCardSaid : Prop := Claim7.holds Tryd.pinned (.plain (OpenSpec.upto framePrefixSpec)) framePrefixUptoCard
end Rows
end Go.Proofs.YtbbdkghkdmaolaaDoor
