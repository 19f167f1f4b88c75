/-
  DERIVED. GIVEN WITH THE SEED: THE CARDS: each row of YtjiijjdmkeeilaaDoorRows.lean that lists a variable, with what it lists TIED to the program's text (the seventh form; the later family's looks); each row that meets fmt, with fmt's text TOLD by the authors' own Lean function (tested against real Go, not proved from fmt's source: count such statements apart). THE CARD IS WHAT COUNTS. Prove the row's statement (the work); the ties are given (YtjiijjdmkeeilaaDoorTie.lean); close each card by the builder's one call (the guide's Derived/Test/ToyasCard.lean, 'card_holds'). Laid BY PROGRAM, IN A SANDBOX (cutbox-door.mjs). By AI agents, Wed Nov 11 2026. No macro, syntax, notation, axiom, sorry.
-/
import Derived.Test.YtjiijjdmkeeilaaDoorRows
import GoSem.ClaimSeven
namespace Go.Proofs.YtjiijjdmkeeilaaDoor
namespace Rows

/-- THE TIED CARD OF 'tapearchivelaw15.ContainerBuilds'. -/
def containerBuildsCard : Claim7 := { stood := { row := containerBuildsRow, standIns := [], harness := (true, "eff0a5dc041dfaca25e155ba9328827adcb44fe65397739067a439959bac06c3"), looks := false }, kinds := [], alts := [], laidByText := true, laidKinds := [.data], laidTests := true, laidLooks := .later }
def ContainerBuildsCardSaid : Prop := Claim7.holds Tryd.pinned (.plain (OpenSpec.ofChange containerBuildsSpec)) containerBuildsCard

/-- THE TIED CARD OF 'tapearchivelaw15.ContainerReads'. -/
def containerReadsCard : Claim7 := { stood := { row := containerReadsRow, standIns := [], harness := (true, "eff0a5dc041dfaca25e155ba9328827adcb44fe65397739067a439959bac06c3"), looks := false }, kinds := [], alts := [], laidByText := true, laidKinds := [.data], laidTests := true, laidLooks := .later }
def ContainerReadsCardSaid : Prop := Claim7.holds Tryd.pinned (.plain (OpenSpec.ofChange containerReadsSpec)) containerReadsCard

/-- THE TIED CARD OF 'tapearchivelaw15.ContainerNeeds'. -/
def containerNeedsCard : Claim7 := { stood := { row := containerNeedsRow, standIns := [], harness := (true, "eff0a5dc041dfaca25e155ba9328827adcb44fe65397739067a439959bac06c3"), looks := false }, kinds := [], alts := [], laidByText := true, laidKinds := [.data], laidTests := true, laidLooks := .later }
def ContainerNeedsCardSaid : Prop := Claim7.holds Tryd.pinned (.plain (OpenSpec.ofChange containerNeedsSpec)) containerNeedsCard

/-- THE TIED CARD OF 'tapearchivelaw15.ContainerRoundTrip'. -/
def containerRoundTripCard : Claim7 := { stood := { row := containerRoundTripRow, standIns := [], harness := (true, "eff0a5dc041dfaca25e155ba9328827adcb44fe65397739067a439959bac06c3"), looks := false }, kinds := [], alts := [], laidByText := true, laidKinds := [.data], laidTests := true, laidLooks := .later }
def ContainerRoundTripCardSaid : Prop := Claim7.holds Tryd.pinned (.plain (OpenSpec.ofChange containerRoundTripSpec)) containerRoundTripCard

/-- THE TIED CARD OF 'tapearchivelaw15.ContainerExtracts'. -/
def containerExtractsCard : Claim7 := { stood := { row := containerExtractsRow, standIns := [], harness := (true, "eff0a5dc041dfaca25e155ba9328827adcb44fe65397739067a439959bac06c3"), looks := false }, kinds := [], alts := [], laidByText := true, laidKinds := [.data], laidTests := true, laidLooks := .later }
def ContainerExtractsCardSaid : Prop := Claim7.holds Tryd.pinned (.plain (OpenSpec.ofChange containerExtractsSpec)) containerExtractsCard

/-- THE TIED CARD OF 'tapearchivelaw15.ContainerDetects'. -/
def containerDetectsCard : Claim7 := { stood := { row := containerDetectsRow, standIns := [], harness := (true, "eff0a5dc041dfaca25e155ba9328827adcb44fe65397739067a439959bac06c3"), looks := false }, kinds := [], alts := [], laidByText := true, laidKinds := [.data], laidTests := true, laidLooks := .later }
def ContainerDetectsCardSaid : Prop := Claim7.holds Tryd.pinned (.plain (OpenSpec.ofChange containerDetectsSpec)) containerDetectsCard

/-- THE SECOND FORM's CARD OF 'tapearchivelaw15.ContainerBuilds'. -/
def containerBuildsUptoCard : Claim7 := { stood := { row := containerBuildsUptoRow, standIns := [], harness := (true, "eff0a5dc041dfaca25e155ba9328827adcb44fe65397739067a439959bac06c3"), looks := false }, kinds := [], alts := [], laidByText := true, laidKinds := [.data], laidTests := true, laidLooks := .later }
def ContainerBuildsUptoCardSaid : Prop := Claim7.holds Tryd.pinned (.plain (OpenSpec.upto containerBuildsSpec)) containerBuildsUptoCard

/-- THE SECOND FORM's CARD OF 'tapearchivelaw15.ContainerReads'. -/
def containerReadsUptoCard : Claim7 := { stood := { row := containerReadsUptoRow, standIns := [], harness := (true, "eff0a5dc041dfaca25e155ba9328827adcb44fe65397739067a439959bac06c3"), looks := false }, kinds := [], alts := [], laidByText := true, laidKinds := [.data], laidTests := true, laidLooks := .later }
def ContainerReadsUptoCardSaid : Prop := Claim7.holds Tryd.pinned (.plain (OpenSpec.upto containerReadsSpec)) containerReadsUptoCard

/-- THE SECOND FORM's CARD OF 'tapearchivelaw15.ContainerNeeds'. -/
def containerNeedsUptoCard : Claim7 := { stood := { row := containerNeedsUptoRow, standIns := [], harness := (true, "eff0a5dc041dfaca25e155ba9328827adcb44fe65397739067a439959bac06c3"), looks := false }, kinds := [], alts := [], laidByText := true, laidKinds := [.data], laidTests := true, laidLooks := .later }
def ContainerNeedsUptoCardSaid : Prop := Claim7.holds Tryd.pinned (.plain (OpenSpec.upto containerNeedsSpec)) containerNeedsUptoCard

/-- THE SECOND FORM's CARD OF 'tapearchivelaw15.ContainerRoundTrip'. -/
def containerRoundTripUptoCard : Claim7 := { stood := { row := containerRoundTripUptoRow, standIns := [], harness := (true, "eff0a5dc041dfaca25e155ba9328827adcb44fe65397739067a439959bac06c3"), looks := false }, kinds := [], alts := [], laidByText := true, laidKinds := [.data], laidTests := true, laidLooks := .later }
def ContainerRoundTripUptoCardSaid : Prop := Claim7.holds Tryd.pinned (.plain (OpenSpec.upto containerRoundTripSpec)) containerRoundTripUptoCard

/-- THE SECOND FORM's CARD OF 'tapearchivelaw15.ContainerExtracts'. -/
def containerExtractsUptoCard : Claim7 := { stood := { row := containerExtractsUptoRow, standIns := [], harness := (true, "eff0a5dc041dfaca25e155ba9328827adcb44fe65397739067a439959bac06c3"), looks := false }, kinds := [], alts := [], laidByText := true, laidKinds := [.data], laidTests := true, laidLooks := .later }
def ContainerExtractsUptoCardSaid : Prop := Claim7.holds Tryd.pinned (.plain (OpenSpec.upto containerExtractsSpec)) containerExtractsUptoCard

/-- THE SECOND FORM's CARD OF 'tapearchivelaw15.ContainerDetects'. -/
def containerDetectsUptoCard : Claim7 := { stood := { row := containerDetectsUptoRow, standIns := [], harness := (true, "eff0a5dc041dfaca25e155ba9328827adcb44fe65397739067a439959bac06c3"), looks := false }, kinds := [], alts := [], laidByText := true, laidKinds := [.data], laidTests := true, laidLooks := .later }
def ContainerDetectsUptoCardSaid : Prop := Claim7.holds Tryd.pinned (.plain (OpenSpec.upto containerDetectsSpec)) containerDetectsUptoCard
end Rows
end Go.Proofs.YtjiijjdmkeeilaaDoor
