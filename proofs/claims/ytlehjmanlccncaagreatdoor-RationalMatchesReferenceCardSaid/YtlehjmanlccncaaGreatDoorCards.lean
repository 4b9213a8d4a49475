/-
  DERIVED. GIVEN WITH THE SEED: THE CARDS: each row of YtlehjmanlccncaaGreatDoorRows.lean that lists a variable, with what it lists TIED to the program's text (the seventh form; the later family's looks); each row that meets fmt, with fmt's text TOLD by the authors' own Lean function (tested against real Go, not proved from fmt's source: count such statements apart). THE CARD IS WHAT COUNTS. Prove the row's statement (the work); the ties are given (YtlehjmanlccncaaGreatDoorTie.lean); close each card by the builder's one call (the guide's Derived/Test/ToyasCard.lean, 'card_holds'). Laid BY PROGRAM, IN A SANDBOX (cutbox-door.mjs). By AI agents, Wed Nov 11 2026. No macro, syntax, notation, axiom, sorry.
-/
import Derived.Test.YtlehjmanlccncaaGreatDoorRows
import GoSem.ClaimSeven
namespace Go.Proofs.YtlehjmanlccncaaGreatDoor
namespace Rows

/-- THE TIED CARD OF 'newswirelaw04.RationalMatchesReference'. -/
def rationalMatchesReferenceCard : Claim7 := { stood := { row := rationalMatchesReferenceRow, standIns := [], harness := (true, "b779b26d8f9c5a37a81f74ae8101e1c0575e3a8855bff54bea75f9cadd201097"), looks := false }, kinds := [], alts := [], laidByText := true, laidKinds := [.data, .data, .data], laidTests := true, laidLooks := .later }
def RationalMatchesReferenceCardSaid : Prop := Claim7.holds Tryz.pinned (.plain (OpenSpec.ofChange rationalMatchesReferenceSpec)) rationalMatchesReferenceCard

/-- THE TIED CARD OF 'newswirelaw04.RationalTextMatchesReference'. -/
def rationalTextMatchesReferenceCard : Claim7 := { stood := { row := rationalTextMatchesReferenceRow, standIns := [], harness := (true, "b779b26d8f9c5a37a81f74ae8101e1c0575e3a8855bff54bea75f9cadd201097"), looks := false }, kinds := [], alts := [], laidByText := true, laidKinds := [.data, .data, .data], laidTests := true, laidLooks := .later }
def RationalTextMatchesReferenceCardSaid : Prop := Claim7.holds Tryz.pinned (.plain (OpenSpec.ofChange rationalTextMatchesReferenceSpec)) rationalTextMatchesReferenceCard

/-- THE TIED CARD OF 'newswirelaw04.RationalMachine'. -/
def rationalMachineCard : Claim7 := { stood := { row := rationalMachineRow, standIns := [], harness := (true, "b779b26d8f9c5a37a81f74ae8101e1c0575e3a8855bff54bea75f9cadd201097"), looks := false }, kinds := [], alts := [], laidByText := true, laidKinds := [.data, .data, .data], laidTests := true, laidLooks := .later }
def RationalMachineCardSaid : Prop := Claim7.holds Tryz.pinned (.plain (OpenSpec.ofChange rationalMachineSpec)) rationalMachineCard

/-- THE TIED CARD OF 'newswirelaw04.RationalField'. -/
def rationalFieldCard : Claim7 := { stood := { row := rationalFieldRow, standIns := [], harness := (true, "b779b26d8f9c5a37a81f74ae8101e1c0575e3a8855bff54bea75f9cadd201097"), looks := false }, kinds := [], alts := [], laidByText := true, laidKinds := [.data, .data, .data], laidTests := true, laidLooks := .later }
def RationalFieldCardSaid : Prop := Claim7.holds Tryz.pinned (.plain (OpenSpec.ofChange rationalFieldSpec)) rationalFieldCard

/-- THE TIED CARD OF 'newswirelaw04.RationalOrder'. -/
def rationalOrderCard : Claim7 := { stood := { row := rationalOrderRow, standIns := [], harness := (true, "b779b26d8f9c5a37a81f74ae8101e1c0575e3a8855bff54bea75f9cadd201097"), looks := false }, kinds := [], alts := [], laidByText := true, laidKinds := [.data, .data, .data], laidTests := true, laidLooks := .later }
def RationalOrderCardSaid : Prop := Claim7.holds Tryz.pinned (.plain (OpenSpec.ofChange rationalOrderSpec)) rationalOrderCard

/-- THE TIED CARD OF 'newswirelaw04.RationalGrid'. -/
def rationalGridCard : Claim7 := { stood := { row := rationalGridRow, standIns := [], harness := (true, "b779b26d8f9c5a37a81f74ae8101e1c0575e3a8855bff54bea75f9cadd201097"), looks := false }, kinds := [], alts := [], laidByText := true, laidKinds := [.data, .data, .data], laidTests := true, laidLooks := .later }
def RationalGridCardSaid : Prop := Claim7.holds Tryz.pinned (.plain (OpenSpec.ofChange rationalGridSpec)) rationalGridCard

/-- THE TIED CARD OF 'newswirelaw04.RationalLowest'. -/
def rationalLowestCard : Claim7 := { stood := { row := rationalLowestRow, standIns := [], harness := (true, "b779b26d8f9c5a37a81f74ae8101e1c0575e3a8855bff54bea75f9cadd201097"), looks := false }, kinds := [], alts := [], laidByText := true, laidKinds := [.data, .data, .data], laidTests := true, laidLooks := .later }
def RationalLowestCardSaid : Prop := Claim7.holds Tryz.pinned (.plain (OpenSpec.ofChange rationalLowestSpec)) rationalLowestCard

/-- THE TIED CARD OF 'newswirelaw04.RationalLimits'. -/
def rationalLimitsCard : Claim7 := { stood := { row := rationalLimitsRow, standIns := [], harness := (true, "b779b26d8f9c5a37a81f74ae8101e1c0575e3a8855bff54bea75f9cadd201097"), looks := false }, kinds := [], alts := [], laidByText := true, laidKinds := [.data, .data, .data], laidTests := true, laidLooks := .later }
def RationalLimitsCardSaid : Prop := Claim7.holds Tryz.pinned (.plain (OpenSpec.ofChange rationalLimitsSpec)) rationalLimitsCard

/-- THE SECOND FORM's CARD OF 'newswirelaw04.RationalMatchesReference'. -/
def rationalMatchesReferenceUptoCard : Claim7 := { stood := { row := rationalMatchesReferenceUptoRow, standIns := [], harness := (true, "b779b26d8f9c5a37a81f74ae8101e1c0575e3a8855bff54bea75f9cadd201097"), looks := false }, kinds := [], alts := [], laidByText := true, laidKinds := [.data, .data, .data], laidTests := true, laidLooks := .later }
def RationalMatchesReferenceUptoCardSaid : Prop := Claim7.holds Tryz.pinned (.plain (OpenSpec.upto rationalMatchesReferenceSpec)) rationalMatchesReferenceUptoCard

/-- THE SECOND FORM's CARD OF 'newswirelaw04.RationalTextMatchesReference'. -/
def rationalTextMatchesReferenceUptoCard : Claim7 := { stood := { row := rationalTextMatchesReferenceUptoRow, standIns := [], harness := (true, "b779b26d8f9c5a37a81f74ae8101e1c0575e3a8855bff54bea75f9cadd201097"), looks := false }, kinds := [], alts := [], laidByText := true, laidKinds := [.data, .data, .data], laidTests := true, laidLooks := .later }
def RationalTextMatchesReferenceUptoCardSaid : Prop := Claim7.holds Tryz.pinned (.plain (OpenSpec.upto rationalTextMatchesReferenceSpec)) rationalTextMatchesReferenceUptoCard

/-- THE SECOND FORM's CARD OF 'newswirelaw04.RationalMachine'. -/
def rationalMachineUptoCard : Claim7 := { stood := { row := rationalMachineUptoRow, standIns := [], harness := (true, "b779b26d8f9c5a37a81f74ae8101e1c0575e3a8855bff54bea75f9cadd201097"), looks := false }, kinds := [], alts := [], laidByText := true, laidKinds := [.data, .data, .data], laidTests := true, laidLooks := .later }
def RationalMachineUptoCardSaid : Prop := Claim7.holds Tryz.pinned (.plain (OpenSpec.upto rationalMachineSpec)) rationalMachineUptoCard

/-- THE SECOND FORM's CARD OF 'newswirelaw04.RationalField'. -/
def rationalFieldUptoCard : Claim7 := { stood := { row := rationalFieldUptoRow, standIns := [], harness := (true, "b779b26d8f9c5a37a81f74ae8101e1c0575e3a8855bff54bea75f9cadd201097"), looks := false }, kinds := [], alts := [], laidByText := true, laidKinds := [.data, .data, .data], laidTests := true, laidLooks := .later }
def RationalFieldUptoCardSaid : Prop := Claim7.holds Tryz.pinned (.plain (OpenSpec.upto rationalFieldSpec)) rationalFieldUptoCard

/-- THE SECOND FORM's CARD OF 'newswirelaw04.RationalOrder'. -/
def rationalOrderUptoCard : Claim7 := { stood := { row := rationalOrderUptoRow, standIns := [], harness := (true, "b779b26d8f9c5a37a81f74ae8101e1c0575e3a8855bff54bea75f9cadd201097"), looks := false }, kinds := [], alts := [], laidByText := true, laidKinds := [.data, .data, .data], laidTests := true, laidLooks := .later }
def RationalOrderUptoCardSaid : Prop := Claim7.holds Tryz.pinned (.plain (OpenSpec.upto rationalOrderSpec)) rationalOrderUptoCard

/-- THE SECOND FORM's CARD OF 'newswirelaw04.RationalGrid'. -/
def rationalGridUptoCard : Claim7 := { stood := { row := rationalGridUptoRow, standIns := [], harness := (true, "b779b26d8f9c5a37a81f74ae8101e1c0575e3a8855bff54bea75f9cadd201097"), looks := false }, kinds := [], alts := [], laidByText := true, laidKinds := [.data, .data, .data], laidTests := true, laidLooks := .later }
def RationalGridUptoCardSaid : Prop := Claim7.holds Tryz.pinned (.plain (OpenSpec.upto rationalGridSpec)) rationalGridUptoCard

/-- THE SECOND FORM's CARD OF 'newswirelaw04.RationalLowest'. -/
def rationalLowestUptoCard : Claim7 := { stood := { row := rationalLowestUptoRow, standIns := [], harness := (true, "b779b26d8f9c5a37a81f74ae8101e1c0575e3a8855bff54bea75f9cadd201097"), looks := false }, kinds := [], alts := [], laidByText := true, laidKinds := [.data, .data, .data], laidTests := true, laidLooks := .later }
def RationalLowestUptoCardSaid : Prop := Claim7.holds Tryz.pinned (.plain (OpenSpec.upto rationalLowestSpec)) rationalLowestUptoCard

/-- THE SECOND FORM's CARD OF 'newswirelaw04.RationalLimits'. -/
def rationalLimitsUptoCard : Claim7 := { stood := { row := rationalLimitsUptoRow, standIns := [], harness := (true, "b779b26d8f9c5a37a81f74ae8101e1c0575e3a8855bff54bea75f9cadd201097"), looks := false }, kinds := [], alts := [], laidByText := true, laidKinds := [.data, .data, .data], laidTests := true, laidLooks := .later }
def RationalLimitsUptoCardSaid : Prop := Claim7.holds Tryz.pinned (.plain (OpenSpec.upto rationalLimitsSpec)) rationalLimitsUptoCard
end Rows
end Go.Proofs.YtlehjmanlccncaaGreatDoor
