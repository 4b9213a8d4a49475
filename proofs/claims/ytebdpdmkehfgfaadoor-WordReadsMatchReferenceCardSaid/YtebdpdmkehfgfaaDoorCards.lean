/-
  DERIVED. GIVEN WITH THE SEED: THE CARDS: each row of YtebdpdmkehfgfaaDoorRows.lean that lists a variable, with what it lists TIED to the program's text (the seventh form; the later family's looks); each row that meets fmt, with fmt's text TOLD by the authors' own Lean function (tested against real Go, not proved from fmt's source: count such statements apart). THE CARD IS WHAT COUNTS. Prove the row's statement (the work); the ties are given (YtebdpdmkehfgfaaDoorTie.lean); close each card by the builder's one call (the guide's Derived/Test/ToyasCard.lean, 'card_holds'). Laid BY PROGRAM, IN A SANDBOX (cutbox-door.mjs). By AI agents, Wed Nov 11 2026. No macro, syntax, notation, axiom, sorry.
-/
import Derived.Test.YtebdpdmkehfgfaaDoorRows
import GoSem.ClaimSeven
namespace Go.Proofs.YtebdpdmkehfgfaaDoor
namespace Rows

/-- THE TIED CARD OF 'newswirelaw11.WordMatchesReference'. -/
def wordMatchesReferenceCard : Claim7 := { stood := { row := wordMatchesReferenceRow, standIns := [], harness := (true, "2c0987deb77e304587433c7f6fe1864756af1d8d0cf93f9d90b214018a8ab5c6"), looks := false }, kinds := [], alts := [], laidByText := true, laidKinds := [.widerDeep, .data, .data, .data, .data], laidTests := true, laidLooks := .later }
def WordMatchesReferenceCardSaid : Prop := Claim7.holds Tryd.pinned (.plain (OpenSpec.ofChange wordMatchesReferenceSpec)) wordMatchesReferenceCard

/-- THE TIED CARD OF 'newswirelaw11.WordReadsMatchReference'. -/
def wordReadsMatchReferenceCard : Claim7 := { stood := { row := wordReadsMatchReferenceRow, standIns := [], harness := (true, "2c0987deb77e304587433c7f6fe1864756af1d8d0cf93f9d90b214018a8ab5c6"), looks := false }, kinds := [], alts := [], laidByText := true, laidKinds := [.widerDeep, .data, .data, .data, .data], laidTests := true, laidLooks := .later }
def WordReadsMatchReferenceCardSaid : Prop := Claim7.holds Tryd.pinned (.plain (OpenSpec.ofChange wordReadsMatchReferenceSpec)) wordReadsMatchReferenceCard

/-- THE TIED CARD OF 'newswirelaw11.WordBack'. -/
def wordBackCard : Claim7 := { stood := { row := wordBackRow, standIns := [], harness := (true, "2c0987deb77e304587433c7f6fe1864756af1d8d0cf93f9d90b214018a8ab5c6"), looks := false }, kinds := [], alts := [], laidByText := true, laidKinds := [.widerDeep, .data, .data, .data, .data], laidTests := true, laidLooks := .later }
def WordBackCardSaid : Prop := Claim7.holds Tryd.pinned (.plain (OpenSpec.ofChange wordBackSpec)) wordBackCard

/-- THE TIED CARD OF 'newswirelaw11.WordInText'. -/
def wordInTextCard : Claim7 := { stood := { row := wordInTextRow, standIns := [], harness := (true, "2c0987deb77e304587433c7f6fe1864756af1d8d0cf93f9d90b214018a8ab5c6"), looks := false }, kinds := [], alts := [], laidByText := true, laidKinds := [.widerDeep, .data, .data, .data, .data], laidTests := true, laidLooks := .later }
def WordInTextCardSaid : Prop := Claim7.holds Tryd.pinned (.plain (OpenSpec.ofChange wordInTextSpec)) wordInTextCard

/-- THE TIED CARD OF 'newswirelaw11.WordLetters'. -/
def wordLettersCard : Claim7 := { stood := { row := wordLettersRow, standIns := [], harness := (true, "2c0987deb77e304587433c7f6fe1864756af1d8d0cf93f9d90b214018a8ab5c6"), looks := false }, kinds := [], alts := [], laidByText := true, laidKinds := [.widerDeep, .data, .data, .data, .data], laidTests := true, laidLooks := .later }
def WordLettersCardSaid : Prop := Claim7.holds Tryd.pinned (.plain (OpenSpec.ofChange wordLettersSpec)) wordLettersCard

/-- THE TIED CARD OF 'newswirelaw11.WordNames'. -/
def wordNamesCard : Claim7 := { stood := { row := wordNamesRow, standIns := [], harness := (true, "2c0987deb77e304587433c7f6fe1864756af1d8d0cf93f9d90b214018a8ab5c6"), looks := false }, kinds := [], alts := [], laidByText := true, laidKinds := [.widerDeep, .data, .data, .data, .data], laidTests := true, laidLooks := .later }
def WordNamesCardSaid : Prop := Claim7.holds Tryd.pinned (.plain (OpenSpec.ofChange wordNamesSpec)) wordNamesCard

/-- THE TIED CARD OF 'newswirelaw11.WordThousands'. -/
def wordThousandsCard : Claim7 := { stood := { row := wordThousandsRow, standIns := [], harness := (true, "2c0987deb77e304587433c7f6fe1864756af1d8d0cf93f9d90b214018a8ab5c6"), looks := false }, kinds := [], alts := [], laidByText := true, laidKinds := [.widerDeep, .data, .data, .data, .data], laidTests := true, laidLooks := .later }
def WordThousandsCardSaid : Prop := Claim7.holds Tryd.pinned (.plain (OpenSpec.ofChange wordThousandsSpec)) wordThousandsCard

/-- THE SECOND FORM's CARD OF 'newswirelaw11.WordMatchesReference'. -/
def wordMatchesReferenceUptoCard : Claim7 := { stood := { row := wordMatchesReferenceUptoRow, standIns := [], harness := (true, "2c0987deb77e304587433c7f6fe1864756af1d8d0cf93f9d90b214018a8ab5c6"), looks := false }, kinds := [], alts := [], laidByText := true, laidKinds := [.widerDeep, .data, .data, .data, .data], laidTests := true, laidLooks := .later }
def WordMatchesReferenceUptoCardSaid : Prop := Claim7.holds Tryd.pinned (.plain (OpenSpec.upto wordMatchesReferenceSpec)) wordMatchesReferenceUptoCard

/-- THE SECOND FORM's CARD OF 'newswirelaw11.WordReadsMatchReference'. -/
def wordReadsMatchReferenceUptoCard : Claim7 := { stood := { row := wordReadsMatchReferenceUptoRow, standIns := [], harness := (true, "2c0987deb77e304587433c7f6fe1864756af1d8d0cf93f9d90b214018a8ab5c6"), looks := false }, kinds := [], alts := [], laidByText := true, laidKinds := [.widerDeep, .data, .data, .data, .data], laidTests := true, laidLooks := .later }
def WordReadsMatchReferenceUptoCardSaid : Prop := Claim7.holds Tryd.pinned (.plain (OpenSpec.upto wordReadsMatchReferenceSpec)) wordReadsMatchReferenceUptoCard

/-- THE SECOND FORM's CARD OF 'newswirelaw11.WordBack'. -/
def wordBackUptoCard : Claim7 := { stood := { row := wordBackUptoRow, standIns := [], harness := (true, "2c0987deb77e304587433c7f6fe1864756af1d8d0cf93f9d90b214018a8ab5c6"), looks := false }, kinds := [], alts := [], laidByText := true, laidKinds := [.widerDeep, .data, .data, .data, .data], laidTests := true, laidLooks := .later }
def WordBackUptoCardSaid : Prop := Claim7.holds Tryd.pinned (.plain (OpenSpec.upto wordBackSpec)) wordBackUptoCard

/-- THE SECOND FORM's CARD OF 'newswirelaw11.WordInText'. -/
def wordInTextUptoCard : Claim7 := { stood := { row := wordInTextUptoRow, standIns := [], harness := (true, "2c0987deb77e304587433c7f6fe1864756af1d8d0cf93f9d90b214018a8ab5c6"), looks := false }, kinds := [], alts := [], laidByText := true, laidKinds := [.widerDeep, .data, .data, .data, .data], laidTests := true, laidLooks := .later }
def WordInTextUptoCardSaid : Prop := Claim7.holds Tryd.pinned (.plain (OpenSpec.upto wordInTextSpec)) wordInTextUptoCard

/-- THE SECOND FORM's CARD OF 'newswirelaw11.WordLetters'. -/
def wordLettersUptoCard : Claim7 := { stood := { row := wordLettersUptoRow, standIns := [], harness := (true, "2c0987deb77e304587433c7f6fe1864756af1d8d0cf93f9d90b214018a8ab5c6"), looks := false }, kinds := [], alts := [], laidByText := true, laidKinds := [.widerDeep, .data, .data, .data, .data], laidTests := true, laidLooks := .later }
def WordLettersUptoCardSaid : Prop := Claim7.holds Tryd.pinned (.plain (OpenSpec.upto wordLettersSpec)) wordLettersUptoCard

/-- THE SECOND FORM's CARD OF 'newswirelaw11.WordNames'. -/
def wordNamesUptoCard : Claim7 := { stood := { row := wordNamesUptoRow, standIns := [], harness := (true, "2c0987deb77e304587433c7f6fe1864756af1d8d0cf93f9d90b214018a8ab5c6"), looks := false }, kinds := [], alts := [], laidByText := true, laidKinds := [.widerDeep, .data, .data, .data, .data], laidTests := true, laidLooks := .later }
def WordNamesUptoCardSaid : Prop := Claim7.holds Tryd.pinned (.plain (OpenSpec.upto wordNamesSpec)) wordNamesUptoCard

/-- THE SECOND FORM's CARD OF 'newswirelaw11.WordThousands'. -/
def wordThousandsUptoCard : Claim7 := { stood := { row := wordThousandsUptoRow, standIns := [], harness := (true, "2c0987deb77e304587433c7f6fe1864756af1d8d0cf93f9d90b214018a8ab5c6"), looks := false }, kinds := [], alts := [], laidByText := true, laidKinds := [.widerDeep, .data, .data, .data, .data], laidTests := true, laidLooks := .later }
def WordThousandsUptoCardSaid : Prop := Claim7.holds Tryd.pinned (.plain (OpenSpec.upto wordThousandsSpec)) wordThousandsUptoCard
end Rows
end Go.Proofs.YtebdpdmkehfgfaaDoor
