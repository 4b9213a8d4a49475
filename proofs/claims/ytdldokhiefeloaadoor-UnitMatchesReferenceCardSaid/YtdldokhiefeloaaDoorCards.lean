/-
  DERIVED. GIVEN WITH THE SEED: THE CARDS: each row of YtdldokhiefeloaaDoorRows.lean that lists a variable, with what it lists TIED to the program's text (the seventh form; the later family's looks); each row that meets fmt, with fmt's text TOLD by the authors' own Lean function (tested against real Go, not proved from fmt's source: count such statements apart). THE CARD IS WHAT COUNTS. Prove the row's statement (the work); the ties are given (YtdldokhiefeloaaDoorTie.lean); close each card by the builder's one call (the guide's Derived/Test/ToyasCard.lean, 'card_holds'). Laid BY PROGRAM, IN A SANDBOX (cutbox-door.mjs). By AI agents, Wed Nov 11 2026. No macro, syntax, notation, axiom, sorry.
-/
import Derived.Test.YtdldokhiefeloaaDoorRows
import GoSem.ClaimSeven
namespace Go.Proofs.YtdldokhiefeloaaDoor
namespace Rows

/-- THE TIED CARD OF 'newswirelaw05.UnitMatchesReference'. -/
def unitMatchesReferenceCard : Claim7 := { stood := { row := unitMatchesReferenceRow, standIns := [], harness := (true, "ee52a1823c7837370832fc806ec2e8053dab71063f426b469cb4c0da9635907e"), looks := false }, kinds := [], alts := [], laidByText := true, laidKinds := [.data], laidTests := true, laidLooks := .later }
def UnitMatchesReferenceCardSaid : Prop := Claim7.holds Tryd.pinned (.plain (OpenSpec.ofChange unitMatchesReferenceSpec)) unitMatchesReferenceCard

/-- THE TIED CARD OF 'newswirelaw05.UnitOutward'. -/
def unitOutwardCard : Claim7 := { stood := { row := unitOutwardRow, standIns := [], harness := (true, "ee52a1823c7837370832fc806ec2e8053dab71063f426b469cb4c0da9635907e"), looks := false }, kinds := [], alts := [], laidByText := true, laidKinds := [.data], laidTests := true, laidLooks := .later }
def UnitOutwardCardSaid : Prop := Claim7.holds Tryd.pinned (.plain (OpenSpec.ofChange unitOutwardSpec)) unitOutwardCard

/-- THE TIED CARD OF 'newswirelaw05.UnitBack'. -/
def unitBackCard : Claim7 := { stood := { row := unitBackRow, standIns := [], harness := (true, "ee52a1823c7837370832fc806ec2e8053dab71063f426b469cb4c0da9635907e"), looks := false }, kinds := [], alts := [], laidByText := true, laidKinds := [.data], laidTests := true, laidLooks := .later }
def UnitBackCardSaid : Prop := Claim7.holds Tryd.pinned (.plain (OpenSpec.ofChange unitBackSpec)) unitBackCard

/-- THE TIED CARD OF 'newswirelaw05.UnitMonotone'. -/
def unitMonotoneCard : Claim7 := { stood := { row := unitMonotoneRow, standIns := [], harness := (true, "ee52a1823c7837370832fc806ec2e8053dab71063f426b469cb4c0da9635907e"), looks := false }, kinds := [], alts := [], laidByText := true, laidKinds := [.data], laidTests := true, laidLooks := .later }
def UnitMonotoneCardSaid : Prop := Claim7.holds Tryd.pinned (.plain (OpenSpec.ofChange unitMonotoneSpec)) unitMonotoneCard

/-- THE TIED CARD OF 'newswirelaw05.UnitSums'. -/
def unitSumsCard : Claim7 := { stood := { row := unitSumsRow, standIns := [], harness := (true, "ee52a1823c7837370832fc806ec2e8053dab71063f426b469cb4c0da9635907e"), looks := false }, kinds := [], alts := [], laidByText := true, laidKinds := [.data], laidTests := true, laidLooks := .later }
def UnitSumsCardSaid : Prop := Claim7.holds Tryd.pinned (.plain (OpenSpec.ofChange unitSumsSpec)) unitSumsCard

/-- THE TIED CARD OF 'newswirelaw05.UnitCoarser'. -/
def unitCoarserCard : Claim7 := { stood := { row := unitCoarserRow, standIns := [], harness := (true, "ee52a1823c7837370832fc806ec2e8053dab71063f426b469cb4c0da9635907e"), looks := false }, kinds := [], alts := [], laidByText := true, laidKinds := [.data], laidTests := true, laidLooks := .later }
def UnitCoarserCardSaid : Prop := Claim7.holds Tryd.pinned (.plain (OpenSpec.ofChange unitCoarserSpec)) unitCoarserCard

/-- THE TIED CARD OF 'newswirelaw06.CalendarMatchesReference'. -/
def calendarMatchesReferenceCard : Claim7 := { stood := { row := calendarMatchesReferenceRow, standIns := [], harness := (true, "ee52a1823c7837370832fc806ec2e8053dab71063f426b469cb4c0da9635907e"), looks := false }, kinds := [], alts := [], laidByText := true, laidKinds := [.data, .data, .pinned], laidTests := true, laidLooks := .later }
def CalendarMatchesReferenceCardSaid : Prop := Claim7.holds Tryd.pinned (.plain (OpenSpec.ofChange calendarMatchesReferenceSpec)) calendarMatchesReferenceCard

/-- THE TIED CARD OF 'newswirelaw06.CalendarThereAndBack'. -/
def calendarThereAndBackCard : Claim7 := { stood := { row := calendarThereAndBackRow, standIns := [], harness := (true, "ee52a1823c7837370832fc806ec2e8053dab71063f426b469cb4c0da9635907e"), looks := false }, kinds := [], alts := [], laidByText := true, laidKinds := [.data, .data, .pinned], laidTests := true, laidLooks := .later }
def CalendarThereAndBackCardSaid : Prop := Claim7.holds Tryd.pinned (.plain (OpenSpec.ofChange calendarThereAndBackSpec)) calendarThereAndBackCard

/-- THE TIED CARD OF 'newswirelaw06.CalendarOrder'. -/
def calendarOrderCard : Claim7 := { stood := { row := calendarOrderRow, standIns := [], harness := (true, "ee52a1823c7837370832fc806ec2e8053dab71063f426b469cb4c0da9635907e"), looks := false }, kinds := [], alts := [], laidByText := true, laidKinds := [.data, .data, .pinned], laidTests := true, laidLooks := .later }
def CalendarOrderCardSaid : Prop := Claim7.holds Tryd.pinned (.plain (OpenSpec.ofChange calendarOrderSpec)) calendarOrderCard

/-- THE TIED CARD OF 'newswirelaw06.CalendarNext'. -/
def calendarNextCard : Claim7 := { stood := { row := calendarNextRow, standIns := [], harness := (true, "ee52a1823c7837370832fc806ec2e8053dab71063f426b469cb4c0da9635907e"), looks := false }, kinds := [], alts := [], laidByText := true, laidKinds := [.data, .data, .pinned], laidTests := true, laidLooks := .later }
def CalendarNextCardSaid : Prop := Claim7.holds Tryd.pinned (.plain (OpenSpec.ofChange calendarNextSpec)) calendarNextCard

/-- THE TIED CARD OF 'newswirelaw06.CalendarOffsets'. -/
def calendarOffsetsCard : Claim7 := { stood := { row := calendarOffsetsRow, standIns := [], harness := (true, "ee52a1823c7837370832fc806ec2e8053dab71063f426b469cb4c0da9635907e"), looks := false }, kinds := [], alts := [], laidByText := true, laidKinds := [.data, .data, .pinned], laidTests := true, laidLooks := .later }
def CalendarOffsetsCardSaid : Prop := Claim7.holds Tryd.pinned (.plain (OpenSpec.ofChange calendarOffsetsSpec)) calendarOffsetsCard

/-- THE TIED CARD OF 'newswirelaw06.CalendarYears'. -/
def calendarYearsCard : Claim7 := { stood := { row := calendarYearsRow, standIns := [], harness := (true, "ee52a1823c7837370832fc806ec2e8053dab71063f426b469cb4c0da9635907e"), looks := false }, kinds := [], alts := [], laidByText := true, laidKinds := [.data, .data, .pinned], laidTests := true, laidLooks := .later }
def CalendarYearsCardSaid : Prop := Claim7.holds Tryd.pinned (.plain (OpenSpec.ofChange calendarYearsSpec)) calendarYearsCard

/-- THE SECOND FORM's CARD OF 'newswirelaw05.UnitMatchesReference'. -/
def unitMatchesReferenceUptoCard : Claim7 := { stood := { row := unitMatchesReferenceUptoRow, standIns := [], harness := (true, "ee52a1823c7837370832fc806ec2e8053dab71063f426b469cb4c0da9635907e"), looks := false }, kinds := [], alts := [], laidByText := true, laidKinds := [.data], laidTests := true, laidLooks := .later }
def UnitMatchesReferenceUptoCardSaid : Prop := Claim7.holds Tryd.pinned (.plain (OpenSpec.upto unitMatchesReferenceSpec)) unitMatchesReferenceUptoCard

/-- THE SECOND FORM's CARD OF 'newswirelaw05.UnitOutward'. -/
def unitOutwardUptoCard : Claim7 := { stood := { row := unitOutwardUptoRow, standIns := [], harness := (true, "ee52a1823c7837370832fc806ec2e8053dab71063f426b469cb4c0da9635907e"), looks := false }, kinds := [], alts := [], laidByText := true, laidKinds := [.data], laidTests := true, laidLooks := .later }
def UnitOutwardUptoCardSaid : Prop := Claim7.holds Tryd.pinned (.plain (OpenSpec.upto unitOutwardSpec)) unitOutwardUptoCard

/-- THE SECOND FORM's CARD OF 'newswirelaw05.UnitBack'. -/
def unitBackUptoCard : Claim7 := { stood := { row := unitBackUptoRow, standIns := [], harness := (true, "ee52a1823c7837370832fc806ec2e8053dab71063f426b469cb4c0da9635907e"), looks := false }, kinds := [], alts := [], laidByText := true, laidKinds := [.data], laidTests := true, laidLooks := .later }
def UnitBackUptoCardSaid : Prop := Claim7.holds Tryd.pinned (.plain (OpenSpec.upto unitBackSpec)) unitBackUptoCard

/-- THE SECOND FORM's CARD OF 'newswirelaw05.UnitMonotone'. -/
def unitMonotoneUptoCard : Claim7 := { stood := { row := unitMonotoneUptoRow, standIns := [], harness := (true, "ee52a1823c7837370832fc806ec2e8053dab71063f426b469cb4c0da9635907e"), looks := false }, kinds := [], alts := [], laidByText := true, laidKinds := [.data], laidTests := true, laidLooks := .later }
def UnitMonotoneUptoCardSaid : Prop := Claim7.holds Tryd.pinned (.plain (OpenSpec.upto unitMonotoneSpec)) unitMonotoneUptoCard

/-- THE SECOND FORM's CARD OF 'newswirelaw05.UnitSums'. -/
def unitSumsUptoCard : Claim7 := { stood := { row := unitSumsUptoRow, standIns := [], harness := (true, "ee52a1823c7837370832fc806ec2e8053dab71063f426b469cb4c0da9635907e"), looks := false }, kinds := [], alts := [], laidByText := true, laidKinds := [.data], laidTests := true, laidLooks := .later }
def UnitSumsUptoCardSaid : Prop := Claim7.holds Tryd.pinned (.plain (OpenSpec.upto unitSumsSpec)) unitSumsUptoCard

/-- THE SECOND FORM's CARD OF 'newswirelaw05.UnitCoarser'. -/
def unitCoarserUptoCard : Claim7 := { stood := { row := unitCoarserUptoRow, standIns := [], harness := (true, "ee52a1823c7837370832fc806ec2e8053dab71063f426b469cb4c0da9635907e"), looks := false }, kinds := [], alts := [], laidByText := true, laidKinds := [.data], laidTests := true, laidLooks := .later }
def UnitCoarserUptoCardSaid : Prop := Claim7.holds Tryd.pinned (.plain (OpenSpec.upto unitCoarserSpec)) unitCoarserUptoCard

/-- THE SECOND FORM's CARD OF 'newswirelaw06.CalendarMatchesReference'. -/
def calendarMatchesReferenceUptoCard : Claim7 := { stood := { row := calendarMatchesReferenceUptoRow, standIns := [], harness := (true, "ee52a1823c7837370832fc806ec2e8053dab71063f426b469cb4c0da9635907e"), looks := false }, kinds := [], alts := [], laidByText := true, laidKinds := [.data, .data, .pinned], laidTests := true, laidLooks := .later }
def CalendarMatchesReferenceUptoCardSaid : Prop := Claim7.holds Tryd.pinned (.plain (OpenSpec.upto calendarMatchesReferenceSpec)) calendarMatchesReferenceUptoCard

/-- THE SECOND FORM's CARD OF 'newswirelaw06.CalendarThereAndBack'. -/
def calendarThereAndBackUptoCard : Claim7 := { stood := { row := calendarThereAndBackUptoRow, standIns := [], harness := (true, "ee52a1823c7837370832fc806ec2e8053dab71063f426b469cb4c0da9635907e"), looks := false }, kinds := [], alts := [], laidByText := true, laidKinds := [.data, .data, .pinned], laidTests := true, laidLooks := .later }
def CalendarThereAndBackUptoCardSaid : Prop := Claim7.holds Tryd.pinned (.plain (OpenSpec.upto calendarThereAndBackSpec)) calendarThereAndBackUptoCard

/-- THE SECOND FORM's CARD OF 'newswirelaw06.CalendarOrder'. -/
def calendarOrderUptoCard : Claim7 := { stood := { row := calendarOrderUptoRow, standIns := [], harness := (true, "ee52a1823c7837370832fc806ec2e8053dab71063f426b469cb4c0da9635907e"), looks := false }, kinds := [], alts := [], laidByText := true, laidKinds := [.data, .data, .pinned], laidTests := true, laidLooks := .later }
def CalendarOrderUptoCardSaid : Prop := Claim7.holds Tryd.pinned (.plain (OpenSpec.upto calendarOrderSpec)) calendarOrderUptoCard

/-- THE SECOND FORM's CARD OF 'newswirelaw06.CalendarNext'. -/
def calendarNextUptoCard : Claim7 := { stood := { row := calendarNextUptoRow, standIns := [], harness := (true, "ee52a1823c7837370832fc806ec2e8053dab71063f426b469cb4c0da9635907e"), looks := false }, kinds := [], alts := [], laidByText := true, laidKinds := [.data, .data, .pinned], laidTests := true, laidLooks := .later }
def CalendarNextUptoCardSaid : Prop := Claim7.holds Tryd.pinned (.plain (OpenSpec.upto calendarNextSpec)) calendarNextUptoCard

/-- THE SECOND FORM's CARD OF 'newswirelaw06.CalendarOffsets'. -/
def calendarOffsetsUptoCard : Claim7 := { stood := { row := calendarOffsetsUptoRow, standIns := [], harness := (true, "ee52a1823c7837370832fc806ec2e8053dab71063f426b469cb4c0da9635907e"), looks := false }, kinds := [], alts := [], laidByText := true, laidKinds := [.data, .data, .pinned], laidTests := true, laidLooks := .later }
def CalendarOffsetsUptoCardSaid : Prop := Claim7.holds Tryd.pinned (.plain (OpenSpec.upto calendarOffsetsSpec)) calendarOffsetsUptoCard

/-- THE SECOND FORM's CARD OF 'newswirelaw06.CalendarYears'. -/
def calendarYearsUptoCard : Claim7 := { stood := { row := calendarYearsUptoRow, standIns := [], harness := (true, "ee52a1823c7837370832fc806ec2e8053dab71063f426b469cb4c0da9635907e"), looks := false }, kinds := [], alts := [], laidByText := true, laidKinds := [.data, .data, .pinned], laidTests := true, laidLooks := .later }
def CalendarYearsUptoCardSaid : Prop := Claim7.holds Tryd.pinned (.plain (OpenSpec.upto calendarYearsSpec)) calendarYearsUptoCard
end Rows
end Go.Proofs.YtdldokhiefeloaaDoor
