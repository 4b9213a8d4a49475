/-
  DERIVED. GIVEN WITH THE SEED: THE PROGRAM's TIES (one call each: nine closed facts by the kernel) AND EACH ROW's TIE, after the 31st guide's Derived/Test/Toyas{Tie, Card}.lean. No idea stands in it: it is a product of the set-up. Laid BY PROGRAM, IN A SANDBOX (cutbox-door.mjs). By AI agents, Wed Nov 11 2026. No macro, syntax, notation, axiom, sorry.
-/
import Derived.Test.YtebdpdmkehfgfaaDoorRows
import Derived.LaidByTextLater
import Derived.SevenTiedAt
import Derived.LaidSub
import Derived.LaidOnce
namespace Go.Proofs.YtebdpdmkehfgfaaDoor
open Go
set_option maxRecDepth 100000
theorem seatTie1 : Tryd.prog.laidByTextLater [("newswire/word.hundreds", Rows.laid_newswire_word_hundreds), ("newswire/word.ones", Rows.laid_newswire_word_ones), ("newswire/word.tens", Rows.laid_newswire_word_tens), ("newswire/word.months", Rows.laid_newswire_word_months), ("newswire/word.weekdays", Rows.laid_newswire_word_weekdays)] [.widerDeep, .data, .data, .data, .data] true :=
  Program.laidByTextLater_by_one 46 8 61 (by kernel_rfl) (by kernel_rfl) (by kernel_rfl) (by kernel_rfl) (by kernel_rfl) (by kernel_rfl) (fun _ _ => by kernel_rfl)
theorem noOwnUnsafe : Tryd.pinned.checked.prog.headLifts.contains "ownunsafe" = false := by kernel_rfl
theorem tie : Tryd.prog.laidByTextLater [("newswire/word.hundreds", Rows.laid_newswire_word_hundreds), ("newswire/word.ones", Rows.laid_newswire_word_ones), ("newswire/word.tens", Rows.laid_newswire_word_tens), ("newswire/word.months", Rows.laid_newswire_word_months), ("newswire/word.weekdays", Rows.laid_newswire_word_weekdays)] [.widerDeep, .data, .data, .data, .data] true :=
  Program.laidByTextLater.sub seatTie1 ["newswire/word.hundreds", "newswire/word.ones", "newswire/word.tens", "newswire/word.months", "newswire/word.weekdays"] (by kernel_rfl) (by kernel_rfl)
theorem wordMatchesReference_row_tie : Rows.wordMatchesReferenceRow.laidByTextAt .later Tryd.pinned [.widerDeep, .data, .data, .data, .data] true :=
  OpenClaim.laidByTextAt_later rfl rfl tie noOwnUnsafe
theorem wordReadsMatchReference_row_tie : Rows.wordReadsMatchReferenceRow.laidByTextAt .later Tryd.pinned [.widerDeep, .data, .data, .data, .data] true :=
  OpenClaim.laidByTextAt_later rfl rfl tie noOwnUnsafe
theorem wordBack_row_tie : Rows.wordBackRow.laidByTextAt .later Tryd.pinned [.widerDeep, .data, .data, .data, .data] true :=
  OpenClaim.laidByTextAt_later rfl rfl tie noOwnUnsafe
theorem wordInText_row_tie : Rows.wordInTextRow.laidByTextAt .later Tryd.pinned [.widerDeep, .data, .data, .data, .data] true :=
  OpenClaim.laidByTextAt_later rfl rfl tie noOwnUnsafe
theorem wordLetters_row_tie : Rows.wordLettersRow.laidByTextAt .later Tryd.pinned [.widerDeep, .data, .data, .data, .data] true :=
  OpenClaim.laidByTextAt_later rfl rfl tie noOwnUnsafe
theorem wordNames_row_tie : Rows.wordNamesRow.laidByTextAt .later Tryd.pinned [.widerDeep, .data, .data, .data, .data] true :=
  OpenClaim.laidByTextAt_later rfl rfl tie noOwnUnsafe
theorem wordThousands_row_tie : Rows.wordThousandsRow.laidByTextAt .later Tryd.pinned [.widerDeep, .data, .data, .data, .data] true :=
  OpenClaim.laidByTextAt_later rfl rfl tie noOwnUnsafe
theorem wordMatchesReferenceUpto_row_tie : Rows.wordMatchesReferenceUptoRow.laidByTextAt .later Tryd.pinned [.widerDeep, .data, .data, .data, .data] true :=
  OpenClaim.laidByTextAt_later rfl rfl tie noOwnUnsafe
theorem wordReadsMatchReferenceUpto_row_tie : Rows.wordReadsMatchReferenceUptoRow.laidByTextAt .later Tryd.pinned [.widerDeep, .data, .data, .data, .data] true :=
  OpenClaim.laidByTextAt_later rfl rfl tie noOwnUnsafe
theorem wordBackUpto_row_tie : Rows.wordBackUptoRow.laidByTextAt .later Tryd.pinned [.widerDeep, .data, .data, .data, .data] true :=
  OpenClaim.laidByTextAt_later rfl rfl tie noOwnUnsafe
theorem wordInTextUpto_row_tie : Rows.wordInTextUptoRow.laidByTextAt .later Tryd.pinned [.widerDeep, .data, .data, .data, .data] true :=
  OpenClaim.laidByTextAt_later rfl rfl tie noOwnUnsafe
theorem wordLettersUpto_row_tie : Rows.wordLettersUptoRow.laidByTextAt .later Tryd.pinned [.widerDeep, .data, .data, .data, .data] true :=
  OpenClaim.laidByTextAt_later rfl rfl tie noOwnUnsafe
theorem wordNamesUpto_row_tie : Rows.wordNamesUptoRow.laidByTextAt .later Tryd.pinned [.widerDeep, .data, .data, .data, .data] true :=
  OpenClaim.laidByTextAt_later rfl rfl tie noOwnUnsafe
theorem wordThousandsUpto_row_tie : Rows.wordThousandsUptoRow.laidByTextAt .later Tryd.pinned [.widerDeep, .data, .data, .data, .data] true :=
  OpenClaim.laidByTextAt_later rfl rfl tie noOwnUnsafe
end Go.Proofs.YtebdpdmkehfgfaaDoor
