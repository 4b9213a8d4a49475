/-
  NARROWER THAN 'FOR EVERY INPUT', by the rows' own cells (each row's printed sentence says how): WordMatchesReference: laid · WordReadsMatchReference: laid · WordBack: laid · WordInText: laid · WordLetters: laid · WordNames: laid · WordThousands: laid.
  DERIVED. THE GIVEN ROWS OF THIS SEAT. 7 by the template 'for every input the law returns true; each argument reads behind the call as it read before'; 0 by the template 'total and deterministic' (their statements: YtebdpdmkehfgfaaDoorTotals.lean).
  GIVEN WITH THE SEED: the statements are not yours to turn. If you find one false, say at which input.
  Laid BY PROGRAM, IN A SANDBOX (cutbox-rows.mjs): the forced cells as the released guide's own fill.sh prints them over the translation e17c00a5586f0dae… (all of the seat's roots in one cut). By AI agents, Wed Nov 11 2026. No macro, syntax, notation, axiom, sorry.
-/
import Derived.Test.YtebdpdmkehfgfaaDoorChecked
import GoSem.Claim
import GoSem.ClaimJoined
import GoSem.ClaimMapViews
import Derived.JoinedTies
import Derived.KernelRfl
namespace Go.Proofs.YtebdpdmkehfgfaaDoor
/- THE CELL 'sum', in the pinned program and in every row, IS THE sha256 OF THE DUMP (.gsa) THAT YtebdpdmkehfgfaaDoorProg.lean LOADS. Nothing in Lean hashes anything: it is a label: what it is worth is what the hold of that sum in a sandbox is worth. -/
noncomputable def Tryd.pinned : Pinned := { name := "ytebdpdmkehfgfaadoor", sum := "e17c00a5586f0dae40a35cd3b39faaf99e2fa2d0d88b6b4cad8a5d9de819e389", checked := Tryd.checked }
namespace Rows
def none {H : Type} : Left H := { results := [], args := [] }

/- WHAT THE LISTED PACKAGE-LEVEL VARIABLES READ AS WHEN THE CALL BEGINS. Each datum BY PROGRAM (the guide's laid-datum.mjs) off the statement by which the dump's own 'gosem.cut.vars' lays the variable. In a bare row this is a premise. The card (YtebdpdmkehfgfaaDoorCards.lean) ties it to the program's text. -/
def laid_newswire_word_hundreds {H : Type} : DataW H := .agg [.lit (.string [99, 105, 101, 110, 116, 111]), .lit (.string [100, 111, 115, 99, 105, 101, 110, 116, 111, 115]), .lit (.string [116, 114, 101, 115, 99, 105, 101, 110, 116, 111, 115]), .lit (.string [99, 117, 97, 116, 114, 111, 99, 105, 101, 110, 116, 111, 115]), .lit (.string [113, 117, 105, 110, 105, 101, 110, 116, 111, 115]), .lit (.string [115, 101, 105, 115, 99, 105, 101, 110, 116, 111, 115]), .lit (.string [115, 101, 116, 101, 99, 105, 101, 110, 116, 111, 115]), .lit (.string [111, 99, 104, 111, 99, 105, 101, 110, 116, 111, 115]), .lit (.string [110, 111, 118, 101, 99, 105, 101, 110, 116, 111, 115])]
def laid_newswire_word_ones {H : Type} : DataW H := .agg [.agg [.lit (.string [122, 101, 114, 111]), .lit (.string [111, 110, 101]), .lit (.string [116, 119, 111]), .lit (.string [116, 104, 114, 101, 101]), .lit (.string [102, 111, 117, 114]), .lit (.string [102, 105, 118, 101]), .lit (.string [115, 105, 120]), .lit (.string [115, 101, 118, 101, 110]), .lit (.string [101, 105, 103, 104, 116]), .lit (.string [110, 105, 110, 101]), .lit (.string [116, 101, 110]), .lit (.string [101, 108, 101, 118, 101, 110]), .lit (.string [116, 119, 101, 108, 118, 101]), .lit (.string [116, 104, 105, 114, 116, 101, 101, 110]), .lit (.string [102, 111, 117, 114, 116, 101, 101, 110]), .lit (.string [102, 105, 102, 116, 101, 101, 110]), .lit (.string [115, 105, 120, 116, 101, 101, 110]), .lit (.string [115, 101, 118, 101, 110, 116, 101, 101, 110]), .lit (.string [101, 105, 103, 104, 116, 101, 101, 110]), .lit (.string [110, 105, 110, 101, 116, 101, 101, 110])], .agg [.lit (.string [110, 117, 108, 108]), .lit (.string [101, 105, 110, 115]), .lit (.string [122, 119, 101, 105]), .lit (.string [100, 114, 101, 105]), .lit (.string [118, 105, 101, 114]), .lit (.string [102, 117, 101, 110, 102]), .lit (.string [115, 101, 99, 104, 115]), .lit (.string [115, 105, 101, 98, 101, 110]), .lit (.string [97, 99, 104, 116]), .lit (.string [110, 101, 117, 110]), .lit (.string [122, 101, 104, 110]), .lit (.string [101, 108, 102]), .lit (.string [122, 119, 111, 101, 108, 102]), .lit (.string [100, 114, 101, 105, 122, 101, 104, 110]), .lit (.string [118, 105, 101, 114, 122, 101, 104, 110]), .lit (.string [102, 117, 101, 110, 102, 122, 101, 104, 110]), .lit (.string [115, 101, 99, 104, 122, 101, 104, 110]), .lit (.string [115, 105, 101, 98, 122, 101, 104, 110]), .lit (.string [97, 99, 104, 116, 122, 101, 104, 110]), .lit (.string [110, 101, 117, 110, 122, 101, 104, 110])], .agg [.lit (.string [99, 101, 114, 111]), .lit (.string [117, 110, 111]), .lit (.string [100, 111, 115]), .lit (.string [116, 114, 101, 115]), .lit (.string [99, 117, 97, 116, 114, 111]), .lit (.string [99, 105, 110, 99, 111]), .lit (.string [115, 101, 105, 115]), .lit (.string [115, 105, 101, 116, 101]), .lit (.string [111, 99, 104, 111]), .lit (.string [110, 117, 101, 118, 101]), .lit (.string [100, 105, 101, 122]), .lit (.string [111, 110, 99, 101]), .lit (.string [100, 111, 99, 101]), .lit (.string [116, 114, 101, 99, 101]), .lit (.string [99, 97, 116, 111, 114, 99, 101]), .lit (.string [113, 117, 105, 110, 99, 101]), .lit (.string [100, 105, 101, 99, 105, 115, 101, 105, 115]), .lit (.string [100, 105, 101, 99, 105, 115, 105, 101, 116, 101]), .lit (.string [100, 105, 101, 99, 105, 111, 99, 104, 111]), .lit (.string [100, 105, 101, 99, 105, 110, 117, 101, 118, 101])]]
def laid_newswire_word_tens {H : Type} : DataW H := .agg [.agg [.lit (.string [116, 119, 101, 110, 116, 121]), .lit (.string [116, 104, 105, 114, 116, 121]), .lit (.string [102, 111, 114, 116, 121]), .lit (.string [102, 105, 102, 116, 121]), .lit (.string [115, 105, 120, 116, 121]), .lit (.string [115, 101, 118, 101, 110, 116, 121]), .lit (.string [101, 105, 103, 104, 116, 121]), .lit (.string [110, 105, 110, 101, 116, 121])], .agg [.lit (.string [122, 119, 97, 110, 122, 105, 103]), .lit (.string [100, 114, 101, 105, 115, 115, 105, 103]), .lit (.string [118, 105, 101, 114, 122, 105, 103]), .lit (.string [102, 117, 101, 110, 102, 122, 105, 103]), .lit (.string [115, 101, 99, 104, 122, 105, 103]), .lit (.string [115, 105, 101, 98, 122, 105, 103]), .lit (.string [97, 99, 104, 116, 122, 105, 103]), .lit (.string [110, 101, 117, 110, 122, 105, 103])], .agg [.lit (.string [118, 101, 105, 110, 116, 101]), .lit (.string [116, 114, 101, 105, 110, 116, 97]), .lit (.string [99, 117, 97, 114, 101, 110, 116, 97]), .lit (.string [99, 105, 110, 99, 117, 101, 110, 116, 97]), .lit (.string [115, 101, 115, 101, 110, 116, 97]), .lit (.string [115, 101, 116, 101, 110, 116, 97]), .lit (.string [111, 99, 104, 101, 110, 116, 97]), .lit (.string [110, 111, 118, 101, 110, 116, 97])]]
def laid_newswire_word_months {H : Type} : DataW H := .agg [.agg [.lit (.string [106, 97, 110, 117, 97, 114, 121]), .lit (.string [102, 101, 98, 114, 117, 97, 114, 121]), .lit (.string [109, 97, 114, 99, 104]), .lit (.string [97, 112, 114, 105, 108]), .lit (.string [109, 97, 121]), .lit (.string [106, 117, 110, 101]), .lit (.string [106, 117, 108, 121]), .lit (.string [97, 117, 103, 117, 115, 116]), .lit (.string [115, 101, 112, 116, 101, 109, 98, 101, 114]), .lit (.string [111, 99, 116, 111, 98, 101, 114]), .lit (.string [110, 111, 118, 101, 109, 98, 101, 114]), .lit (.string [100, 101, 99, 101, 109, 98, 101, 114])], .agg [.lit (.string [106, 97, 110, 117, 97, 114]), .lit (.string [102, 101, 98, 114, 117, 97, 114]), .lit (.string [109, 97, 101, 114, 122]), .lit (.string [97, 112, 114, 105, 108]), .lit (.string [109, 97, 105]), .lit (.string [106, 117, 110, 105]), .lit (.string [106, 117, 108, 105]), .lit (.string [97, 117, 103, 117, 115, 116]), .lit (.string [115, 101, 112, 116, 101, 109, 98, 101, 114]), .lit (.string [111, 107, 116, 111, 98, 101, 114]), .lit (.string [110, 111, 118, 101, 109, 98, 101, 114]), .lit (.string [100, 101, 122, 101, 109, 98, 101, 114])], .agg [.lit (.string [101, 110, 101, 114, 111]), .lit (.string [102, 101, 98, 114, 101, 114, 111]), .lit (.string [109, 97, 114, 122, 111]), .lit (.string [97, 98, 114, 105, 108]), .lit (.string [109, 97, 121, 111]), .lit (.string [106, 117, 110, 105, 111]), .lit (.string [106, 117, 108, 105, 111]), .lit (.string [97, 103, 111, 115, 116, 111]), .lit (.string [115, 101, 112, 116, 105, 101, 109, 98, 114, 101]), .lit (.string [111, 99, 116, 117, 98, 114, 101]), .lit (.string [110, 111, 118, 105, 101, 109, 98, 114, 101]), .lit (.string [100, 105, 99, 105, 101, 109, 98, 114, 101])]]
def laid_newswire_word_weekdays {H : Type} : DataW H := .agg [.agg [.lit (.string [109, 111, 110, 100, 97, 121]), .lit (.string [116, 117, 101, 115, 100, 97, 121]), .lit (.string [119, 101, 100, 110, 101, 115, 100, 97, 121]), .lit (.string [116, 104, 117, 114, 115, 100, 97, 121]), .lit (.string [102, 114, 105, 100, 97, 121]), .lit (.string [115, 97, 116, 117, 114, 100, 97, 121]), .lit (.string [115, 117, 110, 100, 97, 121])], .agg [.lit (.string [109, 111, 110, 116, 97, 103]), .lit (.string [100, 105, 101, 110, 115, 116, 97, 103]), .lit (.string [109, 105, 116, 116, 119, 111, 99, 104]), .lit (.string [100, 111, 110, 110, 101, 114, 115, 116, 97, 103]), .lit (.string [102, 114, 101, 105, 116, 97, 103]), .lit (.string [115, 97, 109, 115, 116, 97, 103]), .lit (.string [115, 111, 110, 110, 116, 97, 103])], .agg [.lit (.string [108, 117, 110, 101, 115]), .lit (.string [109, 97, 114, 116, 101, 115]), .lit (.string [109, 105, 101, 114, 99, 111, 108, 101, 115]), .lit (.string [106, 117, 101, 118, 101, 115]), .lit (.string [118, 105, 101, 114, 110, 101, 115]), .lit (.string [115, 97, 98, 97, 100, 111]), .lit (.string [100, 111, 109, 105, 110, 103, 111])]]

/-- 'newswirelaw11.WordMatchesReference': WHATEVER THE INPUT: true; the input reads as it did. -/
def wordMatchesReferenceSpec : ChangeSpec := { name := "wordMatchesReference", fn := fun _ => fun
  | [d1, d2, d3] => { results := [.lit (.bool true)], args := [d1, d2, d3] }
  | _ => none }
def wordMatchesReferenceRow : OpenClaim := { program := "ytebdpdmkehfgfaadoor", sum := "e17c00a5586f0dae40a35cd3b39faaf99e2fa2d0d88b6b4cad8a5d9de819e389", func := "newswire/newswirelaw11.WordMatchesReference", spec := "wordMatchesReference", inPlace := ["internal/bytealg.IndexByteString", "internal/bytealg.IndexString"], unfollowed := true, recurses := true, named := ["newswire/word.ones", "newswire/word.tens", "internal/bytealg.MaxLen", "newswire/word.hundreds", "newswire/word.months", "newswire/word.weekdays"], apart := false, laid := [("newswire/word.hundreds", laid_newswire_word_hundreds), ("newswire/word.ones", laid_newswire_word_ones), ("newswire/word.tens", laid_newswire_word_tens), ("newswire/word.months", laid_newswire_word_months), ("newswire/word.weekdays", laid_newswire_word_weekdays)] }
def WordMatchesReferenceSaid : Prop := wordMatchesReferenceRow.holds Tryd.pinned (OpenSpec.ofChange wordMatchesReferenceSpec)

/-- ITS FALSE NEIGHBOUR: 'it returns false'. Refute it at one input. -/
def wordMatchesReferenceWrong : ChangeSpec := { name := "wordMatchesReference", fn := fun _ => fun
  | [d1, d2, d3] => { results := [.lit (.bool false)], args := [d1, d2, d3] }
  | _ => none }
def WordMatchesReferenceWrongFalsely : Prop := wordMatchesReferenceRow.holds Tryd.pinned (OpenSpec.ofChange wordMatchesReferenceWrong)

/-- 'newswirelaw11.WordReadsMatchReference': WHATEVER THE INPUT: true; the input reads as it did. -/
def wordReadsMatchReferenceSpec : ChangeSpec := { name := "wordReadsMatchReference", fn := fun _ => fun
  | [d1, d2, d3, d4, d5, d6, d7] => { results := [.lit (.bool true)], args := [d1, d2, d3, d4, d5, d6, d7] }
  | _ => none }
def wordReadsMatchReferenceRow : OpenClaim := { program := "ytebdpdmkehfgfaadoor", sum := "e17c00a5586f0dae40a35cd3b39faaf99e2fa2d0d88b6b4cad8a5d9de819e389", func := "newswire/newswirelaw11.WordReadsMatchReference", spec := "wordReadsMatchReference", inPlace := ["internal/bytealg.IndexByteString", "internal/bytealg.IndexString"], unfollowed := true, recurses := true, named := ["newswire/word.ones", "newswire/word.tens", "internal/bytealg.MaxLen", "newswire/word.hundreds", "newswire/word.months", "newswire/word.weekdays"], apart := false, laid := [("newswire/word.hundreds", laid_newswire_word_hundreds), ("newswire/word.ones", laid_newswire_word_ones), ("newswire/word.tens", laid_newswire_word_tens), ("newswire/word.months", laid_newswire_word_months), ("newswire/word.weekdays", laid_newswire_word_weekdays)] }
def WordReadsMatchReferenceSaid : Prop := wordReadsMatchReferenceRow.holds Tryd.pinned (OpenSpec.ofChange wordReadsMatchReferenceSpec)

/-- ITS FALSE NEIGHBOUR: 'it returns false'. Refute it at one input. -/
def wordReadsMatchReferenceWrong : ChangeSpec := { name := "wordReadsMatchReference", fn := fun _ => fun
  | [d1, d2, d3, d4, d5, d6, d7] => { results := [.lit (.bool false)], args := [d1, d2, d3, d4, d5, d6, d7] }
  | _ => none }
def WordReadsMatchReferenceWrongFalsely : Prop := wordReadsMatchReferenceRow.holds Tryd.pinned (OpenSpec.ofChange wordReadsMatchReferenceWrong)

/-- 'newswirelaw11.WordBack': WHATEVER THE INPUT: true; the input reads as it did. -/
def wordBackSpec : ChangeSpec := { name := "wordBack", fn := fun _ => fun
  | [d1, d2, d3] => { results := [.lit (.bool true)], args := [d1, d2, d3] }
  | _ => none }
def wordBackRow : OpenClaim := { program := "ytebdpdmkehfgfaadoor", sum := "e17c00a5586f0dae40a35cd3b39faaf99e2fa2d0d88b6b4cad8a5d9de819e389", func := "newswire/newswirelaw11.WordBack", spec := "wordBack", inPlace := ["internal/bytealg.IndexByteString", "internal/bytealg.IndexString"], unfollowed := true, recurses := true, named := ["newswire/word.ones", "newswire/word.tens", "internal/bytealg.MaxLen", "newswire/word.hundreds", "newswire/word.months", "newswire/word.weekdays"], apart := false, laid := [("newswire/word.hundreds", laid_newswire_word_hundreds), ("newswire/word.ones", laid_newswire_word_ones), ("newswire/word.tens", laid_newswire_word_tens), ("newswire/word.months", laid_newswire_word_months), ("newswire/word.weekdays", laid_newswire_word_weekdays)] }
def WordBackSaid : Prop := wordBackRow.holds Tryd.pinned (OpenSpec.ofChange wordBackSpec)

/-- ITS FALSE NEIGHBOUR: 'it returns false'. Refute it at one input. -/
def wordBackWrong : ChangeSpec := { name := "wordBack", fn := fun _ => fun
  | [d1, d2, d3] => { results := [.lit (.bool false)], args := [d1, d2, d3] }
  | _ => none }
def WordBackWrongFalsely : Prop := wordBackRow.holds Tryd.pinned (OpenSpec.ofChange wordBackWrong)

/-- 'newswirelaw11.WordInText': WHATEVER THE INPUT: true; the input reads as it did. -/
def wordInTextSpec : ChangeSpec := { name := "wordInText", fn := fun _ => fun
  | [d1, d2, d3, d4] => { results := [.lit (.bool true)], args := [d1, d2, d3, d4] }
  | _ => none }
def wordInTextRow : OpenClaim := { program := "ytebdpdmkehfgfaadoor", sum := "e17c00a5586f0dae40a35cd3b39faaf99e2fa2d0d88b6b4cad8a5d9de819e389", func := "newswire/newswirelaw11.WordInText", spec := "wordInText", inPlace := ["internal/bytealg.IndexByteString", "internal/bytealg.IndexString"], unfollowed := true, recurses := true, named := ["newswire/word.ones", "newswire/word.tens", "internal/bytealg.MaxLen", "newswire/word.hundreds", "newswire/word.months", "newswire/word.weekdays"], apart := false, laid := [("newswire/word.hundreds", laid_newswire_word_hundreds), ("newswire/word.ones", laid_newswire_word_ones), ("newswire/word.tens", laid_newswire_word_tens), ("newswire/word.months", laid_newswire_word_months), ("newswire/word.weekdays", laid_newswire_word_weekdays)] }
def WordInTextSaid : Prop := wordInTextRow.holds Tryd.pinned (OpenSpec.ofChange wordInTextSpec)

/-- ITS FALSE NEIGHBOUR: 'it returns false'. Refute it at one input. -/
def wordInTextWrong : ChangeSpec := { name := "wordInText", fn := fun _ => fun
  | [d1, d2, d3, d4] => { results := [.lit (.bool false)], args := [d1, d2, d3, d4] }
  | _ => none }
def WordInTextWrongFalsely : Prop := wordInTextRow.holds Tryd.pinned (OpenSpec.ofChange wordInTextWrong)

/-- 'newswirelaw11.WordLetters': WHATEVER THE INPUT: true; the input reads as it did. -/
def wordLettersSpec : ChangeSpec := { name := "wordLetters", fn := fun _ => fun
  | [d1, d2, d3, d4, d5] => { results := [.lit (.bool true)], args := [d1, d2, d3, d4, d5] }
  | _ => none }
def wordLettersRow : OpenClaim := { program := "ytebdpdmkehfgfaadoor", sum := "e17c00a5586f0dae40a35cd3b39faaf99e2fa2d0d88b6b4cad8a5d9de819e389", func := "newswire/newswirelaw11.WordLetters", spec := "wordLetters", inPlace := ["internal/bytealg.IndexByteString", "internal/bytealg.IndexString"], unfollowed := true, recurses := true, named := ["newswire/word.ones", "newswire/word.tens", "internal/bytealg.MaxLen", "newswire/word.hundreds", "newswire/word.months", "newswire/word.weekdays"], apart := false, laid := [("newswire/word.hundreds", laid_newswire_word_hundreds), ("newswire/word.ones", laid_newswire_word_ones), ("newswire/word.tens", laid_newswire_word_tens), ("newswire/word.months", laid_newswire_word_months), ("newswire/word.weekdays", laid_newswire_word_weekdays)] }
def WordLettersSaid : Prop := wordLettersRow.holds Tryd.pinned (OpenSpec.ofChange wordLettersSpec)

/-- ITS FALSE NEIGHBOUR: 'it returns false'. Refute it at one input. -/
def wordLettersWrong : ChangeSpec := { name := "wordLetters", fn := fun _ => fun
  | [d1, d2, d3, d4, d5] => { results := [.lit (.bool false)], args := [d1, d2, d3, d4, d5] }
  | _ => none }
def WordLettersWrongFalsely : Prop := wordLettersRow.holds Tryd.pinned (OpenSpec.ofChange wordLettersWrong)

/-- 'newswirelaw11.WordNames': WHATEVER THE INPUT: true; the input reads as it did. -/
def wordNamesSpec : ChangeSpec := { name := "wordNames", fn := fun _ => fun
  | [d1, d2, d3, d4] => { results := [.lit (.bool true)], args := [d1, d2, d3, d4] }
  | _ => none }
def wordNamesRow : OpenClaim := { program := "ytebdpdmkehfgfaadoor", sum := "e17c00a5586f0dae40a35cd3b39faaf99e2fa2d0d88b6b4cad8a5d9de819e389", func := "newswire/newswirelaw11.WordNames", spec := "wordNames", inPlace := ["internal/bytealg.IndexByteString", "internal/bytealg.IndexString"], unfollowed := true, recurses := true, named := ["newswire/word.ones", "newswire/word.tens", "internal/bytealg.MaxLen", "newswire/word.hundreds", "newswire/word.months", "newswire/word.weekdays"], apart := false, laid := [("newswire/word.hundreds", laid_newswire_word_hundreds), ("newswire/word.ones", laid_newswire_word_ones), ("newswire/word.tens", laid_newswire_word_tens), ("newswire/word.months", laid_newswire_word_months), ("newswire/word.weekdays", laid_newswire_word_weekdays)] }
def WordNamesSaid : Prop := wordNamesRow.holds Tryd.pinned (OpenSpec.ofChange wordNamesSpec)

/-- ITS FALSE NEIGHBOUR: 'it returns false'. Refute it at one input. -/
def wordNamesWrong : ChangeSpec := { name := "wordNames", fn := fun _ => fun
  | [d1, d2, d3, d4] => { results := [.lit (.bool false)], args := [d1, d2, d3, d4] }
  | _ => none }
def WordNamesWrongFalsely : Prop := wordNamesRow.holds Tryd.pinned (OpenSpec.ofChange wordNamesWrong)

/-- 'newswirelaw11.WordThousands': WHATEVER THE INPUT: true; the input reads as it did. -/
def wordThousandsSpec : ChangeSpec := { name := "wordThousands", fn := fun _ => fun
  | [d1, d2, d3] => { results := [.lit (.bool true)], args := [d1, d2, d3] }
  | _ => none }
def wordThousandsRow : OpenClaim := { program := "ytebdpdmkehfgfaadoor", sum := "e17c00a5586f0dae40a35cd3b39faaf99e2fa2d0d88b6b4cad8a5d9de819e389", func := "newswire/newswirelaw11.WordThousands", spec := "wordThousands", inPlace := ["internal/bytealg.IndexByteString", "internal/bytealg.IndexString"], unfollowed := true, recurses := true, named := ["newswire/word.ones", "newswire/word.tens", "internal/bytealg.MaxLen", "newswire/word.hundreds", "newswire/word.months", "newswire/word.weekdays"], apart := false, laid := [("newswire/word.hundreds", laid_newswire_word_hundreds), ("newswire/word.ones", laid_newswire_word_ones), ("newswire/word.tens", laid_newswire_word_tens), ("newswire/word.months", laid_newswire_word_months), ("newswire/word.weekdays", laid_newswire_word_weekdays)] }
def WordThousandsSaid : Prop := wordThousandsRow.holds Tryd.pinned (OpenSpec.ofChange wordThousandsSpec)

/-- ITS FALSE NEIGHBOUR: 'it returns false'. Refute it at one input. -/
def wordThousandsWrong : ChangeSpec := { name := "wordThousands", fn := fun _ => fun
  | [d1, d2, d3] => { results := [.lit (.bool false)], args := [d1, d2, d3] }
  | _ => none }
def WordThousandsWrongFalsely : Prop := wordThousandsRow.holds Tryd.pinned (OpenSpec.ofChange wordThousandsWrong)

/- THE SECOND FORM. 'bulk': how many values and letters a reading holds, each counted each time it is reached (what is shared counts as often as it is met; a slice's spare places count too). A statement '..UptoSaid' is the law's where the arguments, and the package variables that the reading takes, are together of bulk at most 1048576: NARROWER than '..Said'. Prove '..Said' where nothing that the law and all that it calls make is longer than what came in: it says more and counts as full. Else prove '..UptoSaid'. A law counts once. -/
mutual
def uptoBulk {H : Type} : DataW H → Nat
  | .lit (.string bytes) => bytes.length + 1
  | .lit _ => 1
  | .nil => 1
  | .ptr d => uptoBulk d + 1
  | .slice elems spare => uptoBulkAll elems + uptoBulkAll spare + 1
  | .agg parts => uptoBulkAll parts + 1
  | .iface _ d => uptoBulk d + 1
  | .map entries => uptoBulkEntries entries + 1
  | .held _ => 1
def uptoBulkAll {H : Type} : List (DataW H) → Nat
  | [] => 0
  | d :: r => uptoBulk d + uptoBulkAll r
def uptoBulkEntries {H : Type} : List (Lit × DataW H) → Nat
  | [] => 0
  | x :: r => uptoBulkEntry x + uptoBulkEntries r
def uptoBulkEntry {H : Type} : Lit × DataW H → Nat
  | (.string bytes, d) => bytes.length + uptoBulk d + 1
  | (_, d) => uptoBulk d + 1
 end
def uptoSmall : (H : Type) → List (DataW H) → Bool := fun _ ds => decide (uptoBulkAll ds ≤ 1048576)
def OpenSpec.upto (s : _root_.Go.ChangeSpec) : _root_.Go.OpenSpec := { _root_.Go.OpenSpec.ofChange s with cond := some uptoSmall }

/-- 'newswirelaw11.WordMatchesReference', WHERE WHAT IT READS IS OF BULK AT MOST 1048576: true; the input reads as it did. -/
def wordMatchesReferenceUptoRow : OpenClaim := { program := "ytebdpdmkehfgfaadoor", sum := "e17c00a5586f0dae40a35cd3b39faaf99e2fa2d0d88b6b4cad8a5d9de819e389", func := "newswire/newswirelaw11.WordMatchesReference", spec := "wordMatchesReference", inPlace := ["internal/bytealg.IndexByteString", "internal/bytealg.IndexString"], unfollowed := true, recurses := true, named := ["newswire/word.ones", "newswire/word.tens", "internal/bytealg.MaxLen", "newswire/word.hundreds", "newswire/word.months", "newswire/word.weekdays"], apart := false, laid := [("newswire/word.hundreds", laid_newswire_word_hundreds), ("newswire/word.ones", laid_newswire_word_ones), ("newswire/word.tens", laid_newswire_word_tens), ("newswire/word.months", laid_newswire_word_months), ("newswire/word.weekdays", laid_newswire_word_weekdays)], narrowed := true }
def WordMatchesReferenceUptoSaid : Prop := wordMatchesReferenceUptoRow.holds Tryd.pinned (OpenSpec.upto wordMatchesReferenceSpec)

/-- 'newswirelaw11.WordReadsMatchReference', WHERE WHAT IT READS IS OF BULK AT MOST 1048576: true; the input reads as it did. -/
def wordReadsMatchReferenceUptoRow : OpenClaim := { program := "ytebdpdmkehfgfaadoor", sum := "e17c00a5586f0dae40a35cd3b39faaf99e2fa2d0d88b6b4cad8a5d9de819e389", func := "newswire/newswirelaw11.WordReadsMatchReference", spec := "wordReadsMatchReference", inPlace := ["internal/bytealg.IndexByteString", "internal/bytealg.IndexString"], unfollowed := true, recurses := true, named := ["newswire/word.ones", "newswire/word.tens", "internal/bytealg.MaxLen", "newswire/word.hundreds", "newswire/word.months", "newswire/word.weekdays"], apart := false, laid := [("newswire/word.hundreds", laid_newswire_word_hundreds), ("newswire/word.ones", laid_newswire_word_ones), ("newswire/word.tens", laid_newswire_word_tens), ("newswire/word.months", laid_newswire_word_months), ("newswire/word.weekdays", laid_newswire_word_weekdays)], narrowed := true }
def WordReadsMatchReferenceUptoSaid : Prop := wordReadsMatchReferenceUptoRow.holds Tryd.pinned (OpenSpec.upto wordReadsMatchReferenceSpec)

/-- 'newswirelaw11.WordBack', WHERE WHAT IT READS IS OF BULK AT MOST 1048576: true; the input reads as it did. -/
def wordBackUptoRow : OpenClaim := { program := "ytebdpdmkehfgfaadoor", sum := "e17c00a5586f0dae40a35cd3b39faaf99e2fa2d0d88b6b4cad8a5d9de819e389", func := "newswire/newswirelaw11.WordBack", spec := "wordBack", inPlace := ["internal/bytealg.IndexByteString", "internal/bytealg.IndexString"], unfollowed := true, recurses := true, named := ["newswire/word.ones", "newswire/word.tens", "internal/bytealg.MaxLen", "newswire/word.hundreds", "newswire/word.months", "newswire/word.weekdays"], apart := false, laid := [("newswire/word.hundreds", laid_newswire_word_hundreds), ("newswire/word.ones", laid_newswire_word_ones), ("newswire/word.tens", laid_newswire_word_tens), ("newswire/word.months", laid_newswire_word_months), ("newswire/word.weekdays", laid_newswire_word_weekdays)], narrowed := true }
def WordBackUptoSaid : Prop := wordBackUptoRow.holds Tryd.pinned (OpenSpec.upto wordBackSpec)

/-- 'newswirelaw11.WordInText', WHERE WHAT IT READS IS OF BULK AT MOST 1048576: true; the input reads as it did. -/
def wordInTextUptoRow : OpenClaim := { program := "ytebdpdmkehfgfaadoor", sum := "e17c00a5586f0dae40a35cd3b39faaf99e2fa2d0d88b6b4cad8a5d9de819e389", func := "newswire/newswirelaw11.WordInText", spec := "wordInText", inPlace := ["internal/bytealg.IndexByteString", "internal/bytealg.IndexString"], unfollowed := true, recurses := true, named := ["newswire/word.ones", "newswire/word.tens", "internal/bytealg.MaxLen", "newswire/word.hundreds", "newswire/word.months", "newswire/word.weekdays"], apart := false, laid := [("newswire/word.hundreds", laid_newswire_word_hundreds), ("newswire/word.ones", laid_newswire_word_ones), ("newswire/word.tens", laid_newswire_word_tens), ("newswire/word.months", laid_newswire_word_months), ("newswire/word.weekdays", laid_newswire_word_weekdays)], narrowed := true }
def WordInTextUptoSaid : Prop := wordInTextUptoRow.holds Tryd.pinned (OpenSpec.upto wordInTextSpec)

/-- 'newswirelaw11.WordLetters', WHERE WHAT IT READS IS OF BULK AT MOST 1048576: true; the input reads as it did. -/
def wordLettersUptoRow : OpenClaim := { program := "ytebdpdmkehfgfaadoor", sum := "e17c00a5586f0dae40a35cd3b39faaf99e2fa2d0d88b6b4cad8a5d9de819e389", func := "newswire/newswirelaw11.WordLetters", spec := "wordLetters", inPlace := ["internal/bytealg.IndexByteString", "internal/bytealg.IndexString"], unfollowed := true, recurses := true, named := ["newswire/word.ones", "newswire/word.tens", "internal/bytealg.MaxLen", "newswire/word.hundreds", "newswire/word.months", "newswire/word.weekdays"], apart := false, laid := [("newswire/word.hundreds", laid_newswire_word_hundreds), ("newswire/word.ones", laid_newswire_word_ones), ("newswire/word.tens", laid_newswire_word_tens), ("newswire/word.months", laid_newswire_word_months), ("newswire/word.weekdays", laid_newswire_word_weekdays)], narrowed := true }
def WordLettersUptoSaid : Prop := wordLettersUptoRow.holds Tryd.pinned (OpenSpec.upto wordLettersSpec)

/-- 'newswirelaw11.WordNames', WHERE WHAT IT READS IS OF BULK AT MOST 1048576: true; the input reads as it did. -/
def wordNamesUptoRow : OpenClaim := { program := "ytebdpdmkehfgfaadoor", sum := "e17c00a5586f0dae40a35cd3b39faaf99e2fa2d0d88b6b4cad8a5d9de819e389", func := "newswire/newswirelaw11.WordNames", spec := "wordNames", inPlace := ["internal/bytealg.IndexByteString", "internal/bytealg.IndexString"], unfollowed := true, recurses := true, named := ["newswire/word.ones", "newswire/word.tens", "internal/bytealg.MaxLen", "newswire/word.hundreds", "newswire/word.months", "newswire/word.weekdays"], apart := false, laid := [("newswire/word.hundreds", laid_newswire_word_hundreds), ("newswire/word.ones", laid_newswire_word_ones), ("newswire/word.tens", laid_newswire_word_tens), ("newswire/word.months", laid_newswire_word_months), ("newswire/word.weekdays", laid_newswire_word_weekdays)], narrowed := true }
def WordNamesUptoSaid : Prop := wordNamesUptoRow.holds Tryd.pinned (OpenSpec.upto wordNamesSpec)

/-- 'newswirelaw11.WordThousands', WHERE WHAT IT READS IS OF BULK AT MOST 1048576: true; the input reads as it did. -/
def wordThousandsUptoRow : OpenClaim := { program := "ytebdpdmkehfgfaadoor", sum := "e17c00a5586f0dae40a35cd3b39faaf99e2fa2d0d88b6b4cad8a5d9de819e389", func := "newswire/newswirelaw11.WordThousands", spec := "wordThousands", inPlace := ["internal/bytealg.IndexByteString", "internal/bytealg.IndexString"], unfollowed := true, recurses := true, named := ["newswire/word.ones", "newswire/word.tens", "internal/bytealg.MaxLen", "newswire/word.hundreds", "newswire/word.months", "newswire/word.weekdays"], apart := false, laid := [("newswire/word.hundreds", laid_newswire_word_hundreds), ("newswire/word.ones", laid_newswire_word_ones), ("newswire/word.tens", laid_newswire_word_tens), ("newswire/word.months", laid_newswire_word_months), ("newswire/word.weekdays", laid_newswire_word_weekdays)], narrowed := true }
def WordThousandsUptoSaid : Prop := wordThousandsUptoRow.holds Tryd.pinned (OpenSpec.upto wordThousandsSpec)

end Rows
end Go.Proofs.YtebdpdmkehfgfaaDoor
