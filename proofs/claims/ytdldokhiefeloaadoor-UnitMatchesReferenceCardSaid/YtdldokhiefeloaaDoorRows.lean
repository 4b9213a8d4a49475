/-
  NARROWER THAN 'FOR EVERY INPUT', by the rows' own cells (each row's printed sentence says how): UnitMatchesReference: laid · UnitOutward: laid · UnitBack: laid · UnitMonotone: laid · UnitSums: laid · UnitCoarser: laid · CalendarMatchesReference: laid · CalendarThereAndBack: laid · CalendarOrder: laid · CalendarNext: laid · CalendarOffsets: laid · CalendarYears: laid.
  DERIVED. THE GIVEN ROWS OF THIS SEAT. 12 by the template 'for every input the law returns true; each argument reads behind the call as it read before'; 0 by the template 'total and deterministic' (their statements: YtdldokhiefeloaaDoorTotals.lean).
  GIVEN WITH THE SEED: the statements are not yours to turn. If you find one false, say at which input.
  Laid BY PROGRAM, IN A SANDBOX (cutbox-rows.mjs): the forced cells as the released guide's own fill.sh prints them over the translation 6bbe134ab03c93e0… (all of the seat's roots in one cut). By AI agents, Wed Nov 11 2026. No macro, syntax, notation, axiom, sorry.
-/
import Derived.Test.YtdldokhiefeloaaDoorChecked
import GoSem.PinnedTables
import GoSem.Claim
import GoSem.ClaimJoined
import GoSem.ClaimMapViews
import Derived.JoinedTies
import Derived.KernelRfl
namespace Go.Proofs.YtdldokhiefeloaaDoor
/- THE CELL 'sum', in the pinned program and in every row, IS THE sha256 OF THE DUMP (.gsa) THAT YtdldokhiefeloaaDoorProg.lean LOADS. Nothing in Lean hashes anything: it is a label: what it is worth is what the hold of that sum in a sandbox is worth. -/
noncomputable def Tryd.pinned : Pinned := { name := "ytdldokhiefeloaadoor", sum := "6bbe134ab03c93e0b8bf35ba66efce952024168a8c8e1dd6bb1ff0e3c513de82", checked := Tryd.checked }
namespace Rows
def none {H : Type} : Left H := { results := [], args := [] }

/- WHAT THE LISTED PACKAGE-LEVEL VARIABLES READ AS WHEN THE CALL BEGINS. Each datum BY PROGRAM (the guide's laid-datum.mjs) off the statement by which the dump's own 'gosem.cut.vars' lays the variable. In a bare row this is a premise. The card (YtdldokhiefeloaaDoorCards.lean) ties it to the program's text. -/
def laid_newswire_unit_measures {H : Type} : DataW H := .agg [.agg [.lit (.int .i64 0), .lit (.int .i64 0), .lit (.int .i64 0)], .agg [.lit (.int .i64 1), .lit (.int .i64 1), .lit (.int .i64 1)], .agg [.lit (.int .i64 2), .lit (.int .i64 1), .lit (.int .i64 1)], .agg [.lit (.int .i64 2), .lit (.int .i64 3048), .lit (.int .i64 10000)], .agg [.lit (.int .i64 3), .lit (.int .i64 1), .lit (.int .i64 1)], .agg [.lit (.int .i64 3), .lit (.int .i64 45359237), .lit (.int .i64 100000000)], .agg [.lit (.int .i64 4), .lit (.int .i64 1), .lit (.int .i64 1)], .agg [.lit (.int .i64 4), .lit (.int .i64 1), .lit (.int .i64 1)]]
def laid_unicode_utf8_acceptRanges {H : Type} : DataW H := .agg [.agg [.lit (.int .u8 128), .lit (.int .u8 191)], .agg [.lit (.int .u8 160), .lit (.int .u8 191)], .agg [.lit (.int .u8 128), .lit (.int .u8 159)], .agg [.lit (.int .u8 144), .lit (.int .u8 191)], .agg [.lit (.int .u8 128), .lit (.int .u8 143)], .agg [.lit (.int .u8 0), .lit (.int .u8 0)], .agg [.lit (.int .u8 0), .lit (.int .u8 0)], .agg [.lit (.int .u8 0), .lit (.int .u8 0)], .agg [.lit (.int .u8 0), .lit (.int .u8 0)], .agg [.lit (.int .u8 0), .lit (.int .u8 0)], .agg [.lit (.int .u8 0), .lit (.int .u8 0)], .agg [.lit (.int .u8 0), .lit (.int .u8 0)], .agg [.lit (.int .u8 0), .lit (.int .u8 0)], .agg [.lit (.int .u8 0), .lit (.int .u8 0)], .agg [.lit (.int .u8 0), .lit (.int .u8 0)], .agg [.lit (.int .u8 0), .lit (.int .u8 0)]]
def laid_newswire_calendar_lengths {H : Type} : DataW H := .agg [.lit (.int .i64 31), .lit (.int .i64 28), .lit (.int .i64 31), .lit (.int .i64 30), .lit (.int .i64 31), .lit (.int .i64 30), .lit (.int .i64 31), .lit (.int .i64 31), .lit (.int .i64 30), .lit (.int .i64 31), .lit (.int .i64 30), .lit (.int .i64 31)]
/-- One of Go's own tables, pinned by name: the form's constant. -/
def laid_unicode_utf8_first : DataW Unit := Go.Pinned.utf8First

/-- 'newswirelaw05.UnitMatchesReference': WHATEVER THE INPUT: true; the input reads as it did. -/
def unitMatchesReferenceSpec : ChangeSpec := { name := "unitMatchesReference", fn := fun _ => fun
  | [d1, d2, d3, d4, d5, d6, d7, d8, d9, d10] => { results := [.lit (.bool true)], args := [d1, d2, d3, d4, d5, d6, d7, d8, d9, d10] }
  | _ => none }
def unitMatchesReferenceRow : OpenClaim := { program := "ytdldokhiefeloaadoor", sum := "6bbe134ab03c93e0b8bf35ba66efce952024168a8c8e1dd6bb1ff0e3c513de82", func := "newswire/newswirelaw05.UnitMatchesReference", spec := "unitMatchesReference", unfollowed := true, recurses := true, named := ["newswire/unit.measures"], apart := false, laid := [("newswire/unit.measures", laid_newswire_unit_measures)] }
def UnitMatchesReferenceSaid : Prop := unitMatchesReferenceRow.holds Tryd.pinned (OpenSpec.ofChange unitMatchesReferenceSpec)

/-- ITS FALSE NEIGHBOUR: 'it returns false'. Refute it at one input. -/
def unitMatchesReferenceWrong : ChangeSpec := { name := "unitMatchesReference", fn := fun _ => fun
  | [d1, d2, d3, d4, d5, d6, d7, d8, d9, d10] => { results := [.lit (.bool false)], args := [d1, d2, d3, d4, d5, d6, d7, d8, d9, d10] }
  | _ => none }
def UnitMatchesReferenceWrongFalsely : Prop := unitMatchesReferenceRow.holds Tryd.pinned (OpenSpec.ofChange unitMatchesReferenceWrong)

/-- 'newswirelaw05.UnitOutward': WHATEVER THE INPUT: true; the input reads as it did. -/
def unitOutwardSpec : ChangeSpec := { name := "unitOutward", fn := fun _ => fun
  | [d1, d2, d3, d4, d5, d6] => { results := [.lit (.bool true)], args := [d1, d2, d3, d4, d5, d6] }
  | _ => none }
def unitOutwardRow : OpenClaim := { program := "ytdldokhiefeloaadoor", sum := "6bbe134ab03c93e0b8bf35ba66efce952024168a8c8e1dd6bb1ff0e3c513de82", func := "newswire/newswirelaw05.UnitOutward", spec := "unitOutward", unfollowed := true, recurses := true, named := ["newswire/unit.measures"], apart := false, laid := [("newswire/unit.measures", laid_newswire_unit_measures)] }
def UnitOutwardSaid : Prop := unitOutwardRow.holds Tryd.pinned (OpenSpec.ofChange unitOutwardSpec)

/-- ITS FALSE NEIGHBOUR: 'it returns false'. Refute it at one input. -/
def unitOutwardWrong : ChangeSpec := { name := "unitOutward", fn := fun _ => fun
  | [d1, d2, d3, d4, d5, d6] => { results := [.lit (.bool false)], args := [d1, d2, d3, d4, d5, d6] }
  | _ => none }
def UnitOutwardWrongFalsely : Prop := unitOutwardRow.holds Tryd.pinned (OpenSpec.ofChange unitOutwardWrong)

/-- 'newswirelaw05.UnitBack': WHATEVER THE INPUT: true; the input reads as it did. -/
def unitBackSpec : ChangeSpec := { name := "unitBack", fn := fun _ => fun
  | [d1, d2] => { results := [.lit (.bool true)], args := [d1, d2] }
  | _ => none }
def unitBackRow : OpenClaim := { program := "ytdldokhiefeloaadoor", sum := "6bbe134ab03c93e0b8bf35ba66efce952024168a8c8e1dd6bb1ff0e3c513de82", func := "newswire/newswirelaw05.UnitBack", spec := "unitBack", unfollowed := true, recurses := true, named := ["newswire/unit.measures"], apart := false, laid := [("newswire/unit.measures", laid_newswire_unit_measures)] }
def UnitBackSaid : Prop := unitBackRow.holds Tryd.pinned (OpenSpec.ofChange unitBackSpec)

/-- ITS FALSE NEIGHBOUR: 'it returns false'. Refute it at one input. -/
def unitBackWrong : ChangeSpec := { name := "unitBack", fn := fun _ => fun
  | [d1, d2] => { results := [.lit (.bool false)], args := [d1, d2] }
  | _ => none }
def UnitBackWrongFalsely : Prop := unitBackRow.holds Tryd.pinned (OpenSpec.ofChange unitBackWrong)

/-- 'newswirelaw05.UnitMonotone': WHATEVER THE INPUT: true; the input reads as it did. -/
def unitMonotoneSpec : ChangeSpec := { name := "unitMonotone", fn := fun _ => fun
  | [d1, d2, d3, d4, d5, d6, d7, d8] => { results := [.lit (.bool true)], args := [d1, d2, d3, d4, d5, d6, d7, d8] }
  | _ => none }
def unitMonotoneRow : OpenClaim := { program := "ytdldokhiefeloaadoor", sum := "6bbe134ab03c93e0b8bf35ba66efce952024168a8c8e1dd6bb1ff0e3c513de82", func := "newswire/newswirelaw05.UnitMonotone", spec := "unitMonotone", unfollowed := true, recurses := true, named := ["newswire/unit.measures"], apart := false, laid := [("newswire/unit.measures", laid_newswire_unit_measures)] }
def UnitMonotoneSaid : Prop := unitMonotoneRow.holds Tryd.pinned (OpenSpec.ofChange unitMonotoneSpec)

/-- ITS FALSE NEIGHBOUR: 'it returns false'. Refute it at one input. -/
def unitMonotoneWrong : ChangeSpec := { name := "unitMonotone", fn := fun _ => fun
  | [d1, d2, d3, d4, d5, d6, d7, d8] => { results := [.lit (.bool false)], args := [d1, d2, d3, d4, d5, d6, d7, d8] }
  | _ => none }
def UnitMonotoneWrongFalsely : Prop := unitMonotoneRow.holds Tryd.pinned (OpenSpec.ofChange unitMonotoneWrong)

/-- 'newswirelaw05.UnitSums': WHATEVER THE INPUT: true; the input reads as it did. -/
def unitSumsSpec : ChangeSpec := { name := "unitSums", fn := fun _ => fun
  | [d1, d2, d3, d4] => { results := [.lit (.bool true)], args := [d1, d2, d3, d4] }
  | _ => none }
def unitSumsRow : OpenClaim := { program := "ytdldokhiefeloaadoor", sum := "6bbe134ab03c93e0b8bf35ba66efce952024168a8c8e1dd6bb1ff0e3c513de82", func := "newswire/newswirelaw05.UnitSums", spec := "unitSums", unfollowed := true, recurses := true, named := ["newswire/unit.measures"], apart := false, laid := [("newswire/unit.measures", laid_newswire_unit_measures)] }
def UnitSumsSaid : Prop := unitSumsRow.holds Tryd.pinned (OpenSpec.ofChange unitSumsSpec)

/-- ITS FALSE NEIGHBOUR: 'it returns false'. Refute it at one input. -/
def unitSumsWrong : ChangeSpec := { name := "unitSums", fn := fun _ => fun
  | [d1, d2, d3, d4] => { results := [.lit (.bool false)], args := [d1, d2, d3, d4] }
  | _ => none }
def UnitSumsWrongFalsely : Prop := unitSumsRow.holds Tryd.pinned (OpenSpec.ofChange unitSumsWrong)

/-- 'newswirelaw05.UnitCoarser': WHATEVER THE INPUT: true; the input reads as it did. -/
def unitCoarserSpec : ChangeSpec := { name := "unitCoarser", fn := fun _ => fun
  | [d1, d2, d3, d4, d5] => { results := [.lit (.bool true)], args := [d1, d2, d3, d4, d5] }
  | _ => none }
def unitCoarserRow : OpenClaim := { program := "ytdldokhiefeloaadoor", sum := "6bbe134ab03c93e0b8bf35ba66efce952024168a8c8e1dd6bb1ff0e3c513de82", func := "newswire/newswirelaw05.UnitCoarser", spec := "unitCoarser", unfollowed := true, recurses := true, named := ["newswire/unit.measures"], apart := false, laid := [("newswire/unit.measures", laid_newswire_unit_measures)] }
def UnitCoarserSaid : Prop := unitCoarserRow.holds Tryd.pinned (OpenSpec.ofChange unitCoarserSpec)

/-- ITS FALSE NEIGHBOUR: 'it returns false'. Refute it at one input. -/
def unitCoarserWrong : ChangeSpec := { name := "unitCoarser", fn := fun _ => fun
  | [d1, d2, d3, d4, d5] => { results := [.lit (.bool false)], args := [d1, d2, d3, d4, d5] }
  | _ => none }
def UnitCoarserWrongFalsely : Prop := unitCoarserRow.holds Tryd.pinned (OpenSpec.ofChange unitCoarserWrong)

/-- 'newswirelaw06.CalendarMatchesReference': WHATEVER THE INPUT: true; the input reads as it did. -/
def calendarMatchesReferenceSpec : ChangeSpec := { name := "calendarMatchesReference", fn := fun _ => fun
  | [d1, d2, d3, d4, d5, d6, d7] => { results := [.lit (.bool true)], args := [d1, d2, d3, d4, d5, d6, d7] }
  | _ => none }
def calendarMatchesReferenceRow : OpenClaim := { program := "ytdldokhiefeloaadoor", sum := "6bbe134ab03c93e0b8bf35ba66efce952024168a8c8e1dd6bb1ff0e3c513de82", func := "newswire/newswirelaw06.CalendarMatchesReference", spec := "calendarMatchesReference", inPlace := ["internal/abi.NoEscape", "internal/bytealg.MakeNoZero", "internal/bytealg.CountString", "internal/bytealg.IndexByteString", "internal/bytealg.IndexString"], unfollowed := true, recurses := true, named := ["newswire/calendar.lengths", "unicode/utf8.first", "unicode/utf8.acceptRanges", "internal/bytealg.MaxLen"], apart := false, laid := [("unicode/utf8.acceptRanges", laid_unicode_utf8_acceptRanges), ("newswire/calendar.lengths", laid_newswire_calendar_lengths), ("unicode/utf8.first", laid_unicode_utf8_first)] }
def CalendarMatchesReferenceSaid : Prop := calendarMatchesReferenceRow.holds Tryd.pinned (OpenSpec.ofChange calendarMatchesReferenceSpec)

/-- ITS FALSE NEIGHBOUR: 'it returns false'. Refute it at one input. -/
def calendarMatchesReferenceWrong : ChangeSpec := { name := "calendarMatchesReference", fn := fun _ => fun
  | [d1, d2, d3, d4, d5, d6, d7] => { results := [.lit (.bool false)], args := [d1, d2, d3, d4, d5, d6, d7] }
  | _ => none }
def CalendarMatchesReferenceWrongFalsely : Prop := calendarMatchesReferenceRow.holds Tryd.pinned (OpenSpec.ofChange calendarMatchesReferenceWrong)

/-- 'newswirelaw06.CalendarThereAndBack': WHATEVER THE INPUT: true; the input reads as it did. -/
def calendarThereAndBackSpec : ChangeSpec := { name := "calendarThereAndBack", fn := fun _ => fun
  | [d1, d2, d3, d4, d5] => { results := [.lit (.bool true)], args := [d1, d2, d3, d4, d5] }
  | _ => none }
def calendarThereAndBackRow : OpenClaim := { program := "ytdldokhiefeloaadoor", sum := "6bbe134ab03c93e0b8bf35ba66efce952024168a8c8e1dd6bb1ff0e3c513de82", func := "newswire/newswirelaw06.CalendarThereAndBack", spec := "calendarThereAndBack", inPlace := ["internal/abi.NoEscape", "internal/bytealg.MakeNoZero", "internal/bytealg.CountString", "internal/bytealg.IndexByteString", "internal/bytealg.IndexString"], unfollowed := true, recurses := true, named := ["newswire/calendar.lengths", "unicode/utf8.first", "unicode/utf8.acceptRanges", "internal/bytealg.MaxLen"], apart := false, laid := [("unicode/utf8.acceptRanges", laid_unicode_utf8_acceptRanges), ("newswire/calendar.lengths", laid_newswire_calendar_lengths), ("unicode/utf8.first", laid_unicode_utf8_first)] }
def CalendarThereAndBackSaid : Prop := calendarThereAndBackRow.holds Tryd.pinned (OpenSpec.ofChange calendarThereAndBackSpec)

/-- ITS FALSE NEIGHBOUR: 'it returns false'. Refute it at one input. -/
def calendarThereAndBackWrong : ChangeSpec := { name := "calendarThereAndBack", fn := fun _ => fun
  | [d1, d2, d3, d4, d5] => { results := [.lit (.bool false)], args := [d1, d2, d3, d4, d5] }
  | _ => none }
def CalendarThereAndBackWrongFalsely : Prop := calendarThereAndBackRow.holds Tryd.pinned (OpenSpec.ofChange calendarThereAndBackWrong)

/-- 'newswirelaw06.CalendarOrder': WHATEVER THE INPUT: true; the input reads as it did. -/
def calendarOrderSpec : ChangeSpec := { name := "calendarOrder", fn := fun _ => fun
  | [d1, d2, d3, d4] => { results := [.lit (.bool true)], args := [d1, d2, d3, d4] }
  | _ => none }
def calendarOrderRow : OpenClaim := { program := "ytdldokhiefeloaadoor", sum := "6bbe134ab03c93e0b8bf35ba66efce952024168a8c8e1dd6bb1ff0e3c513de82", func := "newswire/newswirelaw06.CalendarOrder", spec := "calendarOrder", inPlace := ["internal/abi.NoEscape", "internal/bytealg.MakeNoZero", "internal/bytealg.CountString", "internal/bytealg.IndexByteString", "internal/bytealg.IndexString"], unfollowed := true, recurses := true, named := ["newswire/calendar.lengths", "unicode/utf8.first", "unicode/utf8.acceptRanges", "internal/bytealg.MaxLen"], apart := false, laid := [("unicode/utf8.acceptRanges", laid_unicode_utf8_acceptRanges), ("newswire/calendar.lengths", laid_newswire_calendar_lengths), ("unicode/utf8.first", laid_unicode_utf8_first)] }
def CalendarOrderSaid : Prop := calendarOrderRow.holds Tryd.pinned (OpenSpec.ofChange calendarOrderSpec)

/-- ITS FALSE NEIGHBOUR: 'it returns false'. Refute it at one input. -/
def calendarOrderWrong : ChangeSpec := { name := "calendarOrder", fn := fun _ => fun
  | [d1, d2, d3, d4] => { results := [.lit (.bool false)], args := [d1, d2, d3, d4] }
  | _ => none }
def CalendarOrderWrongFalsely : Prop := calendarOrderRow.holds Tryd.pinned (OpenSpec.ofChange calendarOrderWrong)

/-- 'newswirelaw06.CalendarNext': WHATEVER THE INPUT: true; the input reads as it did. -/
def calendarNextSpec : ChangeSpec := { name := "calendarNext", fn := fun _ => fun
  | [d1, d2] => { results := [.lit (.bool true)], args := [d1, d2] }
  | _ => none }
def calendarNextRow : OpenClaim := { program := "ytdldokhiefeloaadoor", sum := "6bbe134ab03c93e0b8bf35ba66efce952024168a8c8e1dd6bb1ff0e3c513de82", func := "newswire/newswirelaw06.CalendarNext", spec := "calendarNext", inPlace := ["internal/abi.NoEscape", "internal/bytealg.MakeNoZero", "internal/bytealg.CountString", "internal/bytealg.IndexByteString", "internal/bytealg.IndexString"], unfollowed := true, recurses := true, named := ["newswire/calendar.lengths", "unicode/utf8.first", "unicode/utf8.acceptRanges", "internal/bytealg.MaxLen"], apart := false, laid := [("unicode/utf8.acceptRanges", laid_unicode_utf8_acceptRanges), ("newswire/calendar.lengths", laid_newswire_calendar_lengths), ("unicode/utf8.first", laid_unicode_utf8_first)] }
def CalendarNextSaid : Prop := calendarNextRow.holds Tryd.pinned (OpenSpec.ofChange calendarNextSpec)

/-- ITS FALSE NEIGHBOUR: 'it returns false'. Refute it at one input. -/
def calendarNextWrong : ChangeSpec := { name := "calendarNext", fn := fun _ => fun
  | [d1, d2] => { results := [.lit (.bool false)], args := [d1, d2] }
  | _ => none }
def CalendarNextWrongFalsely : Prop := calendarNextRow.holds Tryd.pinned (OpenSpec.ofChange calendarNextWrong)

/-- 'newswirelaw06.CalendarOffsets': WHATEVER THE INPUT: true; the input reads as it did. -/
def calendarOffsetsSpec : ChangeSpec := { name := "calendarOffsets", fn := fun _ => fun
  | [d1, d2, d3] => { results := [.lit (.bool true)], args := [d1, d2, d3] }
  | _ => none }
def calendarOffsetsRow : OpenClaim := { program := "ytdldokhiefeloaadoor", sum := "6bbe134ab03c93e0b8bf35ba66efce952024168a8c8e1dd6bb1ff0e3c513de82", func := "newswire/newswirelaw06.CalendarOffsets", spec := "calendarOffsets", inPlace := ["internal/abi.NoEscape", "internal/bytealg.MakeNoZero", "internal/bytealg.CountString", "internal/bytealg.IndexByteString", "internal/bytealg.IndexString"], unfollowed := true, recurses := true, named := ["newswire/calendar.lengths", "unicode/utf8.first", "unicode/utf8.acceptRanges", "internal/bytealg.MaxLen"], apart := false, laid := [("unicode/utf8.acceptRanges", laid_unicode_utf8_acceptRanges), ("newswire/calendar.lengths", laid_newswire_calendar_lengths), ("unicode/utf8.first", laid_unicode_utf8_first)] }
def CalendarOffsetsSaid : Prop := calendarOffsetsRow.holds Tryd.pinned (OpenSpec.ofChange calendarOffsetsSpec)

/-- ITS FALSE NEIGHBOUR: 'it returns false'. Refute it at one input. -/
def calendarOffsetsWrong : ChangeSpec := { name := "calendarOffsets", fn := fun _ => fun
  | [d1, d2, d3] => { results := [.lit (.bool false)], args := [d1, d2, d3] }
  | _ => none }
def CalendarOffsetsWrongFalsely : Prop := calendarOffsetsRow.holds Tryd.pinned (OpenSpec.ofChange calendarOffsetsWrong)

/-- 'newswirelaw06.CalendarYears': WHATEVER THE INPUT: true; the input reads as it did. -/
def calendarYearsSpec : ChangeSpec := { name := "calendarYears", fn := fun _ => fun
  | [d] => { results := [.lit (.bool true)], args := [d] }
  | _ => none }
def calendarYearsRow : OpenClaim := { program := "ytdldokhiefeloaadoor", sum := "6bbe134ab03c93e0b8bf35ba66efce952024168a8c8e1dd6bb1ff0e3c513de82", func := "newswire/newswirelaw06.CalendarYears", spec := "calendarYears", inPlace := ["internal/abi.NoEscape", "internal/bytealg.MakeNoZero", "internal/bytealg.CountString", "internal/bytealg.IndexByteString", "internal/bytealg.IndexString"], unfollowed := true, recurses := true, named := ["newswire/calendar.lengths", "unicode/utf8.first", "unicode/utf8.acceptRanges", "internal/bytealg.MaxLen"], apart := false, laid := [("unicode/utf8.acceptRanges", laid_unicode_utf8_acceptRanges), ("newswire/calendar.lengths", laid_newswire_calendar_lengths), ("unicode/utf8.first", laid_unicode_utf8_first)] }
def CalendarYearsSaid : Prop := calendarYearsRow.holds Tryd.pinned (OpenSpec.ofChange calendarYearsSpec)

/-- ITS FALSE NEIGHBOUR: 'it returns false'. Refute it at one input. -/
def calendarYearsWrong : ChangeSpec := { name := "calendarYears", fn := fun _ => fun
  | [d] => { results := [.lit (.bool false)], args := [d] }
  | _ => none }
def CalendarYearsWrongFalsely : Prop := calendarYearsRow.holds Tryd.pinned (OpenSpec.ofChange calendarYearsWrong)

/- THE SECOND FORM. 'bulk': how many values and letters a reading holds, each counted each time it is reached (what is shared counts as often as it is met; a slice's spare places count too). A statement '..UptoSaid' is the law's where the arguments, and the package variables that the reading takes, are together of bulk at most 1048576: NARROWER than '..Said'. Prove '..Said' where nothing that the law and all that it calls make is longer than what came in: it says more and counts as full. Else prove '..UptoSaid'. A law counts once. -/
mutual
def uptoBulk {H : Type} : DataW H → Nat
  | .lit (.string bytes) => bytes.length + 1
  | .lit _ => 1
  | .nil => 1
  | .ptr d => uptoBulk d + 1
  | .slice elems spare => uptoBulkAll elems + uptoBulkAll spare + 1
  | .agg parts => uptoBulkAll parts + 1
  | .iface _ d => uptoBulk d + 1
  | .map entries => uptoBulkEntries entries + 1
  | .held _ => 1
def uptoBulkAll {H : Type} : List (DataW H) → Nat
  | [] => 0
  | d :: r => uptoBulk d + uptoBulkAll r
def uptoBulkEntries {H : Type} : List (Lit × DataW H) → Nat
  | [] => 0
  | x :: r => uptoBulkEntry x + uptoBulkEntries r
def uptoBulkEntry {H : Type} : Lit × DataW H → Nat
  | (.string bytes, d) => bytes.length + uptoBulk d + 1
  | (_, d) => uptoBulk d + 1
 end
def uptoSmall : (H : Type) → List (DataW H) → Bool := fun _ ds => decide (uptoBulkAll ds ≤ 1048576)
def OpenSpec.upto (s : _root_.Go.ChangeSpec) : _root_.Go.OpenSpec := { _root_.Go.OpenSpec.ofChange s with cond := some uptoSmall }

/-- 'newswirelaw05.UnitMatchesReference', WHERE WHAT IT READS IS OF BULK AT MOST 1048576: true; the input reads as it did. -/
def unitMatchesReferenceUptoRow : OpenClaim := { program := "ytdldokhiefeloaadoor", sum := "6bbe134ab03c93e0b8bf35ba66efce952024168a8c8e1dd6bb1ff0e3c513de82", func := "newswire/newswirelaw05.UnitMatchesReference", spec := "unitMatchesReference", unfollowed := true, recurses := true, named := ["newswire/unit.measures"], apart := false, laid := [("newswire/unit.measures", laid_newswire_unit_measures)], narrowed := true }
def UnitMatchesReferenceUptoSaid : Prop := unitMatchesReferenceUptoRow.holds Tryd.pinned (OpenSpec.upto unitMatchesReferenceSpec)

/-- 'newswirelaw05.UnitOutward', WHERE WHAT IT READS IS OF BULK AT MOST 1048576: true; the input reads as it did. -/
def unitOutwardUptoRow : OpenClaim := { program := "ytdldokhiefeloaadoor", sum := "6bbe134ab03c93e0b8bf35ba66efce952024168a8c8e1dd6bb1ff0e3c513de82", func := "newswire/newswirelaw05.UnitOutward", spec := "unitOutward", unfollowed := true, recurses := true, named := ["newswire/unit.measures"], apart := false, laid := [("newswire/unit.measures", laid_newswire_unit_measures)], narrowed := true }
def UnitOutwardUptoSaid : Prop := unitOutwardUptoRow.holds Tryd.pinned (OpenSpec.upto unitOutwardSpec)

/-- 'newswirelaw05.UnitBack', WHERE WHAT IT READS IS OF BULK AT MOST 1048576: true; the input reads as it did. -/
def unitBackUptoRow : OpenClaim := { program := "ytdldokhiefeloaadoor", sum := "6bbe134ab03c93e0b8bf35ba66efce952024168a8c8e1dd6bb1ff0e3c513de82", func := "newswire/newswirelaw05.UnitBack", spec := "unitBack", unfollowed := true, recurses := true, named := ["newswire/unit.measures"], apart := false, laid := [("newswire/unit.measures", laid_newswire_unit_measures)], narrowed := true }
def UnitBackUptoSaid : Prop := unitBackUptoRow.holds Tryd.pinned (OpenSpec.upto unitBackSpec)

/-- 'newswirelaw05.UnitMonotone', WHERE WHAT IT READS IS OF BULK AT MOST 1048576: true; the input reads as it did. -/
def unitMonotoneUptoRow : OpenClaim := { program := "ytdldokhiefeloaadoor", sum := "6bbe134ab03c93e0b8bf35ba66efce952024168a8c8e1dd6bb1ff0e3c513de82", func := "newswire/newswirelaw05.UnitMonotone", spec := "unitMonotone", unfollowed := true, recurses := true, named := ["newswire/unit.measures"], apart := false, laid := [("newswire/unit.measures", laid_newswire_unit_measures)], narrowed := true }
def UnitMonotoneUptoSaid : Prop := unitMonotoneUptoRow.holds Tryd.pinned (OpenSpec.upto unitMonotoneSpec)

/-- 'newswirelaw05.UnitSums', WHERE WHAT IT READS IS OF BULK AT MOST 1048576: true; the input reads as it did. -/
def unitSumsUptoRow : OpenClaim := { program := "ytdldokhiefeloaadoor", sum := "6bbe134ab03c93e0b8bf35ba66efce952024168a8c8e1dd6bb1ff0e3c513de82", func := "newswire/newswirelaw05.UnitSums", spec := "unitSums", unfollowed := true, recurses := true, named := ["newswire/unit.measures"], apart := false, laid := [("newswire/unit.measures", laid_newswire_unit_measures)], narrowed := true }
def UnitSumsUptoSaid : Prop := unitSumsUptoRow.holds Tryd.pinned (OpenSpec.upto unitSumsSpec)

/-- 'newswirelaw05.UnitCoarser', WHERE WHAT IT READS IS OF BULK AT MOST 1048576: true; the input reads as it did. -/
def unitCoarserUptoRow : OpenClaim := { program := "ytdldokhiefeloaadoor", sum := "6bbe134ab03c93e0b8bf35ba66efce952024168a8c8e1dd6bb1ff0e3c513de82", func := "newswire/newswirelaw05.UnitCoarser", spec := "unitCoarser", unfollowed := true, recurses := true, named := ["newswire/unit.measures"], apart := false, laid := [("newswire/unit.measures", laid_newswire_unit_measures)], narrowed := true }
def UnitCoarserUptoSaid : Prop := unitCoarserUptoRow.holds Tryd.pinned (OpenSpec.upto unitCoarserSpec)

/-- 'newswirelaw06.CalendarMatchesReference', WHERE WHAT IT READS IS OF BULK AT MOST 1048576: true; the input reads as it did. -/
def calendarMatchesReferenceUptoRow : OpenClaim := { program := "ytdldokhiefeloaadoor", sum := "6bbe134ab03c93e0b8bf35ba66efce952024168a8c8e1dd6bb1ff0e3c513de82", func := "newswire/newswirelaw06.CalendarMatchesReference", spec := "calendarMatchesReference", inPlace := ["internal/abi.NoEscape", "internal/bytealg.MakeNoZero", "internal/bytealg.CountString", "internal/bytealg.IndexByteString", "internal/bytealg.IndexString"], unfollowed := true, recurses := true, named := ["newswire/calendar.lengths", "unicode/utf8.first", "unicode/utf8.acceptRanges", "internal/bytealg.MaxLen"], apart := false, laid := [("unicode/utf8.acceptRanges", laid_unicode_utf8_acceptRanges), ("newswire/calendar.lengths", laid_newswire_calendar_lengths), ("unicode/utf8.first", laid_unicode_utf8_first)], narrowed := true }
def CalendarMatchesReferenceUptoSaid : Prop := calendarMatchesReferenceUptoRow.holds Tryd.pinned (OpenSpec.upto calendarMatchesReferenceSpec)

/-- 'newswirelaw06.CalendarThereAndBack', WHERE WHAT IT READS IS OF BULK AT MOST 1048576: true; the input reads as it did. -/
def calendarThereAndBackUptoRow : OpenClaim := { program := "ytdldokhiefeloaadoor", sum := "6bbe134ab03c93e0b8bf35ba66efce952024168a8c8e1dd6bb1ff0e3c513de82", func := "newswire/newswirelaw06.CalendarThereAndBack", spec := "calendarThereAndBack", inPlace := ["internal/abi.NoEscape", "internal/bytealg.MakeNoZero", "internal/bytealg.CountString", "internal/bytealg.IndexByteString", "internal/bytealg.IndexString"], unfollowed := true, recurses := true, named := ["newswire/calendar.lengths", "unicode/utf8.first", "unicode/utf8.acceptRanges", "internal/bytealg.MaxLen"], apart := false, laid := [("unicode/utf8.acceptRanges", laid_unicode_utf8_acceptRanges), ("newswire/calendar.lengths", laid_newswire_calendar_lengths), ("unicode/utf8.first", laid_unicode_utf8_first)], narrowed := true }
def CalendarThereAndBackUptoSaid : Prop := calendarThereAndBackUptoRow.holds Tryd.pinned (OpenSpec.upto calendarThereAndBackSpec)

/-- 'newswirelaw06.CalendarOrder', WHERE WHAT IT READS IS OF BULK AT MOST 1048576: true; the input reads as it did. -/
def calendarOrderUptoRow : OpenClaim := { program := "ytdldokhiefeloaadoor", sum := "6bbe134ab03c93e0b8bf35ba66efce952024168a8c8e1dd6bb1ff0e3c513de82", func := "newswire/newswirelaw06.CalendarOrder", spec := "calendarOrder", inPlace := ["internal/abi.NoEscape", "internal/bytealg.MakeNoZero", "internal/bytealg.CountString", "internal/bytealg.IndexByteString", "internal/bytealg.IndexString"], unfollowed := true, recurses := true, named := ["newswire/calendar.lengths", "unicode/utf8.first", "unicode/utf8.acceptRanges", "internal/bytealg.MaxLen"], apart := false, laid := [("unicode/utf8.acceptRanges", laid_unicode_utf8_acceptRanges), ("newswire/calendar.lengths", laid_newswire_calendar_lengths), ("unicode/utf8.first", laid_unicode_utf8_first)], narrowed := true }
def CalendarOrderUptoSaid : Prop := calendarOrderUptoRow.holds Tryd.pinned (OpenSpec.upto calendarOrderSpec)

/-- 'newswirelaw06.CalendarNext', WHERE WHAT IT READS IS OF BULK AT MOST 1048576: true; the input reads as it did. -/
def calendarNextUptoRow : OpenClaim := { program := "ytdldokhiefeloaadoor", sum := "6bbe134ab03c93e0b8bf35ba66efce952024168a8c8e1dd6bb1ff0e3c513de82", func := "newswire/newswirelaw06.CalendarNext", spec := "calendarNext", inPlace := ["internal/abi.NoEscape", "internal/bytealg.MakeNoZero", "internal/bytealg.CountString", "internal/bytealg.IndexByteString", "internal/bytealg.IndexString"], unfollowed := true, recurses := true, named := ["newswire/calendar.lengths", "unicode/utf8.first", "unicode/utf8.acceptRanges", "internal/bytealg.MaxLen"], apart := false, laid := [("unicode/utf8.acceptRanges", laid_unicode_utf8_acceptRanges), ("newswire/calendar.lengths", laid_newswire_calendar_lengths), ("unicode/utf8.first", laid_unicode_utf8_first)], narrowed := true }
def CalendarNextUptoSaid : Prop := calendarNextUptoRow.holds Tryd.pinned (OpenSpec.upto calendarNextSpec)

/-- 'newswirelaw06.CalendarOffsets', WHERE WHAT IT READS IS OF BULK AT MOST 1048576: true; the input reads as it did. -/
def calendarOffsetsUptoRow : OpenClaim := { program := "ytdldokhiefeloaadoor", sum := "6bbe134ab03c93e0b8bf35ba66efce952024168a8c8e1dd6bb1ff0e3c513de82", func := "newswire/newswirelaw06.CalendarOffsets", spec := "calendarOffsets", inPlace := ["internal/abi.NoEscape", "internal/bytealg.MakeNoZero", "internal/bytealg.CountString", "internal/bytealg.IndexByteString", "internal/bytealg.IndexString"], unfollowed := true, recurses := true, named := ["newswire/calendar.lengths", "unicode/utf8.first", "unicode/utf8.acceptRanges", "internal/bytealg.MaxLen"], apart := false, laid := [("unicode/utf8.acceptRanges", laid_unicode_utf8_acceptRanges), ("newswire/calendar.lengths", laid_newswire_calendar_lengths), ("unicode/utf8.first", laid_unicode_utf8_first)], narrowed := true }
def CalendarOffsetsUptoSaid : Prop := calendarOffsetsUptoRow.holds Tryd.pinned (OpenSpec.upto calendarOffsetsSpec)

/-- 'newswirelaw06.CalendarYears', WHERE WHAT IT READS IS OF BULK AT MOST 1048576: true; the input reads as it did. -/
def calendarYearsUptoRow : OpenClaim := { program := "ytdldokhiefeloaadoor", sum := "6bbe134ab03c93e0b8bf35ba66efce952024168a8c8e1dd6bb1ff0e3c513de82", func := "newswire/newswirelaw06.CalendarYears", spec := "calendarYears", inPlace := ["internal/abi.NoEscape", "internal/bytealg.MakeNoZero", "internal/bytealg.CountString", "internal/bytealg.IndexByteString", "internal/bytealg.IndexString"], unfollowed := true, recurses := true, named := ["newswire/calendar.lengths", "unicode/utf8.first", "unicode/utf8.acceptRanges", "internal/bytealg.MaxLen"], apart := false, laid := [("unicode/utf8.acceptRanges", laid_unicode_utf8_acceptRanges), ("newswire/calendar.lengths", laid_newswire_calendar_lengths), ("unicode/utf8.first", laid_unicode_utf8_first)], narrowed := true }
def CalendarYearsUptoSaid : Prop := calendarYearsUptoRow.holds Tryd.pinned (OpenSpec.upto calendarYearsSpec)

end Rows
end Go.Proofs.YtdldokhiefeloaaDoor
