/- What the statements on the calendar share: the table of lengths as the program's text lays it. -/
import Derived.Test.YtdldokhiefeloaaDoorCalW
import Derived.Test.YtdldokhiefeloaaDoorLaid
import Derived.Test.YtdldokhiefeloaaDoorCards
import Derived.Test.YtdldokhiefeloaaDoorTie
namespace Go.Proofs.YtdldokhiefeloaaDoor
open Go.RowKit Go.ChangeShapes Go.WideShapes Go.ChangeAt
theorem own : ownKnob Tryd.prog.godebug = none := by kernel_rfl
theorem laidOut : laidOutB Tryd.prog = true := by kernel_rfl
theorem gTab : Tryd.prog.globalNamed "newswire/calendar.lengths" = some 1 := by kernel_rfl
theorem gTabType : (Tryd.prog.globals[1]?).map (·.type) = some 98 := by kernel_rfl
theorem flatTab : leafsOf Tryd.prog 5 98 = some (List.replicate 12 (some (some .i64))) := by kernel_rfl

theorem cw {W : World} (h : laidMet Tryd.prog [("unicode/utf8.acceptRanges", Rows.laid_unicode_utf8_acceptRanges), ("newswire/calendar.lengths", Rows.laid_newswire_calendar_lengths), ("unicode/utf8.first", Rows.laid_unicode_utf8_first)] W) (hsh : W.ShapedOpen Tryd.prog) : CW W := by
  have hc := laid_cells 5 (name := "newswire/calendar.lengths") (d := Rows.laid_newswire_calendar_lengths) h (by simp) gTab gTabType flatTab
  refine ⟨⟨?_, fun i hi => ?_⟩, Tryd.laysM146.s1_3 W hsh⟩
  · exact World.block_lt_of_cell? W ⟨1, 0, none⟩ (hc 0)
  · have e : dataCells 5 (Rows.laid_newswire_calendar_lengths (H := Unit)) = lenL.map (Value.int .i64) := rfl
    have hl : i < lenL.length := hi
    rw [hc i, e, List.getElem?_map, List.getElem?_eq_getElem hl]
    simp [List.getD, hl]

def withCells (l : List Value) : Obj → Obj
  | .cells _ t frozen => .cells ⟨l⟩ t frozen
  | o => o
/-- A world for the witness: the tables hold what their initialisers lay. -/
noncomputable def laidWorld (os : Os) : World :=
  { World.holding Tryd.prog os ⟨#[], #[], []⟩ with heap := (((World.holding Tryd.prog os ⟨#[], #[], []⟩).heap.modify 1 (withCells (dataCells 5 (Rows.laid_newswire_calendar_lengths (H := Unit))))).modify 4 (withCells (dataCells 5 (Rows.laid_unicode_utf8_acceptRanges (H := Unit))))).modify 3 (withCells (dataCells 5 Rows.laid_unicode_utf8_first)) }
end Go.Proofs.YtdldokhiefeloaaDoor
