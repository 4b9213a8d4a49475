/- What the statements on quantities share: the table of units as the program's text lays it. -/
import Derived.Test.YtdldokhiefeloaaDoorUnitBack
import Derived.Test.YtdldokhiefeloaaDoorLaid
import Derived.Test.YtdldokhiefeloaaDoorCards
import Derived.Test.YtdldokhiefeloaaDoorTie
namespace Go.Proofs.YtdldokhiefeloaaDoor
open Go.RowKit Go.ChangeShapes Go.WideShapes Go.ChangeAt
theorem own : ownKnob Tryd.prog.godebug = none := by kernel_rfl
theorem laidOut : laidOutB Tryd.prog = true := by kernel_rfl
theorem gTab : Tryd.prog.globalNamed "newswire/unit.measures" = some 0 := by kernel_rfl
theorem gTabType : (Tryd.prog.globals[0]?).map (·.type) = some 83 := by kernel_rfl
theorem flatTab : leafsOf Tryd.prog 5 83 = some (List.replicate 24 (some (some .i64))) := by kernel_rfl

theorem tab {W : World} (h : laidMet Tryd.prog [("newswire/unit.measures", Rows.laid_newswire_unit_measures)] W) : Tab W := by
  have hc := laid_cells 5 (name := "newswire/unit.measures") (d := Rows.laid_newswire_unit_measures) h (by simp) gTab gTabType flatTab
  refine ⟨?_, fun i hi => ?_⟩
  · exact World.block_lt_of_cell? W ⟨0, 0, none⟩ (hc 0)
  · have e : dataCells 5 (Rows.laid_newswire_unit_measures (H := Unit)) = [0, 0, 0, 1, 1, 1, 2, 1, 1, 2, 3048, 10000, 3, 1, 1, 3, 45359237, 100000000, 4, 1, 1, 4, 1, 1].map (Value.int .i64) := rfl
    rw [hc i, e, List.getElem?_map, List.getElem?_eq_getElem (by simpa using hi)]
    simp [List.getD, hi]

/-- A world for the witness: the table holds what its initialiser lays. -/
noncomputable def laidWorld (os : Os) : World :=
  { World.holding Tryd.prog os ⟨#[], #[], []⟩ with heap := (World.holding Tryd.prog os ⟨#[], #[], []⟩).heap.modify 0 fun
      | .cells _ t frozen => .cells ⟨dataCells 5 (Rows.laid_newswire_unit_measures (H := Unit))⟩ t frozen
      | o => o }
end Go.Proofs.YtdldokhiefeloaaDoor
