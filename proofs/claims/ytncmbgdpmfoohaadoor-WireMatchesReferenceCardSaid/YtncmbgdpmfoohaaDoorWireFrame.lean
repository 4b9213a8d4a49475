/- What the statements on bytes share: the table of the checksum as the program's text lays it. -/
import Derived.Test.YtncmbgdpmfoohaaDoorWireF
import Derived.Test.YtncmbgdpmfoohaaDoorLaid
import Derived.Test.YtncmbgdpmfoohaaDoorCards
import Derived.Test.YtncmbgdpmfoohaaDoorTie
namespace Go.Proofs.YtncmbgdpmfoohaaDoor
open Go.RowKit Go.ChangeShapes Go.WideShapes Go.ChangeAt
theorem own : ownKnob Tryd.prog.godebug = none := by kernel_rfl
theorem laidOut : laidOutB Tryd.prog = true := by kernel_rfl
theorem gTab : Tryd.prog.globalNamed "newswire/wire.sums" = some 0 := by kernel_rfl
theorem gTabType : (Tryd.prog.globals[0]?).map (·.type) = some 53 := by kernel_rfl
theorem flatTab : leafsOf Tryd.prog 5 53 = some (List.replicate 16 (some (some .u32))) := by kernel_rfl

theorem tab {W : World} (h : laidMet Tryd.prog [("newswire/wire.sums", Rows.laid_newswire_wire_sums)] W) : Tab W := by
  have hc := laid_cells 5 (name := "newswire/wire.sums") (d := Rows.laid_newswire_wire_sums) h (by simp) gTab gTabType flatTab
  refine ⟨?_, fun i hi => ?_⟩
  · exact World.block_lt_of_cell? W ⟨0, 0, none⟩ (hc 0)
  · have e : dataCells 5 (Rows.laid_newswire_wire_sums (H := Unit)) = (List.range 16).map (fun n => Value.int .u32 ((crcTab n : Nat) : Int)) := rfl
    rw [hc i, e, List.getElem?_map, List.getElem?_range hi]
    rfl

/-- A world for the witness: the table holds what its initialiser lays. -/
noncomputable def laidWorld (os : Os) : World :=
  { World.holding Tryd.prog os ⟨#[], #[], []⟩ with heap := (World.holding Tryd.prog os ⟨#[], #[], []⟩).heap.modify 0 fun
      | .cells _ t frozen => .cells ⟨dataCells 5 (Rows.laid_newswire_wire_sums (H := Unit))⟩ t frozen
      | o => o }
end Go.Proofs.YtncmbgdpmfoohaaDoor
