/- What the statements on fractions share: the tables as the program's text lays them. -/
import Derived.Test.YtlehjmanlccncaaGreatDoorIntGI
import Derived.Test.YtlehjmanlccncaaGreatDoorLaid
import Derived.Test.YtlehjmanlccncaaGreatDoorCards
import Derived.Test.YtlehjmanlccncaaGreatDoorTie
import Derived.Lay
import Derived.Stop.LaidErr
set_option linter.unusedVariables false
set_option linter.unusedSimpArgs false
namespace Go.Proofs.YtlehjmanlccncaaGreatDoor
open Go.RowKit Go.ChangeShapes Go.WideShapes Go.ChangeAt
theorem own : ownKnob Tryz.prog.godebug = none := by kernel_rfl
theorem laidOut : laidOutB Tryz.prog = true := by kernel_rfl
theorem gTabIType : (Tryz.prog.globals[1]?).map (·.type) = some 162 := by kernel_rfl
theorem pow_laid {H : Type} : (Rows.laid_internal_strconv_uint64pow10 : DataW H) = Lib.tabData .u64 Lib.pow10Tab := by kernel_rfl
theorem tabI {a b : String × DataW Unit} {r : List (String × DataW Unit)} {W : World} (h : laidMet Tryz.prog (a :: b :: ("internal/strconv.uint64pow10", Rows.laid_internal_strconv_uint64pow10) :: r) W) : TabI W := by
  have h1 := h.tail.tail
  rw [pow_laid] at h1
  exact Lib.tabIs_of_head gTabI gTabIType Tryz.underlying162 Tryz.underlying142 (by kernel_rfl) (by kernel_rfl) h1
end Go.Proofs.YtlehjmanlccncaaGreatDoor
