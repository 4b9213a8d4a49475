/- What the statements on integers share: the tables as the program's text lays them. -/
import Derived.Test.YtjhnfejlkljkjaaGreatDoorIntZC
import Derived.Test.YtjhnfejlkljkjaaGreatDoorIntRB
import Derived.Test.YtjhnfejlkljkjaaGreatDoorLaid
import Derived.Test.YtjhnfejlkljkjaaGreatDoorCards
import Derived.Test.YtjhnfejlkljkjaaGreatDoorTie
import Derived.Lay
import Derived.Stop.LaidErr
namespace Go.Proofs.YtjhnfejlkljkjaaGreatDoor
open Go.RowKit Go.ChangeShapes Go.WideShapes Go.ChangeAt
theorem own : ownKnob Tryz.prog.godebug = none := by kernel_rfl
theorem laidOut : laidOutB Tryz.prog = true := by kernel_rfl
theorem gTabIType : (Tryz.prog.globals[2]?).map (·.type) = some 128 := by kernel_rfl
theorem pow_laid {H : Type} : (Rows.laid_internal_strconv_uint64pow10 : DataW H) = Lib.tabData .u64 Lib.pow10Tab := by kernel_rfl
theorem tabI {a b : String × DataW Unit} {r : List (String × DataW Unit)} {W : World} (h : laidMet Tryz.prog (a :: b :: ("internal/strconv.uint64pow10", Rows.laid_internal_strconv_uint64pow10) :: r) W) : TabI W := by
  have h1 := h.tail.tail
  rw [pow_laid] at h1
  exact Lib.tabIs_of_head gTabI gTabIType Tryz.underlying128 Tryz.underlying105 (by kernel_rfl) (by kernel_rfl) h1

theorem gER : Tryz.prog.globalNamed "strconv.ErrRange" = some 1 := by kernel_rfl
theorem gERType : (Tryz.prog.globals[1]?).map (·.type) = some 68 := by kernel_rfl
theorem star : "*" ++ "errors.errorString" = "*errors.errorString" := by decide
theorem rowErr (u : TypeId) (h : Tryz.prog.typeName? 3 u = some "*errors.errorString") : u = 124 :=
  typeName_ptr_named (nm := "errors.errorString") (by rw [star]; kernel_rfl) (by kernel_rfl) (by decide) u (by rw [star]; exact h)
theorem tabE {a b c : String × DataW Unit} {r : List (String × DataW Unit)} {W : World} (h : laidMet Tryz.prog (a :: b :: c :: ("strconv.ErrRange", Rows.laid_strconv_ErrRange) :: r) W) : TabE W := by
  obtain ⟨a0, s0, hv, -, -, -⟩ := laid_sentinel h.tail.tail.tail gER gERType Tryz.underlying68 rowErr Tryz.underlying124 Tryz.underlying126 rfl rfl Tryz.underlying9 (by kernel_rfl) (by kernel_rfl)
  exact ⟨_, _, by have h0 := World.var?_cell gER hv 0; simpa using h0⟩
end Go.Proofs.YtjhnfejlkljkjaaGreatDoor
