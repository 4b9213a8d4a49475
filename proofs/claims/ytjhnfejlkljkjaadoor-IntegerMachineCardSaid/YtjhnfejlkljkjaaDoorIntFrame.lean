/- What the statements on integers share: the tables as the program's text lays them. -/
import Derived.Test.YtjhnfejlkljkjaaDoorIntZC
import Derived.Test.YtjhnfejlkljkjaaDoorIntRB
import Derived.Test.YtjhnfejlkljkjaaDoorLaid
import Derived.Test.YtjhnfejlkljkjaaDoorCards
import Derived.Test.YtjhnfejlkljkjaaDoorTie
import Derived.Lay
import Derived.Stop.LaidErr
namespace Go.Proofs.YtjhnfejlkljkjaaDoor
open Go.RowKit Go.ChangeShapes Go.WideShapes Go.ChangeAt
theorem own : ownKnob Tryd.prog.godebug = none := by kernel_rfl
theorem laidOut : laidOutB Tryd.prog = true := by kernel_rfl
theorem gTabIType : (Tryd.prog.globals[2]?).map (·.type) = some 112 := by kernel_rfl
theorem pow_laid {H : Type} : (Rows.laid_internal_strconv_uint64pow10 : DataW H) = Lib.tabData .u64 Lib.pow10Tab := by kernel_rfl
theorem tabI {a b : String × DataW Unit} {r : List (String × DataW Unit)} {W : World} (h : laidMet Tryd.prog (a :: b :: ("internal/strconv.uint64pow10", Rows.laid_internal_strconv_uint64pow10) :: r) W) : TabI W := by
  have h1 := h.tail.tail
  rw [pow_laid] at h1
  exact Lib.tabIs_of_head gTabI gTabIType Tryd.underlying112 Tryd.underlying92 (by kernel_rfl) (by kernel_rfl) h1

theorem gER : Tryd.prog.globalNamed "strconv.ErrRange" = some 1 := by kernel_rfl
theorem gERType : (Tryd.prog.globals[1]?).map (·.type) = some 42 := by kernel_rfl
theorem star : "*" ++ "errors.errorString" = "*errors.errorString" := by decide
theorem rowErr (u : TypeId) (h : Tryd.prog.typeName? 3 u = some "*errors.errorString") : u = 118 :=
  typeName_ptr_named (nm := "errors.errorString") (by rw [star]; kernel_rfl) (by kernel_rfl) (by decide) u (by rw [star]; exact h)
theorem tabE {a b c : String × DataW Unit} {r : List (String × DataW Unit)} {W : World} (h : laidMet Tryd.prog (a :: b :: c :: ("strconv.ErrRange", Rows.laid_strconv_ErrRange) :: r) W) : TabE W := by
  obtain ⟨a0, s0, hv, -, -, -⟩ := laid_sentinel h.tail.tail.tail gER gERType Tryd.underlying42 rowErr Tryd.underlying118 Tryd.underlying120 rfl rfl Tryd.underlying9 (by kernel_rfl) (by kernel_rfl)
  exact ⟨_, _, by have h0 := World.var?_cell gER hv 0; simpa using h0⟩
end Go.Proofs.YtjhnfejlkljkjaaDoor
