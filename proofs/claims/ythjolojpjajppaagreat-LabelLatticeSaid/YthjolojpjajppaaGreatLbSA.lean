/- the examples of sane, as mathematics. -/
import Derived.Test.YthjolojpjajppaaGreatLGG
import Derived.Test.YthjolojpjajppaaGreatLbQ
set_option linter.unusedVariables false
set_option linter.unusedSimpArgs false
set_option linter.unnecessarySimpa false
namespace Go.Proofs.YthjolojpjajppaaGreat
open Go.RowKit
namespace Lb
def wantP : La := ⟨100, [4], [], 255, 3, [(1, [2, 7])]⟩
theorem p0 : putR 0 = ([0], 0) := by
  unfold putR
  rw [if_pos (by decide), show foldZ 0 = 0 from rfl, encB_lt (by decide)]
  rfl
theorem p1 : putR 1 = ([2], 0) := by
  unfold putR
  rw [if_pos (by decide), show foldZ 1 = 2 from rfl, encB_lt (by decide)]
  rfl
theorem p2 : putR 2 = ([4], 0) := by
  unfold putR
  rw [if_pos (by decide), show foldZ 2 = 4 from rfl, encB_lt (by decide)]
  rfl
theorem p3 : putR 3 = ([6], 0) := by
  unfold putR
  rw [if_pos (by decide), show foldZ 3 = 6 from rfl, encB_lt (by decide)]
  rfl
theorem p4 : putR 4 = ([8], 0) := by
  unfold putR
  rw [if_pos (by decide), show foldZ 4 = 8 from rfl, encB_lt (by decide)]
  rfl
theorem p7 : putR 7 = ([14], 0) := by
  unfold putR
  rw [if_pos (by decide), show foldZ 7 = 14 from rfl, encB_lt (by decide)]
  rfl
theorem p100 : putR 100 = ([200, 1], 0) := by
  unfold putR
  rw [if_pos (by decide), show foldZ 100 = 200 from rfl, encB_ge (by decide), encB_lt (by decide)]
  rfl
theorem p255 : putR 255 = ([254, 3], 0) := by
  unfold putR
  rw [if_pos (by decide), show foldZ 255 = 510 from rfl, encB_ge (by decide), encB_lt (by decide)]
  rfl
theorem want_nums : encN wantP = [100, 1, 4, 0, 255, 3, 1, 1, 2, 2, 7] := rfl
theorem want_bytes : Cod.enI (encN wantP) = [200, 1, 2, 8, 0, 254, 3, 6, 2, 2, 4, 4, 14] := by
  rw [want_nums]
  simp only [Cod.enI, List.flatMap_cons, List.flatMap_nil, p0, p1, p2, p3, p4, p7, p100, p255]
  rfl
theorem want_good : Cod.badI (encN wantP) = false := by
  rw [want_nums]
  simp only [Cod.badI, List.any_cons, List.any_nil, p0, p1, p2, p3, p4, p7, p100, p255]
  rfl
def wantS : ByteArray := ⟨#[120, 200, 1, 2, 8, 0, 254, 3, 6, 2, 2, 4, 4, 14]⟩
theorem want_dec : Rd.dDec wantS 1 = some (wantP, 14) := by rfl
theorem none_dec : Rd.dDec ⟨#[]⟩ 0 = none := by rfl
end Lb
end Go.Proofs.YthjolojpjajppaaGreat
