/- What the statements on words share: the tables as the program's text lays them; the world that they begin in. -/
import Derived.Test.YtebdpdmkehfgfaaDoorWoX
import Derived.Test.YtebdpdmkehfgfaaDoorLaid
import Derived.Test.YtebdpdmkehfgfaaDoorCards
import Derived.Test.YtebdpdmkehfgfaaDoorTie
import Derived.Lay
import Derived.Shelf.Vars
set_option linter.unusedVariables false
set_option linter.unusedSimpArgs false
namespace Go.Proofs.YtebdpdmkehfgfaaDoor
open Go.RowKit Go.ChangeShapes Go.WideShapes Go.ChangeAt
theorem own : ownKnob Tryd.prog.godebug = none := by kernel_rfl
theorem laidOut : laidOutB Tryd.prog = true := by kernel_rfl
namespace Wo
def laidL : List (String × DataW Unit) := [("newswire/word.hundreds", Rows.laid_newswire_word_hundreds), ("newswire/word.ones", Rows.laid_newswire_word_ones), ("newswire/word.tens", Rows.laid_newswire_word_tens), ("newswire/word.months", Rows.laid_newswire_word_months), ("newswire/word.weekdays", Rows.laid_newswire_word_weekdays)]
set_option maxRecDepth 100000
theorem row_at {l : List B} {g : Nat} {W : World} {cs : List Value} (h : ∀ i, W.cell? ⟨g, i, none⟩ = cs[i]?) (e : cs = l.map sV) {i : Nat} {x : B} (hx : l[i]? = some x) : W.cell? ⟨g, i, none⟩ = some (sV x) := by
  rw [h, e, List.getElem?_map, hx]
  rfl
theorem at_ones {k i : Nat} (hk : k < 3) (hi : i < 20) : (ones 0 ++ ones 1 ++ ones 2)[k * 20 + i]? = some ((ones k).getD i []) := by
  have h := below (p := fun k => (List.range 20).all fun i => decide ((ones 0 ++ ones 1 ++ ones 2)[k * 20 + i]? = some ((ones k).getD i []))) (N := 3) (by decide +kernel) hk
  exact of_decide_eq_true (below (N := 20) h hi)
theorem cells_ones {W : World} (h : laidMet Tryd.prog laidL W) (k i : Nat) (hk : k < 3) (hi : i < 20) : W.cell? ⟨3, k * 20 + i, none⟩ = some (sV ((ones k).getD i [])) :=
  row_at (laid_cells 5 (name := "newswire/word.ones") (d := Rows.laid_newswire_word_ones) (t := 88) (l := List.replicate (3 * 20) (some none)) h (by simp [laidL]) (by kernel_rfl) (by kernel_rfl) (by kernel_rfl)) (l := ones 0 ++ ones 1 ++ ones 2) (by kernel_rfl) (at_ones hk hi)
theorem at_tens {k i : Nat} (hk : k < 3) (hi : i < 8) : (tens 0 ++ tens 1 ++ tens 2)[k * 8 + i]? = some ((tens k).getD i []) := by
  have h := below (p := fun k => (List.range 8).all fun i => decide ((tens 0 ++ tens 1 ++ tens 2)[k * 8 + i]? = some ((tens k).getD i []))) (N := 3) (by decide +kernel) hk
  exact of_decide_eq_true (below (N := 8) h hi)
theorem cells_tens {W : World} (h : laidMet Tryd.prog laidL W) (k i : Nat) (hk : k < 3) (hi : i < 8) : W.cell? ⟨4, k * 8 + i, none⟩ = some (sV ((tens k).getD i [])) :=
  row_at (laid_cells 5 (name := "newswire/word.tens") (d := Rows.laid_newswire_word_tens) (t := 90) (l := List.replicate (3 * 8) (some none)) h (by simp [laidL]) (by kernel_rfl) (by kernel_rfl) (by kernel_rfl)) (l := tens 0 ++ tens 1 ++ tens 2) (by kernel_rfl) (at_tens hk hi)
theorem at_months {k i : Nat} (hk : k < 3) (hi : i < 12) : (months 0 ++ months 1 ++ months 2)[k * 12 + i]? = some ((months k).getD i []) := by
  have h := below (p := fun k => (List.range 12).all fun i => decide ((months 0 ++ months 1 ++ months 2)[k * 12 + i]? = some ((months k).getD i []))) (N := 3) (by decide +kernel) hk
  exact of_decide_eq_true (below (N := 12) h hi)
theorem cells_months {W : World} (h : laidMet Tryd.prog laidL W) (k i : Nat) (hk : k < 3) (hi : i < 12) : W.cell? ⟨0, k * 12 + i, none⟩ = some (sV ((months k).getD i [])) :=
  row_at (laid_cells 5 (name := "newswire/word.months") (d := Rows.laid_newswire_word_months) (t := 75) (l := List.replicate (3 * 12) (some none)) h (by simp [laidL]) (by kernel_rfl) (by kernel_rfl) (by kernel_rfl)) (l := months 0 ++ months 1 ++ months 2) (by kernel_rfl) (at_months hk hi)
theorem at_weekdays {k i : Nat} (hk : k < 3) (hi : i < 7) : (days 0 ++ days 1 ++ days 2)[k * 7 + i]? = some ((days k).getD i []) := by
  have h := below (p := fun k => (List.range 7).all fun i => decide ((days 0 ++ days 1 ++ days 2)[k * 7 + i]? = some ((days k).getD i []))) (N := 3) (by decide +kernel) hk
  exact of_decide_eq_true (below (N := 7) h hi)
theorem cells_weekdays {W : World} (h : laidMet Tryd.prog laidL W) (k i : Nat) (hk : k < 3) (hi : i < 7) : W.cell? ⟨1, k * 7 + i, none⟩ = some (sV ((days k).getD i [])) :=
  row_at (laid_cells 5 (name := "newswire/word.weekdays") (d := Rows.laid_newswire_word_weekdays) (t := 77) (l := List.replicate (3 * 7) (some none)) h (by simp [laidL]) (by kernel_rfl) (by kernel_rfl) (by kernel_rfl)) (l := days 0 ++ days 1 ++ days 2) (by kernel_rfl) (at_weekdays hk hi)
theorem at_hundreds {i : Nat} (hi : i < 9) : hundreds[i]? = some (hundreds.getD i []) := getD_get hi
theorem cells_hundreds {W : World} (h : laidMet Tryd.prog laidL W) (i : Nat) (hi : i < 9) : W.cell? ⟨2, i, none⟩ = some (sV (hundreds.getD i [])) :=
  row_at (laid_cells 5 (name := "newswire/word.hundreds") (d := Rows.laid_newswire_word_hundreds) (t := 86) (l := List.replicate 9 (some none)) h (by simp [laidL]) (by kernel_rfl) (by kernel_rfl) (by kernel_rfl)) (l := hundreds) (by kernel_rfl) (at_hundreds hi)
end Wo
open Wo in
theorem wordT {W : World} (h : laidMet Tryd.prog laidL W) (hsh : W.ShapedOpen Tryd.prog) : Wo.Tab W :=
  ⟨cells_ones h, cells_tens h, cells_months h, cells_weekdays h, cells_hundreds h,
    Go.Proofs.cell_of_shapedOpen_int (g := 5) (zero := #[.int .i64 0]) (t := 3) hsh (of_decide_eq_true (by kernel_rfl)) (by kernel_rfl) rfl (by kernel_rfl) (by kernel_rfl) Tryd.underlying3,
    by
      obtain ⟨m, e⟩ := Go.Proofs.cell_of_shapedOpen_int (g := 5) (zero := #[.int .i64 0]) (t := 3) hsh (of_decide_eq_true (by kernel_rfl)) (by kernel_rfl) rfl (by kernel_rfl) (by kernel_rfl) Tryd.underlying3
      exact World.block_lt_of_cell? W _ e⟩
end Go.Proofs.YtebdpdmkehfgfaaDoor
