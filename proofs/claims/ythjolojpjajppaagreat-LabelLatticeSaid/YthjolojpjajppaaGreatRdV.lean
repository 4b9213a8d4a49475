/- which labels are valid, as mathematics. -/
import Derived.Test.YthjolojpjajppaaGreatLbK
set_option linter.unusedVariables false
set_option linter.unusedSimpArgs false
set_option linter.unnecessarySimpa false
namespace Go.Proofs.YthjolojpjajppaaGreat
open Go.RowKit
namespace Lb
def lessA (x y : Int × List Int) : Bool := decide (orI [cmpI x.1 y.1, cmpL x.2 y.2] < 0)
def fitA (x : Int × List Int) : Bool := numB x.2 0 19 && decide (1 ≤ x.1) && decide (x.1 ≤ x.2.length)
def vdA (x : La) : Bool := decide (0 ≤ x.till) && decide (x.till ≤ 50000000) && numB x.ev 0 19 && cntB x.cs 1 && (mskB x.tr && mskB x.cl) && decide ((x.ks.length : Int) ≤ 4) && ascB lessA x.ks && x.ks.all fitA
theorem ascB_map {α β : Type} (f : β → β → Bool) (g : α → β) : ∀ l : List α, ascB f (l.map g) = ascB (fun x y => f (g x) (g y)) l
  | [] => rfl
  | [_] => rfl
  | a :: b :: l => by
    show (f (g a) (g b) && ascB f ((b :: l).map g)) = _
    rw [ascB_map f g (b :: l)]
    rfl
theorem vdL_p {w : World} {x : Lb} (hx : x.ok w) : vdL x = vdA x.p := by
  have e1 : x.ln = x.lk.length := hx.2.2.1.1.symm
  unfold vdL vdA Lb.p
  dsimp only
  rw [ascB_map lessA pK x.lk, List.all_map, List.length_map, e1]
  rfl
end Lb
end Go.Proofs.YthjolojpjajppaaGreat
