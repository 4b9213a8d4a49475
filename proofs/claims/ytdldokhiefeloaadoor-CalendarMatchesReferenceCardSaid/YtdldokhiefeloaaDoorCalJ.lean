/- The function value that hands out the months. -/
import Derived.Test.YtdldokhiefeloaaDoorCalI
namespace Go.Proofs.YtdldokhiefeloaaDoor
open Go.RowKit

set_option maxHeartbeats 400000 in
theorem months_any (w : World) : Calls Tryd.prog 85 #[] w fun e w' => e = .returned (.func (.func 92) #[] #[]) ∧ w = w' := by
  go_enter Tryd.func85, Tryd.ntmps85
  go_wp2
  go_ret
  exact ⟨rfl, rfl⟩

/-- The first of the months with a property. -/
def foundR (p : Nat → Bool) : (Int × Int × Int) × Bool := match (List.range 1201).find? p with
  | some k => (stM k, true)
  | none => ((0, 0, 0), false)
end Go.Proofs.YtdldokhiefeloaaDoor
