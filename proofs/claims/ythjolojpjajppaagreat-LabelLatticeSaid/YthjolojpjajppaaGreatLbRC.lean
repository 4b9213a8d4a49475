/- the reference's before. -/
import Derived.Test.YthjolojpjajppaaGreatLbRA
set_option linter.unusedVariables false
set_option linter.unusedSimpArgs false
set_option linter.unnecessarySimpa false
namespace Go.Proofs.YthjolojpjajppaaGreat
open Go.RowKit
namespace Lb
open Sq
def rbK (x y : Lk) : Bool := decide (x.need < y.need) || (decide (x.need = y.need) && decide (rcmp x.keys y.keys < 0))
set_option maxRecDepth 100000 in
set_option maxHeartbeats 2000000 in
theorem rbK_any (x y : Lk) (w : World) (hx : x.ok w) (hy : y.ok w) (hn : x.n ≤ 1000000) (hn2 : y.n ≤ 1000000) : Calls Tryz.prog 39 #[lkV x, lkV y] w fun e w' => e = .returned (.bool (rbK x y)) ∧ Below w.heap.size w w' := by
  obtain ⟨xneed, xo, xn, xc, xkeys⟩ := x
  obtain ⟨yneed, yo, yn, yc, ykeys⟩ := y
  have CC := Lib.hid (fun W (h : Sv intE W xo xn xc xkeys) (h2 : Sv intE W yo yn yc ykeys) => rcmp_any xo xn xc xkeys yo yn yc ykeys W h h2 hn hn2)
  have SX := Lib.hid (show Sv intE w xo xn xc xkeys from hx)
  have SY := Lib.hid (show Sv intE w yo yn yc ykeys from hy)
  unfold lkV rbK
  dsimp only
  generalize rcmp xkeys ykeys = r at *
  obtain ⟨z0, hz0⟩ : ∃ z, decide (xneed < yneed) = z := ⟨_, rfl⟩
  obtain ⟨z, hz⟩ : ∃ z, decide (xneed = yneed) = z := ⟨_, rfl⟩
  have hz2 : (xneed == yneed) = z := by rw [← hz]; rfl
  obtain ⟨z3, hz3⟩ : ∃ z, decide (r < 0) = z := ⟨_, rfl⟩
  rw [hz0, hz, hz3]
  clear hx hy hn hn2
  cases z0 with
  | true =>
    go_enter Tryz.func39, Tryz.ntmps39
    go_wp2_with fail
    go_ret
    exact ⟨rfl, by (repeat' first | exact Below.refl _ _ | assumption | (refine below_drewN ?_ _) | (refine Below.drew ?_) | (refine Below.alloc ?_ ?_ _) | (refine Below.setCell ?_ ?_ _) | (simp; done) | (simp; omega) | omega)⟩
  | false =>
    cases z with
    | true =>
      go_enter Tryz.func39, Tryz.ntmps39
      go_wp2_with (go_at_call 66; (with_reducible refine Calls.mono (CC.out _ (SX.out.next (by (repeat' first | exact Below.refl _ _ | assumption | (refine below_drewN ?_ _) | (refine Below.drew ?_) | (refine Below.alloc ?_ ?_ _) | (refine Below.setCell ?_ ?_ _) | (simp; done) | (simp; omega) | omega))) (SY.out.next (by (repeat' first | exact Below.refl _ _ | assumption | (refine below_drewN ?_ _) | (refine Below.drew ?_) | (refine Below.alloc ?_ ?_ _) | (refine Below.setCell ?_ ?_ _) | (simp; done) | (simp; omega) | omega)))) ?_); rintro e w2 ⟨rfl, hb⟩; have HB := Lib.hid (show Below w.heap.size w w2 from Below.andThen (by (repeat' first | exact Below.refl _ _ | assumption | (refine below_drewN ?_ _) | (refine Below.drew ?_) | (refine Below.alloc ?_ ?_ _) | (refine Below.setCell ?_ ?_ _) | (simp; done) | (simp; omega) | omega)) hb); clear hb)
      go_ret
      exact ⟨by simp [hz3], HB.out⟩
    | false =>
      go_enter Tryz.func39, Tryz.ntmps39
      go_wp2_with fail
      go_ret
      exact ⟨rfl, by (repeat' first | exact Below.refl _ _ | assumption | (refine below_drewN ?_ _) | (refine Below.drew ?_) | (refine Below.alloc ?_ ?_ _) | (refine Below.setCell ?_ ?_ _) | (simp; done) | (simp; omega) | omega)⟩
end Lb
end Go.Proofs.YthjolojpjajppaaGreat
