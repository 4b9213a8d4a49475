/- The reference's Days, right and Parts. -/
import Derived.Test.YtdldokhiefeloaaDoorCalX
namespace Go.Proofs.YtdldokhiefeloaaDoor
open Go.RowKit

set_option maxHeartbeats 400000 in
theorem refLeap_any (y : Int) (w : World) (h0 : 0 ≤ y) :
    Calls Tryd.prog 81 #[.int .i64 y] w fun e w' => e = .returned (.bool (leapB y)) ∧ w = w' := by
  obtain ⟨b1, e1⟩ : ∃ b, (y % 4 == 0) = b := ⟨_, rfl⟩
  obtain ⟨b2, e2⟩ : ∃ b, (y % 100 == 0) = b := ⟨_, rfl⟩
  obtain ⟨b3, e3⟩ : ∃ b, (y % 400 == 0) = b := ⟨_, rfl⟩
  have E := Lib.hid (show leapB y = ((b1 && !b2) || b3) by unfold leapB; rw [e1, e3, ← e2]; rfl)
  cases b1 <;> cases b2 <;> cases b3
  all_goals
    have e2' : (y % 100 != 0) = !(y % 100 == 0) := rfl
    rw [e2] at e2'
    go_enter Tryd.func81, Tryd.ntmps81
    go_wp2
    go_ret
    exact ⟨by rw [E.out]; rfl, rfl⟩

set_option maxHeartbeats 2000000 in
theorem refDays_any (y m : Int) (w : World) :
    Calls Tryd.prog 52 #[.int .i64 y, .int .i64 m] w fun e w' => e = .returned (.int .i64 (daysZ y m)) ∧ Below w.heap.size w w' := by
  by_cases h : y < 1 ∨ 9999 < y ∨ m < 1 ∨ 12 < m
  · rw [show daysZ y m = 0 by simp [daysZ, h]]
    have key : y < 1 ∨ (¬ y < 1 ∧ 9999 < y) ∨ (¬ y < 1 ∧ ¬ 9999 < y ∧ m < 1) ∨ (¬ y < 1 ∧ ¬ 9999 < y ∧ ¬ m < 1 ∧ 12 < m) := by omega
    clear h
    rcases key with k | ⟨k, k2⟩ | ⟨k, k2, k3⟩ | ⟨k, k2, k3, k4⟩
    all_goals
      go_enter Tryd.func52, Tryd.ntmps52
      go_wp2
      go_ret
      exact ⟨rfl, Below.refl _ _⟩
  · have k1 : ¬ y < 1 := by omega
    have k2 : ¬ 9999 < y := by omega
    obtain ⟨d1, d2, d3, d4, d5, d6, d7, d8, d9, d10, d11, d12⟩ := daysY y (by omega)
    have L := Lib.hid (fun w => refLeap_any y w (by omega))
    by_cases h2 : m = 2
    · subst h2
      clear h d1 d3 d4 d5 d6 d7 d8 d9 d10 d11 d12
      rw [d2]
      clear d2
      cases hl : leapB y
      all_goals
        rw [hl] at L
        clear hl
        go_enter Tryd.func52, Tryd.ntmps52
        go_wp2_with fail
        refine (L.out _).mono ?_
        rintro e w' ⟨rfl, rfl⟩
        go_wp2
        go_ret
        exact ⟨rfl, by (repeat' first | with_reducible exact Below.refl _ _ | with_reducible assumption | (with_reducible refine below_drewN ?_ _) | (with_reducible refine Below.drew ?_) | (with_reducible refine Below.alloc ?_ ?_ _) | (with_reducible refine Below.setCell ?_ ?_ _) | omega | (simp; done) | (simp; omega))⟩
    · have hm : m = 1 ∨ m = 3 ∨ m = 4 ∨ m = 5 ∨ m = 6 ∨ m = 7 ∨ m = 8 ∨ m = 9 ∨ m = 10 ∨ m = 11 ∨ m = 12 := by omega
      clear h h2 L
      rcases hm with rfl | rfl | rfl | rfl | rfl | rfl | rfl | rfl | rfl | rfl | rfl
      all_goals
        first | rw [d1] | rw [d3] | rw [d4] | rw [d5] | rw [d6] | rw [d7] | rw [d8] | rw [d9] | rw [d10] | rw [d11] | rw [d12]
        go_enter Tryd.func52, Tryd.ntmps52
        go_wp2
        go_ret
        exact ⟨rfl, by (repeat' first | with_reducible exact Below.refl _ _ | with_reducible assumption | (with_reducible refine below_drewN ?_ _) | (with_reducible refine Below.drew ?_) | (with_reducible refine Below.alloc ?_ ?_ _) | (with_reducible refine Below.setCell ?_ ?_ _) | omega | (simp; done) | (simp; omega))⟩

set_option maxHeartbeats 400000 in
theorem refRight_any (m o : Int) (w : World) : Calls Tryd.prog 73 #[.int .i64 m, .int .i64 o] w fun e w' => e = .returned (.bool (minuteB m && offsetB o)) ∧ w = w' := by
  go_enter Tryd.func73, Tryd.ntmps73
  go_wp2
  all_goals
    go_ret
    refine ⟨retv (vbool ?_), rfl⟩
    first | (simp [minuteB, offsetB, *]; done) | (simp [minuteB, offsetB, *]; omega)
end Go.Proofs.YtdldokhiefeloaaDoor
