/- The reference's Minute: the walk. -/
import Derived.Test.YtdldokhiefeloaaDoorCalRB
namespace Go.Proofs.YtdldokhiefeloaaDoor
open Go.RowKit

/-- the days of some years from 1999 on -/
def yearsD : Nat → Int
  | 0 => 0
  | j + 1 => yearsD j + sumD (1999 + (j : Int)) 12
theorem yearsD_bd (j : Nat) : 0 ≤ yearsD j ∧ yearsD j ≤ 372 * j := by
  induction j with
  | zero => exact ⟨Int.le_refl _, Int.le_refl _⟩
  | succ j ih =>
    have := sumD_bd (1999 + (j : Int)) 12
    simp only [yearsD]
    omega

set_option maxRecDepth 100000 in
set_option maxHeartbeats 8000000 in
theorem refMinute_bad (y m d h n wd o D : Int) (w : World) (hD : ∀ w, Calls Tryd.prog 52 #[.int .i64 y, .int .i64 m] w fun e w' => e = .returned (.int .i64 D) ∧ Below w.heap.size w w')
    (key : (decide (y < 1999) = true) ∨ (decide (y < 1999) = false ∧ decide (2200 < y) = true) ∨ (decide (y < 1999) = false ∧ decide (2200 < y) = false ∧ decide (m < 1) = true) ∨ (decide (y < 1999) = false ∧ decide (2200 < y) = false ∧ decide (m < 1) = false ∧ decide (12 < m) = true)
      ∨ (decide (y < 1999) = false ∧ decide (2200 < y) = false ∧ decide (m < 1) = false ∧ decide (12 < m) = false ∧ decide (d < 1) = true)
      ∨ (decide (y < 1999) = false ∧ decide (2200 < y) = false ∧ decide (m < 1) = false ∧ decide (12 < m) = false ∧ decide (d < 1) = false ∧ decide (D < d) = true)
      ∨ (decide (y < 1999) = false ∧ decide (2200 < y) = false ∧ decide (m < 1) = false ∧ decide (12 < m) = false ∧ decide (d < 1) = false ∧ decide (D < d) = false ∧ decide (h < 0) = true)
      ∨ (decide (y < 1999) = false ∧ decide (2200 < y) = false ∧ decide (m < 1) = false ∧ decide (12 < m) = false ∧ decide (d < 1) = false ∧ decide (D < d) = false ∧ decide (h < 0) = false ∧ decide (23 < h) = true)
      ∨ (decide (y < 1999) = false ∧ decide (2200 < y) = false ∧ decide (m < 1) = false ∧ decide (12 < m) = false ∧ decide (d < 1) = false ∧ decide (D < d) = false ∧ decide (h < 0) = false ∧ decide (23 < h) = false ∧ decide (n < 0) = true)
      ∨ (decide (y < 1999) = false ∧ decide (2200 < y) = false ∧ decide (m < 1) = false ∧ decide (12 < m) = false ∧ decide (d < 1) = false ∧ decide (D < d) = false ∧ decide (h < 0) = false ∧ decide (23 < h) = false ∧ decide (n < 0) = false ∧ decide (59 < n) = true)
      ∨ (decide (y < 1999) = false ∧ decide (2200 < y) = false ∧ decide (m < 1) = false ∧ decide (12 < m) = false ∧ decide (d < 1) = false ∧ decide (D < d) = false ∧ decide (h < 0) = false ∧ decide (23 < h) = false ∧ decide (n < 0) = false ∧ decide (59 < n) = false ∧ decide (o < -840) = true)
      ∨ (decide (y < 1999) = false ∧ decide (2200 < y) = false ∧ decide (m < 1) = false ∧ decide (12 < m) = false ∧ decide (d < 1) = false ∧ decide (D < d) = false ∧ decide (h < 0) = false ∧ decide (23 < h) = false ∧ decide (n < 0) = false ∧ decide (59 < n) = false ∧ decide (o < -840) = false ∧ decide (840 < o) = true)) :
    Calls Tryd.prog 48 #[civV y m d h n wd, .int .i64 o] w fun e w' => e = .returned (.tuple #[.int .i64 0, .int .i64 60]) ∧ Below w.heap.size w w' := by
  have HD := Lib.hid hD
  clear hD
  rcases key with g1 | ⟨g1, g2⟩ | ⟨g1, g2, g3⟩ | ⟨g1, g2, g3, g4⟩ | ⟨g1, g2, g3, g4, g5⟩ | ⟨g1, g2, g3, g4, g5, g6⟩ | ⟨g1, g2, g3, g4, g5, g6, g7⟩ | ⟨g1, g2, g3, g4, g5, g6, g7, g8⟩ | ⟨g1, g2, g3, g4, g5, g6, g7, g8, g9⟩ | ⟨g1, g2, g3, g4, g5, g6, g7, g8, g9, g10⟩ | ⟨g1, g2, g3, g4, g5, g6, g7, g8, g9, g10, g11⟩ | ⟨g1, g2, g3, g4, g5, g6, g7, g8, g9, g10, g11, g12⟩
  all_goals
    go_enter Tryd.func48, Tryd.ntmps48
    go_wp2_with fail
    refine wp_region_kin (by kernel_rfl) (by kernel_rfl) (w.heap.size) 1 (by first | assumption | (simp; done) | (simp; omega) | omega | (have := HS.out; omega)) (fun hk => ?_)
    repeat (go_big_quiet_step ((go_at_call 52; exact Calls.kin (HD.out _))))
    refine wpQuiet_nil ?_
    clear hk
    intro W3 hb3
    obtain ⟨hc3, hf3, hz3⟩ := after (B := w.heap.size) 1 hb3 (by first | assumption | (simp; done) | (simp; omega) | omega | (have := HS.out; omega)); have HB3 := Lib.hid hb3; clear hb3
    go_wp2
    go_ret2
    refine ⟨rfl, ?_⟩
    (repeat' first | with_reducible exact Below.refl _ _ | with_reducible assumption | (with_reducible refine below_drewN ?_ _) | (with_reducible refine Below.drew ?_) | (with_reducible refine Below.alloc ?_ ?_ _) | (with_reducible refine Below.setCell ?_ ?_ _) | (with_reducible refine Below.andThen ?_ HB3.out) | (with_reducible exact HB3.out.size) | omega | (simp; done) | (simp; omega))
end Go.Proofs.YtdldokhiefeloaaDoor
