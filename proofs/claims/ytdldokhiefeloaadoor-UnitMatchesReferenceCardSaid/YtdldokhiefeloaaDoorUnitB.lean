/- The calls of package unit that take closures: rounding outward, checking, and what is built of them. -/
import Derived.Test.YtdldokhiefeloaaDoorUnitA
namespace Go.Proofs.YtdldokhiefeloaaDoor
open Go.RowKit

set_option maxHeartbeats 400000 in
theorem isStep_any (s : Int) (w : World) :
    Calls Tryd.prog 66 #[.int .i64 s] w fun r w' => r = .returned (.bool (stepB s)) ∧ w = w' := by
  go_enter Tryd.func66, Tryd.ntmps66
  go_wp2
  all_goals
    go_ret
    exact ⟨retv (vbool (by simp [stepB, *])), rfl⟩

set_option maxHeartbeats 400000 in
theorem worth_any (u c e : Int) (w : World) (T : Tab w) (hu : 1 ≤ u) (hu' : u ≤ 7) :
    Calls Tryd.prog 62 #[.int .i64 u, .agg #[.int .i64 c, .int .i64 e]] w fun r w' => r = .returned (.tuple #[.int .i64 (worthN u c e), .int .i64 (worthD u c e)]) ∧ Below w.heap.size w w' := by
  have t4 := T.cell 4 (by omega)
  have t5 := T.cell 5 (by omega)
  have t7 := T.cell 7 (by omega)
  have t8 := T.cell 8 (by omega)
  have t10 := T.cell 10 (by omega)
  have t11 := T.cell 11 (by omega)
  have t13 := T.cell 13 (by omega)
  have t14 := T.cell 14 (by omega)
  have t16 := T.cell 16 (by omega)
  have t17 := T.cell 17 (by omega)
  have t19 := T.cell 19 (by omega)
  have t20 := T.cell 20 (by omega)
  have hs := T.size
  simp only [List.getD_cons_zero, List.getD_cons_succ] at t4 t5 t7 t8 t10 t11 t13 t14 t16 t17 t19 t20
  clear T
  obtain ⟨k, rfl⟩ := Int.eq_ofNat_of_zero_le (show 0 ≤ u by omega)
  match k, (show 1 ≤ k by omega), (show k ≤ 7 by omega) with
  | 1, _, _ | 2, _, _ | 3, _, _ | 4, _, _ | 5, _, _ | 6, _, _ | 7, _, _ =>
    clear hu hu'
    go_enter Tryd.func62, Tryd.ntmps62
    go_wp2
    go_quiet (fail)
    go_wp2
    go_ret2
    exact ⟨rfl, by (repeat' first | exact Below.refl _ _ | assumption | (refine below_drewN ?_ _) | (refine Below.drew ?_) | (refine Below.alloc ?_ ?_ _) | (refine Below.setCell ?_ ?_ _) | (simp; done) | (simp; omega) | omega)⟩

set_option maxHeartbeats 400000 in
theorem lo_any (n num den : Int) (w : World) (h0 : 0 ≤ n * num) (h1 : n * num ≤ 1000000000000000) (h2 : 1 ≤ den) :
    Calls Tryd.prog 83 #[.int .i64 n, .int .i64 num, .int .i64 den] w fun r w' => r = .returned (.int .i64 (n * num / den)) ∧ w = w' := by
  go_enter Tryd.func83, Tryd.ntmps83
  go_wp2
  go_ret
  exact ⟨rfl, rfl⟩
set_option maxHeartbeats 400000 in
theorem hi_any (n num den : Int) (w : World) (h0 : 0 ≤ n * num) (h1 : n * num ≤ 1000000000000000) (h2 : 1 ≤ den) (h3 : den ≤ 1000000000000000) :
    Calls Tryd.prog 84 #[.int .i64 n, .int .i64 num, .int .i64 den] w fun r w' => r = .returned (.int .i64 ((n * num + den - 1) / den)) ∧ w = w' := by
  go_enter Tryd.func84, Tryd.ntmps84
  go_wp2
  go_ret
  exact ⟨rfl, rfl⟩

set_option maxHeartbeats 400000 in
theorem outward_any (w : World) :
    Calls Tryd.prog 63 #[] w fun r w' => r = .returned (.agg #[.func (.func 83) #[] #[], .func (.func 84) #[] #[]]) ∧ Below w.heap.size w w' := by
  go_enter Tryd.func63, Tryd.ntmps63
  go_wp2
  refine bodyPost_ret (v := .agg #[.func (.func 83) #[] #[], .func (.func 84) #[] #[]]) (by first | (simp [results, Tryd.results63, go_sem]; done) | simp [results, Tryd.results63, go_sem, *]) rfl ⟨rfl, by (repeat' first | exact Below.refl _ _ | assumption | (refine below_drewN ?_ _) | (refine Below.drew ?_) | (refine Below.alloc ?_ ?_ _) | (refine Below.setCell ?_ ?_ _) | (simp; done) | (simp; omega) | omega)⟩
end Go.Proofs.YtdldokhiefeloaaDoor
