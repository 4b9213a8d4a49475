/- Applying a rounding to an amount, and checking what a closure makes. -/
import Derived.Test.YtdldokhiefeloaaDoorUnitB
namespace Go.Proofs.YtdldokhiefeloaaDoor
open Go.RowKit

theorem cell_hid {w W : World} (h : W = w) {a : Addr} {v : Value} (hc : w.cell? a = some v) : W.cell? a = some v := by rw [h]; exact hc

set_option maxHeartbeats 1000000 in
theorem apply_any (lo hi u num den step : Int) (w : World) (a0 : 0 ≤ lo * num) (a1 : lo * num ≤ 1000000000000000) (b0 : 0 ≤ hi * num) (b1 : hi * num ≤ 1000000000000000) (d1 : 1 ≤ den) (d2 : den ≤ 1000000000000000)
    (e0 : 0 ≤ lo * num / den * step) (e1 : lo * num / den * step ≤ 1000000000000000) (f0 : 0 ≤ (hi * num + den - 1) / den * step) (f1 : (hi * num + den - 1) / den * step ≤ 1000000000000000) :
    Calls Tryd.prog 64 #[.agg #[.func (.func 83) #[] #[], .func (.func 84) #[] #[]], .agg #[.int .i64 lo, .int .i64 hi, .int .i64 u], .int .i64 num, .int .i64 den, .int .i64 step] w fun r w' =>
      r = .returned (.agg #[.int .i64 (lo * num / den * step), .int .i64 ((hi * num + den - 1) / den * step), .int .i64 u]) ∧ Below w.heap.size w w' := by
  go_enter Tryd.func64, Tryd.ntmps64
  go_wp2
  refine wp_region_kin_tail 21 (by kernel_rfl) (by kernel_rfl) (w.heap.size) 3 (by first | assumption | (simp; done) | (simp; omega) | omega | (have := HS.out; omega)) (fun hk => ?_)
  simp only [List.take_succ_cons, List.take_zero, List.drop_succ_cons, List.drop_zero]
  repeat (go_big_quiet_step (first | (go_at_call 83; exact Calls.kin_same (lo_any _ _ _ _ a0 a1 d1)) | (go_at_call 84; exact Calls.kin_same (hi_any _ _ _ _ b0 b1 d1 d2))))
  refine wpQuiet_nil ?_
  clear hk
  intro W2 hb2
  obtain ⟨hc2, hf2, hz2⟩ := after (B := w.heap.size) 3 hb2 (by first | assumption | (simp; done) | (simp; omega) | omega | (have := HS.out; omega)); have HB2 := Lib.hid hb2; clear hb2
  go_wp2
  refine bodyPost_ret (v := _) (by first | (simp [results, Tryd.results64, go_sem]; done) | simp [results, Tryd.results64, go_sem, *]) rfl ⟨rfl, by (repeat' first | exact Below.refl _ _ | assumption | (refine Below.andThen ?_ HB2.out) | (exact HB2.out.size) | (refine below_drewN ?_ _) | (refine Below.drew ?_) | (refine Below.alloc ?_ ?_ _) | (refine Below.setCell ?_ ?_ _) | (simp; done) | (simp; omega) | omega)⟩
end Go.Proofs.YtdldokhiefeloaaDoor
