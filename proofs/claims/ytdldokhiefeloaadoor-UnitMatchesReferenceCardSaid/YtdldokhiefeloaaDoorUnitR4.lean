/- The reference's times. -/
import Derived.Test.YtdldokhiefeloaaDoorUnitR3
namespace Go.Proofs.YtdldokhiefeloaaDoor
open Go.RowKit Go.ChangeShapes Go.WideShapes

theorem mul_bd {a n A B : Int} (h0 : 0 ≤ a) (h1 : a ≤ A) (h2 : 0 ≤ n) (h3 : n ≤ B) : 0 ≤ a * n ∧ a * n ≤ A * B :=
  ⟨Int.mul_nonneg h0 h2, Int.mul_le_mul h1 h3 h2 (by omega)⟩
theorem quo_bd {p d : Int} (h0 : 0 ≤ p) (hd : 1 ≤ d) : p.tdiv d = p / d ∧ 0 ≤ p / d ∧ p / d ≤ p ∧ 0 ≤ p / d * d ∧ p / d * d ≤ p := by
  have h1 : 0 ≤ p / d := Int.ediv_nonneg h0 (by omega)
  exact ⟨Int.tdiv_eq_ediv_of_nonneg h0, h1, Int.ediv_le_self _ h0, Int.mul_nonneg h1 (by omega), Int.ediv_mul_le _ (by omega)⟩

set_option maxHeartbeats 1000000 in
theorem refTimes_any (lo hi u to_ n d : Int) (w : World) (l0 : 0 ≤ lo) (l1 : lo ≤ 999999) (k0 : 0 ≤ hi) (k1 : hi ≤ 999999) (n0 : 0 ≤ n) (n1 : n ≤ 100000000) (d0 : 1 ≤ d) (d1 : d ≤ 100000000) :
    Calls Tryd.prog 65 #[.agg #[.int .i64 lo, .int .i64 hi, .int .i64 u], .int .i64 to_, .int .i64 n, .int .i64 d] w fun r w' => r = .returned (resV (timesR lo hi to_ n d)) ∧ Below w.heap.size w w' := by
  obtain ⟨a0, a1⟩ := mul_bd l0 l1 n0 n1
  obtain ⟨b0, b1⟩ := mul_bd k0 k1 n0 n1
  obtain ⟨q1, q2, q3, _, _⟩ := quo_bd a0 d0
  obtain ⟨r1, r2, r3, r4, r5⟩ := quo_bd b0 d0
  have HC := Lib.hid (ceil_eq (h := hi) (n := n) (d := d) d0 b0)
  unfold timesR
  rw [HC.out]
  clear HC
  generalize lo * n / d = L at *
  generalize hi * n / d = H at *
  by_cases hc : H * d < hi * n
  · rw [if_pos hc]
    cases hk : knownB L (H + 1) to_
    · have G := Lib.hid (fun w => lit_b hk (givenR_any L (H + 1) to_ w))
      rw [show resV (if false = true then (⟨L, H + 1, to_, 0⟩ : Res) else bad) = .tuple #[.agg #[.int .i64 0, .int .i64 0, .int .i64 0], .int .i64 50] from rfl]
      clear hk
      go_enter Tryd.func65, Tryd.ntmps65
      go_wp2_with fail
      refine (G.out _).mono ?_
      rintro e w1 ⟨rfl, hb⟩
      obtain ⟨hc1, hf1, hz1⟩ := after (B := w.heap.size) 3 hb (by first | assumption | (simp; done) | (simp; omega) | omega | (have := HS.out; omega)); have HB1 := Lib.hid hb; clear hb
      go_wp2
      refine bodyPost_ret (v := _) (by first | (simp [results, Tryd.results65, go_sem]; done) | simp [results, Tryd.results65, go_sem, *]) rfl ⟨rfl, by (repeat' first | exact Below.refl _ _ | assumption | (refine Below.andThen ?_ HB1.out) | (exact HB1.out.size) | (refine below_drewN ?_ _) | (refine Below.drew ?_) | (refine Below.alloc ?_ ?_ _) | (refine Below.setCell ?_ ?_ _) | (simp; done) | (simp; omega) | omega)⟩
    · have G := Lib.hid (fun w => lit_b hk (givenR_any L (H + 1) to_ w))
      rw [show resV (if true = true then (⟨L, H + 1, to_, 0⟩ : Res) else bad) = .tuple #[.agg #[.int .i64 L, .int .i64 (H + 1), .int .i64 to_], .int .i64 0] from rfl]
      clear hk
      go_enter Tryd.func65, Tryd.ntmps65
      go_wp2_with fail
      refine (G.out _).mono ?_
      rintro e w1 ⟨rfl, hb⟩
      obtain ⟨hc1, hf1, hz1⟩ := after (B := w.heap.size) 3 hb (by first | assumption | (simp; done) | (simp; omega) | omega | (have := HS.out; omega)); have HB1 := Lib.hid hb; clear hb
      go_wp2
      refine bodyPost_ret (v := _) (by first | (simp [results, Tryd.results65, go_sem]; done) | simp [results, Tryd.results65, go_sem, *]) rfl ⟨rfl, by (repeat' first | exact Below.refl _ _ | assumption | (refine Below.andThen ?_ HB1.out) | (exact HB1.out.size) | (refine below_drewN ?_ _) | (refine Below.drew ?_) | (refine Below.alloc ?_ ?_ _) | (refine Below.setCell ?_ ?_ _) | (simp; done) | (simp; omega) | omega)⟩
  · rw [if_neg hc]
    cases hk : knownB L (H) to_
    · have G := Lib.hid (fun w => lit_b hk (givenR_any L (H) to_ w))
      rw [show resV (if false = true then (⟨L, H, to_, 0⟩ : Res) else bad) = .tuple #[.agg #[.int .i64 0, .int .i64 0, .int .i64 0], .int .i64 50] from rfl]
      clear hk
      go_enter Tryd.func65, Tryd.ntmps65
      go_wp2_with fail
      refine (G.out _).mono ?_
      rintro e w1 ⟨rfl, hb⟩
      obtain ⟨hc1, hf1, hz1⟩ := after (B := w.heap.size) 3 hb (by first | assumption | (simp; done) | (simp; omega) | omega | (have := HS.out; omega)); have HB1 := Lib.hid hb; clear hb
      go_wp2
      refine bodyPost_ret (v := _) (by first | (simp [results, Tryd.results65, go_sem]; done) | simp [results, Tryd.results65, go_sem, *]) rfl ⟨rfl, by (repeat' first | exact Below.refl _ _ | assumption | (refine Below.andThen ?_ HB1.out) | (exact HB1.out.size) | (refine below_drewN ?_ _) | (refine Below.drew ?_) | (refine Below.alloc ?_ ?_ _) | (refine Below.setCell ?_ ?_ _) | (simp; done) | (simp; omega) | omega)⟩
    · have G := Lib.hid (fun w => lit_b hk (givenR_any L (H) to_ w))
      rw [show resV (if true = true then (⟨L, H, to_, 0⟩ : Res) else bad) = .tuple #[.agg #[.int .i64 L, .int .i64 (H), .int .i64 to_], .int .i64 0] from rfl]
      clear hk
      go_enter Tryd.func65, Tryd.ntmps65
      go_wp2_with fail
      refine (G.out _).mono ?_
      rintro e w1 ⟨rfl, hb⟩
      obtain ⟨hc1, hf1, hz1⟩ := after (B := w.heap.size) 3 hb (by first | assumption | (simp; done) | (simp; omega) | omega | (have := HS.out; omega)); have HB1 := Lib.hid hb; clear hb
      go_wp2
      refine bodyPost_ret (v := _) (by first | (simp [results, Tryd.results65, go_sem]; done) | simp [results, Tryd.results65, go_sem, *]) rfl ⟨rfl, by (repeat' first | exact Below.refl _ _ | assumption | (refine Below.andThen ?_ HB1.out) | (exact HB1.out.size) | (refine below_drewN ?_ _) | (refine Below.drew ?_) | (refine Below.alloc ?_ ?_ _) | (refine Below.setCell ?_ ?_ _) | (simp; done) | (simp; omega) | omega)⟩
end Go.Proofs.YtdldokhiefeloaaDoor
