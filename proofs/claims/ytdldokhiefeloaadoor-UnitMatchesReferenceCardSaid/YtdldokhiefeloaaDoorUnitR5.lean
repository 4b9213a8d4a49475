/- The reference's Share. -/
import Derived.Test.YtdldokhiefeloaaDoorUnitR4
namespace Go.Proofs.YtdldokhiefeloaaDoor
open Go.RowKit Go.ChangeShapes Go.WideShapes

set_option maxHeartbeats 1000000 in
theorem refShare_any (lo hi u n d : Int) (w : World) :
    Calls Tryd.prog 35 #[.agg #[.int .i64 lo, .int .i64 hi, .int .i64 u], .int .i64 n, .int .i64 d] w fun r w' => r = .returned (resV (shareR lo hi u n d)) ∧ Below w.heap.size w w' := by
  cases hk : knownB lo hi u
  · have G := Lib.hid (fun w => lit_b hk (givenR_any lo hi u w))
    rw [show resV (shareR lo hi u n d) = .tuple #[.agg #[.int .i64 0, .int .i64 0, .int .i64 0], .int .i64 50] by simp [shareR, hk, resV, bad]]
    clear hk
    go_enter Tryd.func35, Tryd.ntmps35
    go_wp2_with fail
    refine (G.out _).mono ?_
    rintro e w1 ⟨rfl, hb⟩
    obtain ⟨hc1, hf1, hz1⟩ := after (B := w.heap.size) 2 hb (by first | assumption | (simp; done) | (simp; omega) | omega | (have := HS.out; omega)); have HB1 := Lib.hid hb; clear hb
    go_wp2
    refine bodyPost_ret (v := _) (by first | (simp [results, Tryd.results35, go_sem]; done) | simp [results, Tryd.results35, go_sem, *]) rfl ⟨rfl, by (repeat' first | exact Below.refl _ _ | assumption | (refine Below.andThen ?_ HB1.out) | (exact HB1.out.size) | (refine below_drewN ?_ _) | (refine Below.drew ?_) | (refine Below.alloc ?_ ?_ _) | (refine Below.setCell ?_ ?_ _) | (simp; done) | (simp; omega) | omega)⟩
  · have G := Lib.hid (fun w => lit_b hk (givenR_any lo hi u w))
    have k := (knownB_iff _ _ _).1 hk
    cases hs : shareB n d
    · rw [show resV (shareR lo hi u n d) = .tuple #[.agg #[.int .i64 0, .int .i64 0, .int .i64 0], .int .i64 50] by simp [shareR, hs, resV, bad]]
      have key : n < 0 ∨ (¬ n < 0 ∧ 1000000 < n) ∨ (¬ n < 0 ∧ ¬ 1000000 < n ∧ d < 1) ∨ (¬ n < 0 ∧ ¬ 1000000 < n ∧ ¬ d < 1 ∧ 1000000 < d) := by
        simp [shareB] at hs
        omega
      clear hk hs k
      rcases key with h1 | ⟨h1, h2⟩ | ⟨h1, h2, h3⟩ | ⟨h1, h2, h3, h4⟩
      all_goals
        go_enter Tryd.func35, Tryd.ntmps35
        go_wp2_with fail
        refine (G.out _).mono ?_
        rintro e w1 ⟨rfl, hb⟩
        obtain ⟨hc1, hf1, hz1⟩ := after (B := w.heap.size) 2 hb (by first | assumption | (simp; done) | (simp; omega) | omega | (have := HS.out; omega)); have HB1 := Lib.hid hb; clear hb
        go_wp2
        refine bodyPost_ret (v := _) (by first | (simp [results, Tryd.results35, go_sem]; done) | simp [results, Tryd.results35, go_sem, *]) rfl ⟨rfl, by (repeat' first | exact Below.refl _ _ | assumption | (refine Below.andThen ?_ HB1.out) | (exact HB1.out.size) | (refine below_drewN ?_ _) | (refine Below.drew ?_) | (refine Below.alloc ?_ ?_ _) | (refine Below.setCell ?_ ?_ _) | (simp; done) | (simp; omega) | omega)⟩
    · have h : 0 ≤ n ∧ n ≤ 1000000 ∧ 1 ≤ d ∧ d ≤ 1000000 := by simpa [shareB, and_assoc] using hs
      obtain ⟨h1, h2, h3, h4⟩ := h
      rw [share_times hk hs]
      rcases q : timesR lo hi u n d with ⟨L, H, U, E⟩
      have CT := Lib.hid (fun w => lit_res q (refTimes_any lo hi u u n d w (by omega) (by omega) (by omega) (by omega) h1 (by omega) h3 (by omega)))
      have g1 : ¬ n < 0 := by omega
      have g2 : ¬ 1000000 < n := by omega
      have g3 : ¬ d < 1 := by omega
      have g4 : ¬ 1000000 < d := by omega
      clear hk hs k q h1 h2 h3 h4
      rw [show resV (⟨L, H, U, E⟩ : Res) = .tuple #[.agg #[.int .i64 L, .int .i64 H, .int .i64 U], .int .i64 E] from rfl]
      go_enter Tryd.func35, Tryd.ntmps35
      go_wp2_with fail
      refine (G.out _).mono ?_
      rintro e w1 ⟨rfl, hb⟩
      obtain ⟨hc1, hf1, hz1⟩ := after (B := w.heap.size) 2 hb (by first | assumption | (simp; done) | (simp; omega) | omega | (have := HS.out; omega)); have HB1 := Lib.hid hb; clear hb
      go_wp2_with fail
      refine (CT.out _).mono ?_
      rintro e w2 ⟨rfl, hb⟩
      obtain ⟨hc2, hf2, hz2⟩ := after (B := w.heap.size) 2 hb (by first | assumption | (simp; done) | (simp; omega) | omega | (have := HS.out; omega)); have HB2 := Lib.hid hb; clear hb
      go_wp2
      refine bodyPost_ret (v := _) (by first | (simp [results, Tryd.results35, go_sem]; done) | simp [results, Tryd.results35, go_sem, *]) rfl ⟨rfl, by (repeat' first | exact Below.refl _ _ | assumption | (refine Below.andThen ?_ HB2.out) | (exact HB2.out.size) | (refine Below.andThen ?_ HB1.out) | (exact HB1.out.size) | (refine below_drewN ?_ _) | (refine Below.drew ?_) | (refine Below.alloc ?_ ?_ _) | (refine Below.setCell ?_ ?_ _) | (simp; done) | (simp; omega) | omega)⟩
end Go.Proofs.YtdldokhiefeloaaDoor
