/- The reference's Meet. -/
import Derived.Test.YtdldokhiefeloaaDoorUnitR2
import Derived.Test.YtdldokhiefeloaaDoorUnitSums
import Derived.Lib.MinMax
namespace Go.Proofs.YtdldokhiefeloaaDoor
open Go.RowKit Go.ChangeShapes Go.WideShapes

set_option maxHeartbeats 1000000 in
theorem refMeet_any (a b c x y z : Int) (w : World) :
    Calls Tryd.prog 20 #[.agg #[.int .i64 a, .int .i64 b, .int .i64 c], .agg #[.int .i64 x, .int .i64 y, .int .i64 z]] w fun r w' => r = .returned (resV (meetR a b c x y z)) ∧ Below w.heap.size w w' := by
  cases ha : knownB a b c
  · have G1 := Lib.hid (fun w => lit_b ha (givenR_any a b c w))
    rw [show resV (meetR a b c x y z) = .tuple #[.agg #[.int .i64 0, .int .i64 0, .int .i64 0], .int .i64 50] by simp [meetR, ha, resV, bad]]
    clear ha
    go_enter Tryd.func20, Tryd.ntmps20
    go_wp2_with fail
    refine (G1.out _).mono ?_
    rintro e w1 ⟨rfl, hb⟩
    obtain ⟨hc1, hf1, hz1⟩ := after (B := w.heap.size) 3 hb (by first | assumption | (simp; done) | (simp; omega) | omega | (have := HS.out; omega)); have HB1 := Lib.hid hb; clear hb
    go_wp2
    refine bodyPost_ret (v := _) (by first | (simp [results, Tryd.results20, go_sem]; done) | simp [results, Tryd.results20, go_sem, *]) rfl ⟨rfl, by (repeat' first | exact Below.refl _ _ | assumption | (refine Below.andThen ?_ HB1.out) | (exact HB1.out.size) | (refine below_drewN ?_ _) | (refine Below.drew ?_) | (refine Below.alloc ?_ ?_ _) | (refine Below.setCell ?_ ?_ _) | (simp; done) | (simp; omega) | omega)⟩
  · have k := (knownB_iff _ _ _).1 ha
    have G1 := Lib.hid (fun w => lit_b ha (givenR_any a b c w))
    cases hx : knownB x y z
    · have G2 := Lib.hid (fun w => lit_b hx (givenR_any x y z w))
      rw [show resV (meetR a b c x y z) = .tuple #[.agg #[.int .i64 0, .int .i64 0, .int .i64 0], .int .i64 50] by simp [meetR, hx, resV, bad]]
      clear ha hx k
      go_enter Tryd.func20, Tryd.ntmps20
      go_wp2_with fail
      refine (G1.out _).mono ?_
      rintro e w1 ⟨rfl, hb⟩
      obtain ⟨hc1, hf1, hz1⟩ := after (B := w.heap.size) 3 hb (by first | assumption | (simp; done) | (simp; omega) | omega | (have := HS.out; omega)); have HB1 := Lib.hid hb; clear hb
      go_wp2_with fail
      refine (G2.out _).mono ?_
      rintro e w2 ⟨rfl, hb⟩
      obtain ⟨hc2, hf2, hz2⟩ := after (B := w.heap.size) 3 hb (by first | assumption | (simp; done) | (simp; omega) | omega | (have := HS.out; omega)); have HB2 := Lib.hid hb; clear hb
      go_wp2
      refine bodyPost_ret (v := _) (by first | (simp [results, Tryd.results20, go_sem]; done) | simp [results, Tryd.results20, go_sem, *]) rfl ⟨rfl, by (repeat' first | exact Below.refl _ _ | assumption | (refine Below.andThen ?_ HB2.out) | (exact HB2.out.size) | (refine Below.andThen ?_ HB1.out) | (exact HB1.out.size) | (refine below_drewN ?_ _) | (refine Below.drew ?_) | (refine Below.alloc ?_ ?_ _) | (refine Below.setCell ?_ ?_ _) | (simp; done) | (simp; omega) | omega)⟩
    · have k' := (knownB_iff _ _ _).1 hx
      have G2 := Lib.hid (fun w => lit_b hx (givenR_any x y z w))
      have key : (c ≠ z ∧ resV (meetR a b c x y z) = .tuple #[.agg #[.int .i64 0, .int .i64 0, .int .i64 0], .int .i64 50]) ∨ (c = z ∧ y < a ∧ resV (meetR a b c x y z) = .tuple #[.agg #[.int .i64 0, .int .i64 0, .int .i64 0], .int .i64 50]) ∨ (c = z ∧ ¬ y < a ∧ b < x ∧ resV (meetR a b c x y z) = .tuple #[.agg #[.int .i64 0, .int .i64 0, .int .i64 0], .int .i64 50]) ∨ (c = z ∧ ¬ y < a ∧ ¬ b < x ∧ resV (meetR a b c x y z) = .tuple #[.agg #[.int .i64 (max a x), .int .i64 (min b y), .int .i64 c], .int .i64 0]) := by
        by_cases hc : c = z
        · subst hc
          obtain ⟨_, _, h | h⟩ := meet_math ha hx
          · exact .inr (.inr (.inr ⟨rfl, by omega, by omega, by rw [h.2.1]; rfl⟩))
          · by_cases h3 : y < a
            · exact .inr (.inl ⟨rfl, h3, by rw [h.2]; rfl⟩)
            · exact .inr (.inr (.inl ⟨rfl, h3, by omega, by rw [h.2]; rfl⟩))
        · exact .inl ⟨hc, by simp [meetR, hc, resV, bad]⟩
      obtain ⟨k1, k2, k3, k4⟩ : 0 ≤ a ∧ a ≤ 999999 ∧ 0 ≤ b ∧ b ≤ 999999 := by omega
      obtain ⟨k5, k6, k7, k8⟩ : 0 ≤ x ∧ x ≤ 999999 ∧ 0 ≤ y ∧ y ≤ 999999 := by omega
      clear ha hx k k'
      rcases key with ⟨h1, e⟩ | ⟨rfl, h1, e⟩ | ⟨rfl, h1, h2, e⟩ | ⟨rfl, h1, h2, e⟩
      all_goals
        rw [e]
        clear e
        go_enter Tryd.func20, Tryd.ntmps20
        go_wp2_with fail
        refine (G1.out _).mono ?_
        rintro e w1 ⟨rfl, hb⟩
        obtain ⟨hc1, hf1, hz1⟩ := after (B := w.heap.size) 3 hb (by first | assumption | (simp; done) | (simp; omega) | omega | (have := HS.out; omega)); have HB1 := Lib.hid hb; clear hb
        go_wp2_with fail
        refine (G2.out _).mono ?_
        rintro e w2 ⟨rfl, hb⟩
        obtain ⟨hc2, hf2, hz2⟩ := after (B := w.heap.size) 3 hb (by first | assumption | (simp; done) | (simp; omega) | omega | (have := HS.out; omega)); have HB2 := Lib.hid hb; clear hb
        go_wp2
        refine bodyPost_ret (v := _) (by first | (simp [results, Tryd.results20, go_sem]; done) | simp [results, Tryd.results20, go_sem, *]) rfl ⟨rfl, by (repeat' first | exact Below.refl _ _ | assumption | (refine Below.andThen ?_ HB2.out) | (exact HB2.out.size) | (refine Below.andThen ?_ HB1.out) | (exact HB1.out.size) | (refine below_drewN ?_ _) | (refine Below.drew ?_) | (refine Below.alloc ?_ ?_ _) | (refine Below.setCell ?_ ?_ _) | (simp; done) | (simp; omega) | omega)⟩

end Go.Proofs.YtdldokhiefeloaaDoor
