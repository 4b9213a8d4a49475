/- The reference implementation's calls: they return what the plain functions say. -/
import Derived.Test.YtdldokhiefeloaaDoorUnitS
namespace Go.Proofs.YtdldokhiefeloaaDoor
open Go.RowKit

theorem kindZ_nn (u : Int) : 0 ≤ kindZ u := by unfold kindZ; repeat' split <;> omega

set_option maxHeartbeats 400000 in
theorem kindR_any (n : Int) (w : World) :
    Calls Tryd.prog 30 #[.int .i64 n] w fun e w' => e = .returned (.int .i64 (kindZ n)) ∧ w = w' := by
  go_enter Tryd.func30, Tryd.ntmps30
  go_wp2
  all_goals
    go_ret
    refine ⟨retv (vint ?_), rfl⟩
    (simp only [beq_eq_false_iff_ne, beq_iff_eq, ne_eq] at *; unfold kindZ; repeat' split <;> first | rfl | omega)

set_option maxHeartbeats 400000 in
theorem validR_any (lo hi u : Int) (w : World) :
    Calls Tryd.prog 37 #[.agg #[.int .i64 lo, .int .i64 hi, .int .i64 u]] w fun e w' => e = .returned (.bool (validB lo hi u)) ∧ Below w.heap.size w w' := by
  have K := Lib.hid (kindZ_nn u)
  go_enter Tryd.func37, Tryd.ntmps37
  go_wp2_with (go_at_call 30; refine (kindR_any _ _).mono ?_; rintro e w' ⟨rfl, rfl⟩)
  all_goals
    go_ret
    have K' := K.out
    refine ⟨retv (vbool ?_), (Below.refl _ _).alloc (Nat.le_refl _) _⟩
    first | (simp [validB, *]; done) | (simp [validB, *]; omega) | (rw [Bool.eq_iff_iff]; simp [validB, *]; omega)

set_option maxHeartbeats 400000 in
theorem ratesR_any (c e : Int) (w : World) :
    Calls Tryd.prog 28 #[.agg #[.int .i64 c, .int .i64 e]] w fun r w' => r = .returned (.bool (ratesB c e)) ∧ Below w.heap.size w w' := by
  go_enter Tryd.func28, Tryd.ntmps28
  go_wp2
  all_goals
    go_ret
    refine ⟨retv (vbool ?_), ((Below.refl _ _).alloc (Nat.le_refl _) _)⟩
    first | (simp [ratesB, *]; done) | (simp [ratesB, *]; omega)

set_option maxHeartbeats 400000 in
theorem givenR_any (lo hi u : Int) (w : World) :
    Calls Tryd.prog 58 #[.agg #[.int .i64 lo, .int .i64 hi, .int .i64 u]] w fun e w' => e = .returned (.bool (knownB lo hi u)) ∧ Below w.heap.size w w' := by
  have E := Lib.hid (known_valid lo hi u)
  go_enter Tryd.func58, Tryd.ntmps58
  go_wp2_with (go_at_call 37; refine (validR_any _ _ _ _).mono ?_; rintro e w' ⟨rfl, hb⟩; obtain ⟨hc, hf⟩ := bcell hb; have HB := Lib.hid hb; clear hb)
  all_goals
    go_ret
    refine ⟨retv (vbool ?_), ((Below.refl _ _).alloc (Nat.le_refl _) _).trans (HB.out.mono (by simp))⟩
    rw [← E.out]
    simp [*]

set_option maxHeartbeats 400000 in
theorem containsR_any (a b c x y z : Int) (w : World) :
    Calls Tryd.prog 22 #[.agg #[.int .i64 a, .int .i64 b, .int .i64 c], .agg #[.int .i64 x, .int .i64 y, .int .i64 z]] w fun r w' => r = .returned (.bool (containsB a b c x y z)) ∧ Below w.heap.size w w' := by
  go_enter Tryd.func22, Tryd.ntmps22
  go_wp2_with fail
  refine (validR_any _ _ _ _).mono ?_
  rintro e w1 ⟨rfl, hb⟩
  obtain ⟨hc1, hf1, hz1⟩ := after (B := w.heap.size) 2 hb (by first | assumption | (simp; done) | (simp; omega) | omega | (have := HS.out; omega)); have HB1 := Lib.hid hb; clear hb
  go_wp2_with (go_at_call 37; refine (validR_any _ _ _ _).mono ?_; rintro e w2 ⟨rfl, hb⟩; obtain ⟨hc2, hf2, hz2⟩ := after (B := w.heap.size) 2 hb (by first | assumption | (simp; done) | (simp; omega) | omega | (have := HS.out; omega)); have HB2 := Lib.hid hb; clear hb)
  all_goals
    go_ret
    refine ⟨retv (vbool ?_), ?_⟩
    · first | (simp [containsB, *]; done) | (simp [containsB, *]; omega) | (have h2 : c = z := (by assumption); clear hc1 hf1 hc2 hf2; subst h2; simp [containsB, *]; try omega)
    · first
        | exact Below.andThen (Below.andThen (((Below.refl _ _).alloc (Nat.le_refl _) _).alloc (by simp) _) HB1.out) HB2.out
        | exact Below.andThen (((Below.refl _ _).alloc (Nat.le_refl _) _).alloc (by simp) _) HB1.out
end Go.Proofs.YtdldokhiefeloaaDoor
