/- The calls of package unit, one by one: what each returns, and that it changes nothing that was there. -/
import Derived.Test.YtdldokhiefeloaaDoorRegion
import Derived.Test.YtdldokhiefeloaaDoorUnitSpec
namespace Go.Proofs.YtdldokhiefeloaaDoor
open Go.RowKit

theorem retv {v v' : Value} (h : v = v') : Ending.returned v = .returned v' := by rw [h]
theorem vint {k : IntKind} {a b : Int} (h : a = b) : Value.int k a = .int k b := by rw [h]
theorem vbool {a b : Bool} (h : a = b) : Value.bool a = .bool b := by rw [h]

/-- the table of units -/
structure Tab (w : World) : Prop where
  size : 0 < w.heap.size
  cell : ∀ i : Nat, i < 24 → w.cell? ⟨0, i, none⟩ = some (.int .i64 ([0, 0, 0, 1, 1, 1, 2, 1, 1, 2, 3048, 10000, 3, 1, 1, 3, 45359237, 100000000, 4, 1, 1, 4, 1, 1].getD i 0))
theorem Tab.below {w w' : World} {B : Nat} (h : Tab w) (hb : Below B w w') (hB : 0 < B) : Tab w' :=
  ⟨Nat.lt_of_lt_of_le h.size hb.size, fun i hi => (hb.cell (p := ⟨0, i, none⟩) hB).trans (h.cell i hi)⟩
theorem Tab.next {w w' : World} (h : Tab w) (hb : Below w.heap.size w w') : Tab w' := h.below hb h.size

set_option maxHeartbeats 400000 in
theorem pick_any (c n : Int) (w : World) (hn : 0 < n) (hc' : -9223372036854775808 ≤ c) (hc : c ≤ 9223372036854775807) :
    Calls Tryd.prog 24 #[.int .i64 c, .int .i64 n] w fun e w' => e = .returned (.int .i64 (pickZ c n)) ∧ w = w' := by
  by_cases h : c < 0
  · have h0 : 0 ≤ -(c + 1) := by omega
    have e : (-(c + 1)).tmod n = pickZ c n := by rw [Int.tmod_eq_emod_of_nonneg h0]; simp [pickZ, h]
    have E := Lib.hid e
    clear e
    go_enter Tryd.func24, Tryd.ntmps24
    go_wp2
    go_ret
    exact ⟨retv (vint (by rw [← E.out, Int.neg_tmod])), rfl⟩
  · have h0 : 0 ≤ c := by omega
    have e : c % n = pickZ c n := by simp [pickZ, h]
    have E := Lib.hid e
    clear e
    go_enter Tryd.func24, Tryd.ntmps24
    go_wp2
    go_ret
    exact ⟨retv (vint E.out), rfl⟩

set_option maxHeartbeats 400000 in
theorem kind_any (n : Int) (w : World) (T : Tab w) :
    Calls Tryd.prog 29 #[.int .i64 n] w fun e w' => e = .returned (.int .i64 (kindZ n)) ∧ w = w' := by
  by_cases h : n < 0 ∨ 8 ≤ n
  · rw [kindZ_out n (by omega)]
    rcases h with h | h
    · go_enter Tryd.func29, Tryd.ntmps29
      go_wp2
      go_ret
      exact ⟨rfl, rfl⟩
    · have h' : ¬ n < 0 := by omega
      go_enter Tryd.func29, Tryd.ntmps29
      go_wp2
      go_ret
      exact ⟨rfl, rfl⟩
  · have t0 := T.cell 0 (by omega)
    have t1 := T.cell 3 (by omega)
    have t2 := T.cell 6 (by omega)
    have t3 := T.cell 9 (by omega)
    have t4 := T.cell 12 (by omega)
    have t5 := T.cell 15 (by omega)
    have t6 := T.cell 18 (by omega)
    have t7 := T.cell 21 (by omega)
    simp only [List.getD_cons_zero, List.getD_cons_succ] at t0 t1 t2 t3 t4 t5 t6 t7
    clear T
    obtain ⟨k, rfl⟩ := Int.eq_ofNat_of_zero_le (show 0 ≤ n by omega)
    match k, (show k < 8 by omega) with
    | 0, _ | 1, _ | 2, _ | 3, _ | 4, _ | 5, _ | 6, _ | 7, _ =>
      clear h
      go_enter Tryd.func29, Tryd.ntmps29
      go_wp2
      go_ret
      exact ⟨rfl, rfl⟩

set_option maxHeartbeats 1000000 in
theorem valid_any (lo hi u : Int) (w : World) (T : Tab w) :
    Calls Tryd.prog 36 #[.agg #[.int .i64 lo, .int .i64 hi, .int .i64 u]] w fun e w' => e = .returned (.bool (validB lo hi u)) ∧ Below w.heap.size w w' := by
  go_enter Tryd.func36, Tryd.ntmps36
  go_wp2_with (go_at_call 29; refine (kind_any _ _ ?_).mono ?_; (exact T.below ((Below.refl _ _).alloc (Nat.le_refl _) _) T.size); rintro e w' ⟨rfl, rfl⟩)
  all_goals
    go_ret
    refine ⟨retv (vbool ?_), (Below.refl _ _).alloc (Nat.le_refl _) _⟩
    first | (simp [validB, *]; done) | (simp [validB, *]; omega)

set_option maxHeartbeats 400000 in
theorem known_any (lo hi u : Int) (w : World) (T : Tab w) :
    Calls Tryd.prog 60 #[.agg #[.int .i64 lo, .int .i64 hi, .int .i64 u]] w fun e w' => e = .returned (.bool (knownB lo hi u)) ∧ Below w.heap.size w w' := by
  have E := Lib.hid (known_valid lo hi u)
  go_enter Tryd.func60, Tryd.ntmps60
  go_wp2_with (go_at_call 36; refine (valid_any _ _ _ _ ?_).mono ?_; (exact T.below ((Below.refl _ _).alloc (Nat.le_refl _) _) T.size); rintro e w' ⟨rfl, hb⟩; obtain ⟨hc, hf⟩ := bcell hb; have HB := Lib.hid hb; clear hb)
  all_goals
    go_ret
    refine ⟨retv (vbool ?_), ((Below.refl _ _).alloc (Nat.le_refl _) _).trans (HB.out.mono (by simp))⟩
    rw [← E.out]
    simp [*]

set_option maxHeartbeats 400000 in
theorem rates_any (c e : Int) (w : World) :
    Calls Tryd.prog 27 #[.agg #[.int .i64 c, .int .i64 e]] w fun r w' => r = .returned (.bool (ratesB c e)) ∧ Below w.heap.size w w' := by
  go_enter Tryd.func27, Tryd.ntmps27
  go_wp2
  all_goals
    go_ret
    refine ⟨retv (vbool ?_), ((Below.refl _ _).alloc (Nat.le_refl _) _)⟩
    first | (simp [ratesB, *]; done) | (simp [ratesB, *]; omega)

set_option maxHeartbeats 400000 in
theorem alike_any (a b c x y z : Int) (w : World) (T : Tab w) :
    Calls Tryd.prog 56 #[.agg #[.int .i64 a, .int .i64 b, .int .i64 c], .agg #[.int .i64 x, .int .i64 y, .int .i64 z]] w fun r w' => r = .returned (.bool (knownB a b c && knownB x y z && (c == z))) ∧ Below w.heap.size w w' := by
  have T1 := T.below (((Below.refl _ _).alloc (Nat.le_refl _) (.cells #[.int .i64 a, .int .i64 b, .int .i64 c] 23)).alloc (by simp) (.cells #[.int .i64 x, .int .i64 y, .int .i64 z] 23)) T.size
  go_enter Tryd.func56, Tryd.ntmps56
  go_wp2_with fail
  refine (known_any _ _ _ _ T1).mono ?_
  rintro e w1 ⟨rfl, hb⟩
  have T2 := T1.next hb
  obtain ⟨hc1, hf1, hz1⟩ := after (B := w.heap.size) 2 hb (by first | assumption | (simp; done) | (simp; omega) | omega | (have := HS.out; omega)); have HB1 := Lib.hid hb; clear hb
  go_wp2_with (go_at_call 60; refine (known_any _ _ _ _ T2).mono ?_; rintro e w2 ⟨rfl, hb⟩; obtain ⟨hc2, hf2, hz2⟩ := after (B := w.heap.size) 2 hb (by first | assumption | (simp; done) | (simp; omega) | omega | (have := HS.out; omega)); have HB2 := Lib.hid hb; clear hb)
  all_goals
    go_ret
    refine ⟨retv (vbool ?_), ?_⟩
    · simp [*]
    · first
        | exact Below.andThen (Below.andThen (((Below.refl _ _).alloc (Nat.le_refl _) _).alloc (by simp) _) HB1.out) HB2.out
        | exact Below.andThen (((Below.refl _ _).alloc (Nat.le_refl _) _).alloc (by simp) _) HB1.out
end Go.Proofs.YtdldokhiefeloaaDoor
