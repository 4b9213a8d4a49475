/- The laws of integers, as mathematics: sizes, signs, divisors. -/
import Derived.Test.YtjhnfejlkljkjaaDoorIntSpec
namespace Go.Proofs.YtjhnfejlkljkjaaDoor
open Go.RowKit

namespace In
theorem fit_add {a b : Int} {k : Nat} (hk : k < 200) (ha : a.natAbs < 10 ^ k) (hb : b.natAbs < 10 ^ k) : (a + b).natAbs < 10 ^ (k + 1) := by
  have := Int.natAbs_add_le a b
  rw [Nat.pow_succ]
  omega
theorem abs_add {a b : Int} {k : Nat} (ha : a.natAbs < 10 ^ k) (hb : b.natAbs < 10 ^ k) : (a + b).natAbs < 10 ^ (k + 1) := by
  have := Int.natAbs_add_le a b
  rw [Nat.pow_succ]
  omega
theorem abs_sub {a b : Int} {k : Nat} (ha : a.natAbs < 10 ^ k) (hb : b.natAbs < 10 ^ k) : (a - b).natAbs < 10 ^ (k + 1) := by
  have := Int.natAbs_sub_le a b
  rw [Nat.pow_succ]
  omega
theorem abs_mul {a b : Int} {k l : Nat} (ha : a.natAbs < 10 ^ k) (hb : b.natAbs < 10 ^ l) : (a * b).natAbs < 10 ^ (k + l) := by
  rw [Int.natAbs_mul, Nat.pow_add]
  exact Nat.mul_lt_mul'' ha hb
theorem abs_up {a : Int} {k l : Nat} (ha : a.natAbs < 10 ^ k) (h : k ≤ l) : a.natAbs < 10 ^ l := Nat.lt_of_lt_of_le ha (Nat.pow_le_pow_right (by decide) h)
theorem fit_of {a : Int} {k : Nat} (ha : a.natAbs < 10 ^ k) (h : k ≤ 200) : Fit a := abs_up ha h
theorem abs_div {a b : Int} {k : Nat} (ha : a.natAbs < 10 ^ k) : (a / b).natAbs < 10 ^ k := Nat.lt_of_le_of_lt (quo_le a b) ha
theorem abs_mod {a b : Int} {k : Nat} (hb0 : b ≠ 0) (hb : b.natAbs < 10 ^ k) : (a % b).natAbs < 10 ^ k := by
  have h1 := Int.emod_nonneg a hb0
  have h2 := Int.emod_lt a hb0
  omega
theorem cmpZ_le (x y : Int) : decide (cmpZ x y ≤ 0) = decide (x ≤ y) := by
  unfold cmpZ
  split
  · rw [decide_eq_true (by omega), decide_eq_true (by omega)]
  · split
    · rw [decide_eq_false (by omega), decide_eq_false (by omega)]
    · rw [decide_eq_true (by omega), decide_eq_true (by omega)]
theorem cmpZ_sub (x y : Int) : cmpZ (x - y) 0 = cmpZ x y := by unfold cmpZ; split <;> split <;> (try split) <;> (try split) <;> omega
theorem cmpZ_add (x y z : Int) : cmpZ (x + z) (y + z) = cmpZ x y := by unfold cmpZ; split <;> split <;> (try split) <;> (try split) <;> omega
theorem cmpZ_turn (x y : Int) : cmpZ y x = -cmpZ x y := by unfold cmpZ; split <;> split <;> (try split) <;> omega
theorem cmpZ_zero (x y : Int) : cmpZ x y = 0 ↔ x = y := by unfold cmpZ; split <;> (try split) <;> omega
theorem cmpZ_in (x y : Int) : -1 ≤ cmpZ x y ∧ cmpZ x y ≤ 1 := by unfold cmpZ; split <;> (try split) <;> omega
end In
end Go.Proofs.YtjhnfejlkljkjaaDoor
