/- The days of a year and the long years among 400: plain mathematics. -/
import Derived.Test.YtdldokhiefeloaaDoorCalN
namespace Go.Proofs.YtdldokhiefeloaaDoor
open Go.RowKit

/-- the days of the first months of a year -/
def sumD (y : Int) : Nat → Int
  | 0 => 0
  | n + 1 => sumD y n + daysZ y (n + 1 : Nat)
theorem sumD_bd (y : Int) (n : Nat) : 0 ≤ sumD y n ∧ sumD y n ≤ 31 * n := by
  induction n with
  | zero => exact ⟨Int.le_refl _, Int.le_refl _⟩
  | succ n ih =>
    have := daysZ_bd y (n + 1 : Nat)
    simp only [sumD]
    omega
def leapZ (y : Int) : Int := if leapB y = true then 1 else 0
theorem sumD_year (y : Int) (h : 1 ≤ y ∧ y ≤ 9999) : sumD y 12 = 365 + leapZ y := by
  obtain ⟨d1, d2, d3, d4, d5, d6, d7, d8, d9, d10, d11, d12⟩ := daysY y h
  simp only [sumD, leapZ, Nat.reduceAdd, Int.cast_ofNat_Int, Nat.zero_add, d1, d2, d3, d4, d5, d6, d7, d8, d9, d10, d11, d12]
  split <;> rfl
theorem leapZ_bd (y : Int) : 0 ≤ leapZ y ∧ leapZ y ≤ 1 := by unfold leapZ; split <;> omega
/-- the long years among the next ones -/
def longD (y : Int) : Nat → Int
  | 0 => 0
  | n + 1 => longD y n + leapZ (y + n)
theorem longD_bd (y : Int) (n : Nat) : 0 ≤ longD y n ∧ longD y n ≤ n := by
  induction n with
  | zero => exact ⟨Int.le_refl _, Int.le_refl _⟩
  | succ n ih =>
    have := leapZ_bd (y + n)
    simp only [longD]
    omega
def leaps (n : Nat) : Nat := n / 4 + n / 400 - n / 100
theorem leaps_step (n : Nat) : (leaps (n + 1) : Int) = leaps n + leapZ (n + 1 : Nat) := by
  unfold leaps leapZ leapB
  obtain ⟨q, r, rfl, hr⟩ : ∃ q r : Nat, n = 400 * q + r ∧ r < 400 := ⟨n / 400, n % 400, by omega, by omega⟩
  have e : ∀ a : Nat, (((((400 * q + r + 1 : Nat) : Int)) % 4 == 0 && (((400 * q + r + 1 : Nat) : Int)) % 100 != 0) || (((400 * q + r + 1 : Nat) : Int)) % 400 == 0) = ((decide ((r + 1) % 4 = 0) && !decide ((r + 1) % 100 = 0)) || decide ((r + 1) % 400 = 0)) := by
    intro _
    have a : ((((400 * q + r + 1 : Nat) : Int)) % 4 == 0) = decide ((r + 1) % 4 = 0) := by rw [Bool.eq_iff_iff, beq_iff_eq, decide_eq_true_eq]; omega
    have b : ((((400 * q + r + 1 : Nat) : Int)) % 100 == 0) = decide ((r + 1) % 100 = 0) := by rw [Bool.eq_iff_iff, beq_iff_eq, decide_eq_true_eq]; omega
    have c : ((((400 * q + r + 1 : Nat) : Int)) % 400 == 0) = decide ((r + 1) % 400 = 0) := by rw [Bool.eq_iff_iff, beq_iff_eq, decide_eq_true_eq]; omega
    rw [a, c, show ((((400 * q + r + 1 : Nat) : Int)) % 100 != 0) = !((((400 * q + r + 1 : Nat) : Int)) % 100 == 0) from rfl, b]
  rw [e 0]
  have key : ∀ r : Fin 400, ((r.1 + 1) / 4 + (r.1 + 1) / 400 - (r.1 + 1) / 100 : Nat) = (r.1 / 4 + r.1 / 400 - r.1 / 100 : Nat) + (if ((decide ((r.1 + 1) % 4 = 0) && !decide ((r.1 + 1) % 100 = 0)) || decide ((r.1 + 1) % 400 = 0)) = true then 1 else 0) := by decide +kernel
  have k := key ⟨r, hr⟩
  dsimp only at k
  have h1 : (400 * q + r + 1) / 4 + (400 * q + r + 1) / 400 - (400 * q + r + 1) / 100 = 97 * q + ((r + 1) / 4 + (r + 1) / 400 - (r + 1) / 100) := by omega
  have h2 : (400 * q + r) / 4 + (400 * q + r) / 400 - (400 * q + r) / 100 = 97 * q + (r / 4 + r / 400 - r / 100) := by omega
  rw [h1, h2, k]
  split <;> omega
theorem longD_eq (y n : Nat) : longD ((y : Int) + 1) n = leaps (y + n) - leaps y := by
  induction n with
  | zero => simp [longD]
  | succ n ih =>
    have s := leaps_step (y + n)
    simp only [longD, ih]
    rw [show y + (n + 1) = y + n + 1 by omega, s, show ((y : Int) + 1 + n) = ((y + n + 1 : Nat) : Int) by omega]
    omega
theorem longD_400 (y : Int) (h : 1 ≤ y) : longD y 400 = 97 := by
  obtain ⟨k, rfl⟩ : ∃ k : Nat, y = (k : Int) + 1 := ⟨(y - 1).toNat, by omega⟩
  rw [longD_eq]
  unfold leaps
  omega
theorem daysZ_same (y z m : Int) (hy : 1 ≤ y ∧ y ≤ 9999) (hz : 1 ≤ z ∧ z ≤ 9999) (hm : m ≠ 2) : daysZ y m = daysZ z m := by
  unfold daysZ
  simp only [hm, false_and, if_false]
  split <;> split <;> first | rfl | omega
end Go.Proofs.YtdldokhiefeloaaDoor
