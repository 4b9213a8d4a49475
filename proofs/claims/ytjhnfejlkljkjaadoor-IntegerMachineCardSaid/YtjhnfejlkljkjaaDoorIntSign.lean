/- Integers as absolute values with signs: mathematics. -/
import Derived.Test.YtjhnfejlkljkjaaDoorIntText
namespace Go.Proofs.YtjhnfejlkljkjaaDoor
open Go.RowKit

namespace In
def sgn (n : Nat) (neg : Bool) : Int := if neg = true then -(n : Int) else n
theorem sgn_abs (n : Nat) (s : Bool) : (sgn n s).natAbs = n := by unfold sgn; split <;> omega
/-- the sign of an integer -/
def neg (z : Int) : Bool := decide (z < 0)
theorem sgn_neg (z : Int) : sgn z.natAbs (neg z) = z := by
  unfold sgn neg
  by_cases h : z < 0
  · rw [decide_eq_true h, if_pos rfl]; omega
  · rw [decide_eq_false h, if_neg (by simp)]; omega
/-- a sign that 0 does not have -/
theorem neg_sgn (n : Nat) (s : Bool) : neg (sgn n s) = (s && decide (0 < n)) := by
  unfold sgn neg
  cases s with
  | true =>
    rw [if_pos rfl, Bool.true_and]
    by_cases h : 0 < n
    · rw [decide_eq_true h, decide_eq_true (by omega)]
    · rw [decide_eq_false h, decide_eq_false (by omega)]
  | false => rw [if_neg (by simp), Bool.false_and, decide_eq_false (by omega)]
theorem sgn_plus (a b : Nat) (s : Bool) : sgn a s + sgn b s = sgn (a + b) s := by
  unfold sgn
  cases s
  · simp
  · simp; omega
theorem sgn_less {a b : Nat} {s t : Bool} (h : s ≠ t) (hl : a < b) : sgn a s + sgn b t = sgn (b - a) t := by
  unfold sgn
  cases s <;> cases t <;> simp_all <;> omega
theorem sgn_more {a b : Nat} {s t : Bool} (h : s ≠ t) (hl : b ≤ a) : sgn a s + sgn b t = sgn (a - b) s := by
  unfold sgn
  cases s <;> cases t <;> simp_all <;> omega
theorem sgn_minus (a : Nat) (s : Bool) : -sgn a s = sgn a (!s) := by
  unfold sgn
  cases s <;> simp
theorem sgn_times (a b : Nat) (s t : Bool) : sgn a s * sgn b t = sgn (a * b) (s != t) := by
  unfold sgn
  cases s <;> cases t <;> simp [Int.neg_mul, Int.mul_neg]
theorem sgn_compare (a b : Nat) (s t : Bool) (hs : s = true → 0 < a) (ht : t = true → 0 < b) : (sgn a s < sgn b t ↔ (s = true ∧ t = true ∧ b < a) ∨ (s = true ∧ t = false) ∨ (s = false ∧ t = false ∧ a < b)) := by
  unfold sgn
  cases s <;> cases t <;> simp_all <;> omega
/-- quotient and remainder, which is not negative -/
theorem div_pos {a b : Nat} (hb : 0 < b) (s : Bool) :
    sgn a s / (b : Int) = sgn (if (s && decide (0 < a % b)) = true then a / b + 1 else a / b) s ∧ sgn a s % (b : Int) = ((if (s && decide (0 < a % b)) = true then b - a % b else a % b : Nat) : Int) := by
  have hm := Nat.mod_lt a hb
  have hd := Nat.mod_add_div a b
  have hd' : ((a % b : Nat) : Int) + (b : Int) * ((a / b : Nat) : Int) = a := by exact_mod_cast hd
  cases s with
  | false =>
    unfold sgn
    simp
  | true =>
    by_cases h : 0 < a % b
    · rw [decide_eq_true h]
      simp only [Bool.and_self, if_true, sgn]
      refine (Int.ediv_emod_unique (by omega)).2 ⟨?_, by omega, by omega⟩
      have e : (b : Int) * -(((a / b + 1 : Nat)) : Int) = -((b : Int) * ((a / b : Nat) : Int)) - b := by
        push_cast
        rw [Int.mul_neg, Int.mul_add, Int.mul_one]
        omega
      rw [e]
      have : ((b - a % b : Nat) : Int) = b - (a % b : Nat) := by omega
      rw [this]
      omega
    · rw [decide_eq_false h]
      simp only [Bool.and_false, Bool.false_eq_true, if_false, sgn, if_true]
      refine (Int.ediv_emod_unique (by omega)).2 ⟨?_, by omega, by omega⟩
      rw [Int.mul_neg]
      omega
theorem div_sgn {a b : Nat} (hb : 0 < b) (s t : Bool) :
    sgn a s / sgn b t = sgn (if (s && decide (0 < a % b)) = true then a / b + 1 else a / b) (s != t) ∧ sgn a s % sgn b t = ((if (s && decide (0 < a % b)) = true then b - a % b else a % b : Nat) : Int) := by
  obtain ⟨h1, h2⟩ := div_pos (a := a) hb s
  cases t with
  | false =>
    have e : sgn b false = (b : Int) := by unfold sgn; simp
    rw [e]
    refine ⟨?_, h2⟩
    rw [h1]
    cases s <;> rfl
  | true =>
    have e : sgn b true = -(b : Int) := by unfold sgn; simp
    rw [e, Int.ediv_neg, Int.emod_neg]
    refine ⟨?_, h2⟩
    rw [h1, sgn_minus]
    cases s <;> rfl
end In
end Go.Proofs.YtjhnfejlkljkjaaDoor
