/- What strconv.Atoi makes of a valid integer: mathematics. -/
import Derived.Test.YtjhnfejlkljkjaaDoorIntSpec
import Derived.Lib.AtoiAllCases
namespace Go.Proofs.YtjhnfejlkljkjaaDoor
open Go.RowKit

namespace In
theorem parseU_is : ∀ (l : List UInt8) (acc : Nat), (∀ c ∈ l, isDig c = true) → acc < 18446744073709551616 →
    Lib.parseUint10 acc l = if 10 ^ l.length * acc + val10 l < 18446744073709551616 then .ok (10 ^ l.length * acc + val10 l) else .range := by
  intro l
  induction l with
  | nil =>
    intro acc _ ha
    simp [Lib.parseUint10, val10, ha]
  | cons c r ih =>
    intro acc h ha
    have hc := h c List.mem_cons_self
    have hr := fun x hx => h x (List.mem_cons_of_mem c hx)
    simp only [isDig, Bool.and_eq_true, decide_eq_true_eq] at hc
    have e : 10 ^ (c :: r).length * acc + val10 (c :: r) = 10 ^ r.length * (acc * 10 + (c.toNat - 48)) + val10 r := by
      rw [val10_cons, List.length_cons, Nat.pow_succ, Nat.mul_add, Nat.mul_comm acc 10, ← Nat.mul_assoc, Nat.add_assoc]
      rfl
    rw [e]
    have hp : 1 ≤ 10 ^ r.length := Nat.pow_pos (by decide)
    have hge : acc * 10 + (c.toNat - 48) ≤ 10 ^ r.length * (acc * 10 + (c.toNat - 48)) := Nat.le_mul_of_pos_left _ hp
    simp only [Lib.parseUint10]
    rw [if_pos hc]
    by_cases h1 : 1844674407370955162 ≤ acc
    · rw [if_pos h1, if_neg (by omega)]
    · rw [if_neg h1]
      by_cases h2 : 18446744073709551616 ≤ acc * 10 + (c.toNat - 48)
      · rw [if_pos h2, if_neg (by omega)]
      · rw [if_neg h2, ih _ hr (by omega)]
theorem parseMag_dec (u : Nat) : Lib.parseMag (Lib.decDigits u) = if u < 18446744073709551616 then .ok u else .range := by
  unfold Lib.parseMag
  rw [if_neg (dec_ne u), parseU_is _ 0 (dec_dig u) (by decide), Nat.mul_zero, Nat.zero_add, dec_val]
theorem atoi_txt (z : Int) : Lib.atoiAll (txtL z) = if -9223372036854775808 ≤ z ∧ z ≤ 9223372036854775807 then .ok z else .range := by
  unfold txtL Lib.itoa
  by_cases h : z < 0
  · rw [if_pos h, Lib.atoiAll_minus, parseMag_dec]
    by_cases h1 : z.natAbs < 18446744073709551616
    · rw [if_pos h1]
      simp only [Lib.signed]
      by_cases h2 : 9223372036854775808 < z.natAbs
      · rw [if_pos h2, if_neg (by omega)]
      · rw [if_neg h2, if_pos (by omega)]
        congr 1
        omega
    · rw [if_neg h1, if_neg (by omega)]
      rfl
  · rw [if_neg h]
    obtain ⟨c, r, hc⟩ : ∃ c r, Lib.decDigits z.toNat = c :: r := by
      cases hq : Lib.decDigits z.toNat with
      | nil => exact absurd hq (dec_ne _)
      | cons c r => exact ⟨c, r, rfl⟩
    have hd := dec_dig z.toNat c (by rw [hc]; exact List.mem_cons_self)
    simp only [isDig, Bool.and_eq_true, decide_eq_true_eq] at hd
    have hp := parseMag_dec z.toNat
    rw [hc] at hp ⊢
    rw [Lib.atoiAll_plain c r (by omega) (by omega), hp]
    by_cases h1 : z.toNat < 18446744073709551616
    · rw [if_pos h1]
      simp only [Lib.signless]
      by_cases h2 : 9223372036854775808 ≤ z.toNat
      · rw [if_pos h2, if_neg (by omega)]
      · rw [if_neg h2, if_pos (by omega)]
        congr 1
        omega
    · rw [if_neg h1, if_neg (by omega)]
      rfl
end In
end Go.Proofs.YtjhnfejlkljkjaaDoor
