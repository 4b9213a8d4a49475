/- Products, quotients, roots, comparison, reading and printing, group by group: mathematics. -/
import Derived.Test.YtjhnfejlkljkjaaDoorIntMath2
namespace Go.Proofs.YtjhnfejlkljkjaaDoor
open Go.RowKit

namespace In
/-! ### comparison -/
theorem cmp_len {a b : Nat} (h : (gs a).length < (gs b).length) : a < b := by
  rcases Nat.lt_or_ge a b with h1 | h1
  · exact h1
  · exfalso
    have h2 := gs_lt_pow a
    have h3 := (gr_len_iff (B := 10000) (by decide) b (gs a).length).2 (by omega)
    have : (gs b).length ≤ (gs a).length := h3
    omega
theorem cmp_group {a b k : Nat} (he : a / 10000 ^ (k + 1) = b / 10000 ^ (k + 1)) (h : a / 10000 ^ k % 10000 < b / 10000 ^ k % 10000) : a < b := by
  have h1 := div_up a 10000 k
  have h2 := div_up b 10000 k
  rw [he] at h1
  have h3 : a / 10000 ^ k < b / 10000 ^ k := by omega
  rcases Nat.lt_or_ge a b with h4 | h4
  · exact h4
  · have := Nat.div_le_div_right (c := 10000 ^ k) h4
    omega
theorem cmp_next {a b k : Nat} (he : a / 10000 ^ (k + 1) = b / 10000 ^ (k + 1)) (h : a / 10000 ^ k % 10000 = b / 10000 ^ k % 10000) : a / 10000 ^ k = b / 10000 ^ k := by
  have h1 := div_up a 10000 k
  have h2 := div_up b 10000 k
  rw [he, h] at h1
  omega
def cmpN (a b : Nat) : Int := if a < b then -1 else if b < a then 1 else 0
theorem cmpN_eq (a : Nat) : cmpN a a = 0 := by unfold cmpN; rw [if_neg (Nat.lt_irrefl _), if_neg (Nat.lt_irrefl _)]
theorem cmpN_lt {a b : Nat} (h : a < b) : cmpN a b = -1 := if_pos h
theorem cmpN_gt {a b : Nat} (h : b < a) : cmpN a b = 1 := by unfold cmpN; rw [if_neg (by omega), if_pos h]
/-! ### products -/
theorem mul_horner {a b i : Nat} : b * (a / 10000 ^ i) = b * (a / 10000 ^ (i + 1)) * 10000 + b * (a / 10000 ^ i % 10000) := by
  conv => lhs; rw [div_up a 10000 i]
  rw [Nat.mul_add, Nat.mul_assoc]
theorem gs_top (a : Nat) : a / 10000 ^ (gs a).length = 0 := Nat.div_eq_of_lt (gs_lt_pow a)
/-! ### quotients -/
theorem quo_next {a b i : Nat} (hb : 0 < b) :
    a / 10000 ^ i / b = a / 10000 ^ (i + 1) / b * 10000 + (a / 10000 ^ (i + 1) % b * 10000 + a / 10000 ^ i % 10000) / b ∧
    a / 10000 ^ i % b = (a / 10000 ^ (i + 1) % b * 10000 + a / 10000 ^ i % 10000) % b := by
  have h := div_step (A := a / 10000 ^ (i + 1)) (b := b) (B := 10000) (a0 := a / 10000 ^ i % 10000) hb
  rw [← div_up a 10000 i] at h
  exact h
theorem quo_digit {a b i : Nat} (hb : 0 < b) : (a / 10000 ^ (i + 1) % b * 10000 + a / 10000 ^ i % 10000) / b < 10000 := div_digit hb (Nat.mod_lt _ (by decide))
/-- the three highest groups of what is divided, the two highest ones of the divisor -/
theorem gs_two {b k : Nat} (h : (gs b).length = k + 2) : (b / 10000 ^ (k + 1) % 10000) * 10000 + b / 10000 ^ k % 10000 = b / 10000 ^ k ∧ 0 < b / 10000 ^ (k + 1) := by
  have h1 := div_up b 10000 k
  have h2 := div_up b 10000 (k + 1)
  have h3 := gs_top b
  rw [h] at h3
  rw [show k + 1 + 1 = k + 2 from rfl, h3] at h2
  refine ⟨by omega, ?_⟩
  rcases Nat.eq_zero_or_pos (b / 10000 ^ (k + 1)) with h0 | h0
  · have h4 : b < 10000 ^ (k + 1) := by
      rcases Nat.lt_or_ge b (10000 ^ (k + 1)) with h5 | h5
      · exact h5
      · have := Nat.div_pos h5 (Nat.pow_pos (by decide))
        omega
    have h5 : (gs b).length ≤ k + 1 := (gr_len_iff (by decide) b (k + 1)).2 h4
    omega
  · exact h0
theorem gs_three {R k : Nat} (h : R < 10000 ^ (k + 3)) : (R / 10000 ^ (k + 2) % 10000 * 10000 + R / 10000 ^ (k + 1) % 10000) * 10000 + R / 10000 ^ k % 10000 = R / 10000 ^ k := by
  have h1 := div_up R 10000 k
  have h2 := div_up R 10000 (k + 1)
  have h3 := div_up R 10000 (k + 2)
  rw [show k + 2 + 1 = k + 3 from rfl, Nat.div_eq_of_lt h] at h3
  rw [show k + 1 + 1 = k + 2 from rfl] at h2
  omega
/-- between which groups the next one of the quotient is -/
theorem quo_bounds {R b k : Nat} (hb : 0 < b) (hD : 0 < b / 10000 ^ k) : R / 10000 ^ k / (b / 10000 ^ k + 1) ≤ R / b ∧ R / b ≤ R / 10000 ^ k / (b / 10000 ^ k) := by
  have hp : 0 < 10000 ^ k := Nat.pow_pos (by decide)
  refine ⟨bounds_low (P := 10000 ^ k) hb (Nat.div_mul_le_self _ _) (Nat.le_of_lt ?_), bounds_high (P := 10000 ^ k) hD ?_ (Nat.div_mul_le_self _ _)⟩
  · exact (Nat.div_lt_iff_lt_mul hp).1 (Nat.lt_succ_self _)
  · exact (Nat.div_lt_iff_lt_mul hp).1 (Nat.lt_succ_self _)
theorem quo_bounds_one {R b : Nat} (hb : 0 < b) : R * 10000 / (b * 10000 + 1) ≤ R / b ∧ R / b ≤ R * 10000 / (b * 10000) := by
  have e : R * 10000 / (b * 10000) = R / b := Nat.mul_div_mul_right _ _ (by decide)
  have h1 : R * 10000 / (b * 10000 + 1) ≤ R * 10000 / (b * 10000) := Nat.div_le_div_left (by omega) (by omega)
  omega
/-! ### roots -/
theorem root_next {a X P d : Nat} (h1 : (X + d * P) * (X + d * P) ≤ a) (h2 : d < 9999 → ¬ (X + (d + 1) * P) * (X + (d + 1) * P) ≤ a) (h3 : a < (X + 10000 * P) * (X + 10000 * P)) (hd : d ≤ 9999) :
    a < (X + d * P + P) * (X + d * P + P) := by
  have e : X + d * P + P = X + (d + 1) * P := by rw [Nat.add_mul, Nat.one_mul, Nat.add_assoc]
  rw [e]
  rcases Nat.lt_or_ge d 9999 with h | h
  · have := h2 h
    omega
  · obtain rfl : d = 9999 := by omega
    exact h3
theorem root_mono {a X P d e : Nat} (h : d ≤ e) (h1 : (X + e * P) * (X + e * P) ≤ a) : (X + d * P) * (X + d * P) ≤ a :=
  Nat.le_trans (sq_le (Nat.add_le_add_left (Nat.mul_le_mul_right _ h) _)) h1
/-! ### reading and printing -/
theorem read_next {l : List UInt8} {ds : List Nat} {j e : Nat} (hl : ds.length = j) (he : e ≤ l.length) (h0 : 0 < e) (h : nv 10000 ds + 10000 ^ j * val10 (l.take e) = val10 l) :
    nv 10000 (ds ++ [val10 ((l.take e).drop (e - 4))]) + 10000 ^ (j + 1) * val10 (l.take (e - 4)) = val10 l := by
  have hs : l.take e = l.take (e - 4) ++ (l.take e).drop (e - 4) := by
    conv => lhs; rw [← List.take_append_drop (e - 4) (l.take e), List.take_take, Nat.min_eq_left (by omega)]
  rw [nv_snoc, hl, ← h]
  conv => rhs; rw [hs]
  rw [val10_append, Nat.mul_add]
  have hlen : ((l.take e).drop (e - 4)).length = e - (e - 4) := by rw [List.length_drop, List.length_take]; omega
  rw [hlen]
  rcases Nat.lt_or_ge e 4 with h4 | h4
  · have e0 : e - 4 = 0 := by omega
    rw [e0, List.take_zero]
    simp [val10]
  · rw [show e - (e - 4) = 4 by omega, show (10 : Nat) ^ 4 = 10000 from rfl, Nat.pow_succ, Nat.mul_assoc (10000 ^ j)]
    generalize 10000 ^ j * (10000 * val10 (l.take (e - 4))) = U
    generalize 10000 ^ j * val10 ((l.take e).drop (e - 4)) = V
    omega
theorem print_next {n i : Nat} (h : n / 10000 ^ (i + 1) ≠ 0) : Lib.decDigits (n / 10000 ^ i) = Lib.decDigits (n / 10000 ^ (i + 1)) ++ pad4 (n / 10000 ^ i % 10000) := by
  rw [div_up n 10000 i, dec_more h (Nat.mod_lt _ (by decide)), ← div_up n 10000 i]
theorem gs_high {n i : Nat} (h : i < (gs n).length) : n / 10000 ^ i ≠ 0 := by
  intro h0
  have h1 : n < 10000 ^ i := by
    rcases Nat.lt_or_ge n (10000 ^ i) with h5 | h5
    · exact h5
    · have := Nat.div_pos h5 (Nat.pow_pos (by decide))
      omega
  have h5 : (gs n).length ≤ i := (gr_len_iff (by decide) n i).2 h1
  omega
end In
end Go.Proofs.YtjhnfejlkljkjaaDoor
