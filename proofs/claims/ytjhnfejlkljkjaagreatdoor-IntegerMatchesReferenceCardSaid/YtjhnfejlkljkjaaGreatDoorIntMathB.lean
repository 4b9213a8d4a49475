/- Lists of digits: what loops over them leave. -/
/- Products, quotients, roots, comparison, reading and printing, group by group: mathematics. -/
import Derived.Test.YtjhnfejlkljkjaaGreatDoorIntSign
namespace Go.Proofs.YtjhnfejlkljkjaaGreatDoor
open Go.RowKit

namespace In
abbrev BB : Nat := 10000
theorem BB2 : 2 ≤ BB := by decide
/-- the groups of a natural number -/
abbrev gs (n : Nat) : List Nat := gr 10000 n
theorem gs_lt (n : Nat) : ∀ x ∈ gs n, x < 10000 := gr_lt (by decide) n
theorem gs_zero : gs 0 = [] := rfl
theorem gs_nil {n : Nat} : (gs n).length = 0 ↔ n = 0 := by rw [List.length_eq_zero_iff]; exact gr_eq_nil (by decide)
/-- without the zeros at the end -/
theorem trim_is {l : List Nat} {k : Nat} (hl : ∀ x ∈ l, x < 10000) (hk : k ≤ l.length) (hz : ∀ j x, k ≤ j → l[j]? = some x → x = 0) (he : k = 0 ∨ ∃ x, l[k - 1]? = some x ∧ x ≠ 0) : gs (nv 10000 l) = l.take k := by
  have hd : l.drop k = List.replicate (l.length - k) 0 := by
    apply List.eq_replicate_iff.2
    refine ⟨by rw [List.length_drop], fun x hx => ?_⟩
    obtain ⟨i, hi⟩ := List.getElem?_of_mem hx
    rw [List.getElem?_drop] at hi
    exact hz (k + i) x (by omega) hi
  have hsplit : l = l.take k ++ List.replicate (l.length - k) 0 := by rw [← hd, List.take_append_drop]
  have hn : nv 10000 l = nv 10000 (l.take k) := by
    conv => lhs; rw [hsplit]
    rw [nv_append, nv_zeros, Nat.mul_zero, Nat.add_zero]
  rw [hn]
  obtain ⟨m, hm⟩ := gr_nv (B := 10000) (by decide) (l.take k) (fun x hx => hl x (List.mem_of_mem_take hx))
  have hm0 : m = 0 := by
    rcases he with h | ⟨x, hx, hx0⟩
    · subst h
      rw [List.take_zero] at hm
      have h1 := congrArg List.length hm
      simp at h1
      omega
    · rcases Nat.eq_zero_or_pos m with h | h
      · exact h
      · exfalso
        have hkl : (l.take k).length = k := by rw [List.length_take]; omega
        have hk1 : k - 1 < l.length := (List.getElem?_eq_some_iff.1 hx).1
        have hlen := congrArg List.length hm
        rw [hkl, List.length_append, List.length_replicate] at hlen
        have h2 : (l.take k)[k - 1]? = some x := by rw [List.getElem?_take, if_pos (by omega)]; exact hx
        rw [hm, List.getElem?_append_right (by omega), List.getElem?_replicate] at h2
        split at h2
        · exact hx0 (Option.some.inj h2).symm
        · cases h2
  rw [hm0, List.replicate_zero, List.append_nil] at hm
  exact hm.symm
theorem gs_at {n i : Nat} (h : i < (gs n).length) : (gs n)[i]? = some (n / 10000 ^ i % 10000) := by
  have h1 := gr_getD (B := 10000) (by decide) i n
  rw [List.getD_eq_getElem?_getD, List.getElem?_eq_getElem h] at h1
  rw [List.getElem?_eq_getElem h]
  exact congrArg some h1
theorem gs_out {n i : Nat} (h : (gs n).length ≤ i) : n / 10000 ^ i % 10000 = 0 := by
  rw [Nat.div_eq_of_lt ((gr_len_iff (by decide) n i).1 h)]
theorem gs_lt_pow (n : Nat) : n < 10000 ^ (gs n).length := (gr_len_iff (by decide) n _).1 (Nat.le_refl _)
theorem gs_mod (n : Nat) {k : Nat} (h : (gs n).length ≤ k) : n % 10000 ^ k = n := Nat.mod_eq_of_lt ((gr_len_iff (by decide) n k).1 h)
theorem mod_zero (n B : Nat) : n % B ^ 0 = 0 := by rw [Nat.pow_zero, Nat.mod_one]
/-- a sum, group by group -/
theorem add_next {a b j c : Nat} {ds : List Nat} (hl : ds.length = j) (h : nv 10000 ds + 10000 ^ j * c = a % 10000 ^ j + b % 10000 ^ j) :
    nv 10000 (ds ++ [(a / 10000 ^ j % 10000 + b / 10000 ^ j % 10000 + c) % 10000]) + 10000 ^ (j + 1) * ((a / 10000 ^ j % 10000 + b / 10000 ^ j % 10000 + c) / 10000) = a % 10000 ^ (j + 1) + b % 10000 ^ (j + 1) := by
  rw [nv_snoc, hl, mod_next a, mod_next b]
  exact add_step h
theorem add_end {a b N c : Nat} {ds : List Nat} (hl : ds.length = N) (ha : (gs a).length + 1 ≤ N) (hb : (gs b).length + 1 ≤ N) (h : nv 10000 ds + 10000 ^ N * c = a % 10000 ^ N + b % 10000 ^ N) : nv 10000 ds = a + b := by
  rw [gs_mod a (by omega), gs_mod b (by omega)] at h
  have h1 : a < 10000 ^ (N - 1) := (gr_len_iff (by decide) a (N - 1)).1 (show (gs a).length ≤ N - 1 by omega)
  have h2 : b < 10000 ^ (N - 1) := (gr_len_iff (by decide) b (N - 1)).1 (show (gs b).length ≤ N - 1 by omega)
  have e : 10000 ^ N = 10000 ^ (N - 1) * 10000 := by rw [← Nat.pow_succ]; congr 1; omega
  rcases Nat.eq_zero_or_pos c with h0 | h0
  · rw [h0] at h; omega
  · have : 10000 ^ N * 1 ≤ 10000 ^ N * c := Nat.mul_le_mul_left _ h0
    omega
/-- a difference, group by group -/
theorem sub_next {a b j c x c' : Nat} {ds : List Nat} (hl : ds.length = j) (h : nv 10000 ds + b % 10000 ^ j = a % 10000 ^ j + 10000 ^ j * c) (hx : x + b / 10000 ^ j % 10000 + c = a / 10000 ^ j % 10000 + 10000 * c') :
    nv 10000 (ds ++ [x]) + b % 10000 ^ (j + 1) = a % 10000 ^ (j + 1) + 10000 ^ (j + 1) * c' := by
  rw [nv_snoc, hl, mod_next a, mod_next b]
  exact sub_step h hx
theorem sub_end {a b c : Nat} {ds : List Nat} (hl : ds.length = (gs a).length) (hd : ∀ x ∈ ds, x < 10000) (hba : b ≤ a) (h : nv 10000 ds + b % 10000 ^ (gs a).length = a % 10000 ^ (gs a).length + 10000 ^ (gs a).length * c) : nv 10000 ds = a - b := by
  have ha := gs_lt_pow a
  have h1 := nv_lt ds hd
  rw [hl] at h1
  rw [Nat.mod_eq_of_lt ha, Nat.mod_eq_of_lt (by omega)] at h
  rcases Nat.eq_zero_or_pos c with h0 | h0
  · rw [h0] at h; omega
  · have : 10000 ^ (gs a).length * 1 ≤ 10000 ^ (gs a).length * c := Nat.mul_le_mul_left _ h0
    omega
/-- a multiple, group by group -/
theorem mul_next {a d j c : Nat} {ds : List Nat} (hl : ds.length = j) (h : nv 10000 ds + 10000 ^ j * c = a % 10000 ^ j * d) :
    nv 10000 (ds ++ [(a / 10000 ^ j % 10000 * d + c) % 10000]) + 10000 ^ (j + 1) * ((a / 10000 ^ j % 10000 * d + c) / 10000) = a % 10000 ^ (j + 1) * d := by
  rw [nv_snoc, hl, mod_next a]
  exact scale_step h
theorem mul_end {a d c : Nat} {ds : List Nat} (hd : d < 10000) (h : nv 10000 ds + 10000 ^ ((gs a).length + 1) * c = a % 10000 ^ ((gs a).length + 1) * d) : nv 10000 ds = a * d := by
  rw [gs_mod a (Nat.le_succ _)] at h
  have ha := gs_lt_pow a
  have h2 : a * d ≤ a * 9999 := Nat.mul_le_mul_left _ (by omega)
  rcases Nat.eq_zero_or_pos c with h0 | h0
  · rw [h0] at h; omega
  · have : 10000 ^ ((gs a).length + 1) * 1 ≤ 10000 ^ ((gs a).length + 1) * c := Nat.mul_le_mul_left _ h0
    rw [Nat.pow_succ] at this h
    omega
theorem gs_len_add (a b : Nat) : (gs (a + b)).length ≤ max (gs a).length (gs b).length + 1 := by
  have h1 := gs_lt_pow a
  have h2 := gs_lt_pow b
  refine gr_len_le (by decide) _ _ ?_
  have e1 : 10000 ^ (gs a).length ≤ 10000 ^ max (gs a).length (gs b).length := Nat.pow_le_pow_right (by decide) (Nat.le_max_left _ _)
  have e2 : 10000 ^ (gs b).length ≤ 10000 ^ max (gs a).length (gs b).length := Nat.pow_le_pow_right (by decide) (Nat.le_max_right _ _)
  rw [Nat.pow_succ]
  omega
end In
end Go.Proofs.YtjhnfejlkljkjaaGreatDoor
namespace Go.Proofs.YtjhnfejlkljkjaaGreatDoor
open Go.RowKit

namespace In
/-! ### comparison -/
theorem cmp_len {a b : Nat} (h : (gs a).length < (gs b).length) : a < b := by
  rcases Nat.lt_or_ge a b with h1 | h1
  · exact h1
  · exfalso
    have h2 := gs_lt_pow a
    have h3 := (gr_len_iff (B := 10000) (by decide) b (gs a).length).2 (by omega)
    have : (gs b).length ≤ (gs a).length := h3
    omega
theorem cmp_group {a b k : Nat} (he : a / 10000 ^ (k + 1) = b / 10000 ^ (k + 1)) (h : a / 10000 ^ k % 10000 < b / 10000 ^ k % 10000) : a < b := by
  have h1 := div_up a 10000 k
  have h2 := div_up b 10000 k
  rw [he] at h1
  have h3 : a / 10000 ^ k < b / 10000 ^ k := by omega
  rcases Nat.lt_or_ge a b with h4 | h4
  · exact h4
  · have := Nat.div_le_div_right (c := 10000 ^ k) h4
    omega
theorem cmp_next {a b k : Nat} (he : a / 10000 ^ (k + 1) = b / 10000 ^ (k + 1)) (h : a / 10000 ^ k % 10000 = b / 10000 ^ k % 10000) : a / 10000 ^ k = b / 10000 ^ k := by
  have h1 := div_up a 10000 k
  have h2 := div_up b 10000 k
  rw [he, h] at h1
  omega
def cmpN (a b : Nat) : Int := if a < b then -1 else if b < a then 1 else 0
theorem cmpN_eq (a : Nat) : cmpN a a = 0 := by unfold cmpN; rw [if_neg (Nat.lt_irrefl _), if_neg (Nat.lt_irrefl _)]
theorem cmpN_lt {a b : Nat} (h : a < b) : cmpN a b = -1 := if_pos h
theorem cmpN_gt {a b : Nat} (h : b < a) : cmpN a b = 1 := by unfold cmpN; rw [if_neg (by omega), if_pos h]
/-! ### products -/
theorem mul_horner {a b i : Nat} : b * (a / 10000 ^ i) = b * (a / 10000 ^ (i + 1)) * 10000 + b * (a / 10000 ^ i % 10000) := by
  conv => lhs; rw [div_up a 10000 i]
  rw [Nat.mul_add, Nat.mul_assoc]
theorem gs_top (a : Nat) : a / 10000 ^ (gs a).length = 0 := Nat.div_eq_of_lt (gs_lt_pow a)
/-! ### quotients -/
theorem quo_next {a b i : Nat} (hb : 0 < b) :
    a / 10000 ^ i / b = a / 10000 ^ (i + 1) / b * 10000 + (a / 10000 ^ (i + 1) % b * 10000 + a / 10000 ^ i % 10000) / b ∧
    a / 10000 ^ i % b = (a / 10000 ^ (i + 1) % b * 10000 + a / 10000 ^ i % 10000) % b := by
  have h := div_step (A := a / 10000 ^ (i + 1)) (b := b) (B := 10000) (a0 := a / 10000 ^ i % 10000) hb
  rw [← div_up a 10000 i] at h
  exact h
theorem quo_digit {a b i : Nat} (hb : 0 < b) : (a / 10000 ^ (i + 1) % b * 10000 + a / 10000 ^ i % 10000) / b < 10000 := div_digit hb (Nat.mod_lt _ (by decide))
/-- the three highest groups of what is divided, the two highest ones of the divisor -/
theorem gs_two {b k : Nat} (h : (gs b).length = k + 2) : (b / 10000 ^ (k + 1) % 10000) * 10000 + b / 10000 ^ k % 10000 = b / 10000 ^ k ∧ 0 < b / 10000 ^ (k + 1) := by
  have h1 := div_up b 10000 k
  have h2 := div_up b 10000 (k + 1)
  have h3 := gs_top b
  rw [h] at h3
  rw [show k + 1 + 1 = k + 2 from rfl, h3] at h2
  refine ⟨by omega, ?_⟩
  rcases Nat.eq_zero_or_pos (b / 10000 ^ (k + 1)) with h0 | h0
  · have h4 : b < 10000 ^ (k + 1) := by
      rcases Nat.lt_or_ge b (10000 ^ (k + 1)) with h5 | h5
      · exact h5
      · have := Nat.div_pos h5 (Nat.pow_pos (by decide))
        omega
    have h5 : (gs b).length ≤ k + 1 := (gr_len_iff (by decide) b (k + 1)).2 h4
    omega
  · exact h0
theorem gs_three {R k : Nat} (h : R < 10000 ^ (k + 3)) : (R / 10000 ^ (k + 2) % 10000 * 10000 + R / 10000 ^ (k + 1) % 10000) * 10000 + R / 10000 ^ k % 10000 = R / 10000 ^ k := by
  have h1 := div_up R 10000 k
  have h2 := div_up R 10000 (k + 1)
  have h3 := div_up R 10000 (k + 2)
  rw [show k + 2 + 1 = k + 3 from rfl, Nat.div_eq_of_lt h] at h3
  rw [show k + 1 + 1 = k + 2 from rfl] at h2
  omega
/-- between which groups the next one of the quotient is -/
theorem quo_bounds {R b k : Nat} (hb : 0 < b) (hD : 0 < b / 10000 ^ k) : R / 10000 ^ k / (b / 10000 ^ k + 1) ≤ R / b ∧ R / b ≤ R / 10000 ^ k / (b / 10000 ^ k) := by
  have hp : 0 < 10000 ^ k := Nat.pow_pos (by decide)
  refine ⟨bounds_low (P := 10000 ^ k) hb (Nat.div_mul_le_self _ _) (Nat.le_of_lt ?_), bounds_high (P := 10000 ^ k) hD ?_ (Nat.div_mul_le_self _ _)⟩
  · exact (Nat.div_lt_iff_lt_mul hp).1 (Nat.lt_succ_self _)
  · exact (Nat.div_lt_iff_lt_mul hp).1 (Nat.lt_succ_self _)
theorem quo_bounds_one {R b : Nat} (hb : 0 < b) : R * 10000 / (b * 10000 + 1) ≤ R / b ∧ R / b ≤ R * 10000 / (b * 10000) := by
  have e : R * 10000 / (b * 10000) = R / b := Nat.mul_div_mul_right _ _ (by decide)
  have h1 : R * 10000 / (b * 10000 + 1) ≤ R * 10000 / (b * 10000) := Nat.div_le_div_left (by omega) (by omega)
  omega
/-! ### roots -/
theorem root_next {a X P d : Nat} (h1 : (X + d * P) * (X + d * P) ≤ a) (h2 : d < 9999 → ¬ (X + (d + 1) * P) * (X + (d + 1) * P) ≤ a) (h3 : a < (X + 10000 * P) * (X + 10000 * P)) (hd : d ≤ 9999) :
    a < (X + d * P + P) * (X + d * P + P) := by
  have e : X + d * P + P = X + (d + 1) * P := by rw [Nat.add_mul, Nat.one_mul, Nat.add_assoc]
  rw [e]
  rcases Nat.lt_or_ge d 9999 with h | h
  · have := h2 h
    omega
  · obtain rfl : d = 9999 := by omega
    exact h3
theorem root_mono {a X P d e : Nat} (h : d ≤ e) (h1 : (X + e * P) * (X + e * P) ≤ a) : (X + d * P) * (X + d * P) ≤ a :=
  Nat.le_trans (sq_le (Nat.add_le_add_left (Nat.mul_le_mul_right _ h) _)) h1
/-! ### reading and printing -/
theorem read_next {l : List UInt8} {ds : List Nat} {j e : Nat} (hl : ds.length = j) (he : e ≤ l.length) (h0 : 0 < e) (h : nv 10000 ds + 10000 ^ j * val10 (l.take e) = val10 l) :
    nv 10000 (ds ++ [val10 ((l.take e).drop (e - 4))]) + 10000 ^ (j + 1) * val10 (l.take (e - 4)) = val10 l := by
  have hs : l.take e = l.take (e - 4) ++ (l.take e).drop (e - 4) := by
    conv => lhs; rw [← List.take_append_drop (e - 4) (l.take e), List.take_take, Nat.min_eq_left (by omega)]
  rw [nv_snoc, hl, ← h]
  conv => rhs; rw [hs]
  rw [val10_append, Nat.mul_add]
  have hlen : ((l.take e).drop (e - 4)).length = e - (e - 4) := by rw [List.length_drop, List.length_take]; omega
  rw [hlen]
  rcases Nat.lt_or_ge e 4 with h4 | h4
  · have e0 : e - 4 = 0 := by omega
    rw [e0, List.take_zero]
    simp [val10]
  · rw [show e - (e - 4) = 4 by omega, show (10 : Nat) ^ 4 = 10000 from rfl, Nat.pow_succ, Nat.mul_assoc (10000 ^ j)]
    generalize 10000 ^ j * (10000 * val10 (l.take (e - 4))) = U
    generalize 10000 ^ j * val10 ((l.take e).drop (e - 4)) = V
    omega
theorem print_next {n i : Nat} (h : n / 10000 ^ (i + 1) ≠ 0) : Lib.decDigits (n / 10000 ^ i) = Lib.decDigits (n / 10000 ^ (i + 1)) ++ pad4 (n / 10000 ^ i % 10000) := by
  rw [div_up n 10000 i, dec_more h (Nat.mod_lt _ (by decide)), ← div_up n 10000 i]
theorem gs_high {n i : Nat} (h : i < (gs n).length) : n / 10000 ^ i ≠ 0 := by
  intro h0
  have h1 : n < 10000 ^ i := by
    rcases Nat.lt_or_ge n (10000 ^ i) with h5 | h5
    · exact h5
    · have := Nat.div_pos h5 (Nat.pow_pos (by decide))
      omega
  have h5 : (gs n).length ≤ i := (gr_len_iff (by decide) n i).2 h1
  omega
end In
end Go.Proofs.YtjhnfejlkljkjaaGreatDoor
