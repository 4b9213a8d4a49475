/- The reference implementation's loops over decimal digits: mathematics. -/
import Derived.Test.YtjhnfejlkljkjaaDoorIntSpec
namespace Go.Proofs.YtjhnfejlkljkjaaDoor
open Go.RowKit

namespace In
/-- the decimal digits of a natural number, the lowest one first -/
abbrev dg (n : Nat) : List Nat := gr 10 n
theorem dg_lt (n : Nat) : ∀ x ∈ dg n, x < 10 := gr_lt (by decide) n
theorem dg_lt_pow (n : Nat) : n < 10 ^ (dg n).length := (gr_len_iff (by decide) n _).1 (Nat.le_refl _)
theorem dg_at {n i : Nat} (h : i < (dg n).length) : (dg n)[i]? = some (n / 10 ^ i % 10) := by
  have h1 := gr_getD (B := 10) (by decide) i n
  rw [List.getD_eq_getElem?_getD, List.getElem?_eq_getElem h] at h1
  rw [List.getElem?_eq_getElem h]
  exact congrArg some h1
theorem dg_out {n i : Nat} (h : (dg n).length ≤ i) : n / 10 ^ i % 10 = 0 := by
  rw [Nat.div_eq_of_lt ((gr_len_iff (by decide) n i).1 h)]
theorem dg_big {n i : Nat} (h : i < (dg n).length) : 10 ^ i ≤ n := by
  rcases Nat.lt_or_ge n (10 ^ i) with h1 | h1
  · have h2 : (dg n).length ≤ i := gr_len_le (by decide) _ _ h1
    omega
  · exact h1
theorem dg_nil {n : Nat} : (dg n).length = 0 ↔ n = 0 := by rw [List.length_eq_zero_iff]; exact gr_eq_nil (by decide)
/-- digits of which the highest is not needless -/
theorem dg_is {l : List Nat} {n : Nat} (hl : ∀ x ∈ l, x < 10) (hv : nv 10 l = n) (hb : l = [] ∨ 10 ^ (l.length - 1) ≤ n) : l = dg n := by
  obtain ⟨k, hk⟩ := gr_nv (B := 10) (by decide) l hl
  rw [hv] at hk
  rcases Nat.eq_zero_or_pos k with h0 | h0
  · rw [h0, List.replicate_zero, List.append_nil] at hk
    exact hk
  · exfalso
    have hlen := congrArg List.length hk
    rw [List.length_append, List.length_replicate] at hlen
    rcases hb with h | h
    · rw [h] at hlen; simp at hlen; omega
    · have h1 := dg_lt_pow n
      have h2 : 10 ^ (dg n).length ≤ 10 ^ (l.length - 1) := Nat.pow_le_pow_right (by decide) (by show (gr 10 n).length ≤ _; omega)
      omega
/-- without the zeros at the end -/
theorem dg_trim {l : List Nat} {k : Nat} (hl : ∀ x ∈ l, x < 10) (hk : k ≤ l.length) (hz : ∀ j x, k ≤ j → l[j]? = some x → x = 0) (he : k = 0 ∨ ∃ x, l[k - 1]? = some x ∧ x ≠ 0) : dg (nv 10 l) = l.take k := by
  have hd : l.drop k = List.replicate (l.length - k) 0 := by
    apply List.eq_replicate_iff.2
    refine ⟨by rw [List.length_drop], fun x hx => ?_⟩
    obtain ⟨i, hi⟩ := List.getElem?_of_mem hx
    rw [List.getElem?_drop] at hi
    exact hz (k + i) x (by omega) hi
  have hsplit : l = l.take k ++ List.replicate (l.length - k) 0 := by rw [← hd, List.take_append_drop]
  have hn : nv 10 l = nv 10 (l.take k) := by
    conv => lhs; rw [hsplit]
    rw [nv_append, nv_zeros, Nat.mul_zero, Nat.add_zero]
  rw [hn]
  refine (dg_is (fun x hx => hl x (List.mem_of_mem_take hx)) rfl ?_).symm
  rcases he with h | ⟨x, hx, hx0⟩
  · left; subst h; simp
  · right
    have hk1 : k - 1 < l.length := (List.getElem?_eq_some_iff.1 hx).1
    have hkl : (l.take k).length = k := by rw [List.length_take]; omega
    have h2 : (l.take k)[k - 1]? = some x := by
      rcases Nat.eq_zero_or_pos k with h0 | h0
      · subst h0
        exact absurd (hz 0 x (Nat.le_refl _) hx) hx0
      · rw [List.getElem?_take, if_pos (by omega)]; exact hx
    have hsp : l.take k = (l.take k).take (k - 1) ++ [x] := by
      have h3 := List.take_add_one (l := l.take k) (i := k - 1)
      rw [h2, Option.toList_some] at h3
      rw [← h3]
      rcases Nat.eq_zero_or_pos k with h0 | h0
      · subst h0
        exact absurd (hz 0 x (Nat.le_refl _) hx) hx0
      · rw [show k - 1 + 1 = k by omega, List.take_take, Nat.min_self]
    rw [hkl]
    rw [hsp, nv_snoc, List.length_take, hkl, Nat.min_eq_left (by omega)]
    have : 10 ^ (k - 1) * 1 ≤ 10 ^ (k - 1) * x := Nat.mul_le_mul_left _ (by omega)
    omega
/-- the value of the characters '0' to '9' is that of the digits turned around -/
theorem dg_dec : ∀ u : Nat, u ≠ 0 → Lib.decDigits u = ((dg u).map (fun d => UInt8.ofNat (48 + d))).reverse := by
  intro u
  induction u using Nat.strongRecOn with
  | ind u ih =>
    intro h0
    rw [Lib.decDigits, dg, gr_pos (by decide) h0]
    split
    · rename_i h
      have e : u / 10 = 0 := by omega
      rw [e, gr_zero, Nat.mod_eq_of_lt h]
      rfl
    · rename_i h
      rw [ih (u / 10) (by omega) (by omega), List.map_cons, List.reverse_cons]
/-! ### order -/
theorem ord_len {a b : Nat} (h : (dg a).length < (dg b).length) : a < b := by
  rcases Nat.lt_or_ge a b with h1 | h1
  · exact h1
  · have h2 := dg_lt_pow a
    have h3 : (dg b).length ≤ (dg a).length := gr_len_le (by decide) _ _ (by omega)
    omega
theorem dg_top (a : Nat) : a / 10 ^ (dg a).length = 0 := Nat.div_eq_of_lt (dg_lt_pow a)
theorem ord_digit {a b k : Nat} (he : a / 10 ^ (k + 1) = b / 10 ^ (k + 1)) (h : a / 10 ^ k % 10 < b / 10 ^ k % 10) : a < b := by
  have h1 := div_up a 10 k
  have h2 := div_up b 10 k
  rw [he] at h1
  have h3 : a / 10 ^ k < b / 10 ^ k := by omega
  rcases Nat.lt_or_ge a b with h4 | h4
  · exact h4
  · have := Nat.div_le_div_right (c := 10 ^ k) h4
    omega
theorem ord_next {a b k : Nat} (he : a / 10 ^ (k + 1) = b / 10 ^ (k + 1)) (h : a / 10 ^ k % 10 = b / 10 ^ k % 10) : a / 10 ^ k = b / 10 ^ k := by
  have h1 := div_up a 10 k
  have h2 := div_up b 10 k
  rw [he, h] at h1
  omega
/-! ### sums -/
theorem radd_next {a b j c : Nat} {ds : List Nat} (hl : ds.length = j) (h : nv 10 ds + 10 ^ j * c = a % 10 ^ j + b % 10 ^ j) :
    nv 10 (ds ++ [(a / 10 ^ j % 10 + b / 10 ^ j % 10 + c) % 10]) + 10 ^ (j + 1) * ((a / 10 ^ j % 10 + b / 10 ^ j % 10 + c) / 10) = a % 10 ^ (j + 1) + b % 10 ^ (j + 1) := by
  rw [nv_snoc, hl, mod_next a, mod_next b]
  exact add_step h
theorem radd_big {a b j c : Nat} {ds : List Nat} (h : nv 10 ds + 10 ^ j * c = a % 10 ^ j + b % 10 ^ j) (hc : 0 < c) : 10 ^ j ≤ a + b := by
  have h1 := Nat.mod_le a (10 ^ j)
  have h2 := Nat.mod_le b (10 ^ j)
  have h3 : 10 ^ j * 1 ≤ 10 ^ j * c := Nat.mul_le_mul_left _ hc
  omega
theorem radd_end {a b j : Nat} {ds : List Nat} (ha : (dg a).length ≤ j) (hb : (dg b).length ≤ j) (h : nv 10 ds + 10 ^ j * 0 = a % 10 ^ j + b % 10 ^ j) : nv 10 ds = a + b := by
  have h1 : a < 10 ^ j := (gr_len_iff (by decide) a j).1 ha
  have h2 : b < 10 ^ j := (gr_len_iff (by decide) b j).1 hb
  rw [Nat.mod_eq_of_lt h1, Nat.mod_eq_of_lt h2] at h
  omega
/-! ### differences -/
theorem rsub_next {a b j c x c' : Nat} {ds : List Nat} (hl : ds.length = j) (h : nv 10 ds + b % 10 ^ j = a % 10 ^ j + 10 ^ j * c) (hx : x + b / 10 ^ j % 10 + c = a / 10 ^ j % 10 + 10 * c') :
    nv 10 (ds ++ [x]) + b % 10 ^ (j + 1) = a % 10 ^ (j + 1) + 10 ^ (j + 1) * c' := by
  rw [nv_snoc, hl, mod_next a, mod_next b]
  exact sub_step h hx
theorem rsub_end {a b c : Nat} {ds : List Nat} (hl : ds.length = (dg a).length) (hd : ∀ x ∈ ds, x < 10) (hba : b ≤ a) (h : nv 10 ds + b % 10 ^ (dg a).length = a % 10 ^ (dg a).length + 10 ^ (dg a).length * c) : nv 10 ds = a - b := by
  have ha := dg_lt_pow a
  have h1 := nv_lt ds hd
  rw [hl] at h1
  rw [Nat.mod_eq_of_lt ha, Nat.mod_eq_of_lt (by omega)] at h
  rcases Nat.eq_zero_or_pos c with h0 | h0
  · rw [h0] at h; omega
  · have : 10 ^ (dg a).length * 1 ≤ 10 ^ (dg a).length * c := Nat.mul_le_mul_left _ h0
    omega
end In
end Go.Proofs.YtjhnfejlkljkjaaDoor
