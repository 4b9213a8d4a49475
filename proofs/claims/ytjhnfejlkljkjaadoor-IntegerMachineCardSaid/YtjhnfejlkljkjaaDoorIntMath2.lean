/- Lists of digits: what loops over them leave. -/
import Derived.Test.YtjhnfejlkljkjaaDoorIntSign
namespace Go.Proofs.YtjhnfejlkljkjaaDoor
open Go.RowKit

namespace In
abbrev BB : Nat := 10000
theorem BB2 : 2 ≤ BB := by decide
/-- the groups of a natural number -/
abbrev gs (n : Nat) : List Nat := gr 10000 n
theorem gs_lt (n : Nat) : ∀ x ∈ gs n, x < 10000 := gr_lt (by decide) n
theorem gs_zero : gs 0 = [] := rfl
theorem gs_nil {n : Nat} : (gs n).length = 0 ↔ n = 0 := by rw [List.length_eq_zero_iff]; exact gr_eq_nil (by decide)
/-- without the zeros at the end -/
theorem trim_is {l : List Nat} {k : Nat} (hl : ∀ x ∈ l, x < 10000) (hk : k ≤ l.length) (hz : ∀ j x, k ≤ j → l[j]? = some x → x = 0) (he : k = 0 ∨ ∃ x, l[k - 1]? = some x ∧ x ≠ 0) : gs (nv 10000 l) = l.take k := by
  have hd : l.drop k = List.replicate (l.length - k) 0 := by
    apply List.eq_replicate_iff.2
    refine ⟨by rw [List.length_drop], fun x hx => ?_⟩
    obtain ⟨i, hi⟩ := List.getElem?_of_mem hx
    rw [List.getElem?_drop] at hi
    exact hz (k + i) x (by omega) hi
  have hsplit : l = l.take k ++ List.replicate (l.length - k) 0 := by rw [← hd, List.take_append_drop]
  have hn : nv 10000 l = nv 10000 (l.take k) := by
    conv => lhs; rw [hsplit]
    rw [nv_append, nv_zeros, Nat.mul_zero, Nat.add_zero]
  rw [hn]
  obtain ⟨m, hm⟩ := gr_nv (B := 10000) (by decide) (l.take k) (fun x hx => hl x (List.mem_of_mem_take hx))
  have hm0 : m = 0 := by
    rcases he with h | ⟨x, hx, hx0⟩
    · subst h
      rw [List.take_zero] at hm
      have h1 := congrArg List.length hm
      simp at h1
      omega
    · rcases Nat.eq_zero_or_pos m with h | h
      · exact h
      · exfalso
        have hkl : (l.take k).length = k := by rw [List.length_take]; omega
        have hk1 : k - 1 < l.length := (List.getElem?_eq_some_iff.1 hx).1
        have hlen := congrArg List.length hm
        rw [hkl, List.length_append, List.length_replicate] at hlen
        have h2 : (l.take k)[k - 1]? = some x := by rw [List.getElem?_take, if_pos (by omega)]; exact hx
        rw [hm, List.getElem?_append_right (by omega), List.getElem?_replicate] at h2
        split at h2
        · exact hx0 (Option.some.inj h2).symm
        · cases h2
  rw [hm0, List.replicate_zero, List.append_nil] at hm
  exact hm.symm
theorem gs_at {n i : Nat} (h : i < (gs n).length) : (gs n)[i]? = some (n / 10000 ^ i % 10000) := by
  have h1 := gr_getD (B := 10000) (by decide) i n
  rw [List.getD_eq_getElem?_getD, List.getElem?_eq_getElem h] at h1
  rw [List.getElem?_eq_getElem h]
  exact congrArg some h1
theorem gs_out {n i : Nat} (h : (gs n).length ≤ i) : n / 10000 ^ i % 10000 = 0 := by
  rw [Nat.div_eq_of_lt ((gr_len_iff (by decide) n i).1 h)]
theorem gs_lt_pow (n : Nat) : n < 10000 ^ (gs n).length := (gr_len_iff (by decide) n _).1 (Nat.le_refl _)
theorem gs_mod (n : Nat) {k : Nat} (h : (gs n).length ≤ k) : n % 10000 ^ k = n := Nat.mod_eq_of_lt ((gr_len_iff (by decide) n k).1 h)
theorem mod_zero (n B : Nat) : n % B ^ 0 = 0 := by rw [Nat.pow_zero, Nat.mod_one]
/-- a sum, group by group -/
theorem add_next {a b j c : Nat} {ds : List Nat} (hl : ds.length = j) (h : nv 10000 ds + 10000 ^ j * c = a % 10000 ^ j + b % 10000 ^ j) :
    nv 10000 (ds ++ [(a / 10000 ^ j % 10000 + b / 10000 ^ j % 10000 + c) % 10000]) + 10000 ^ (j + 1) * ((a / 10000 ^ j % 10000 + b / 10000 ^ j % 10000 + c) / 10000) = a % 10000 ^ (j + 1) + b % 10000 ^ (j + 1) := by
  rw [nv_snoc, hl, mod_next a, mod_next b]
  exact add_step h
theorem add_end {a b N c : Nat} {ds : List Nat} (hl : ds.length = N) (ha : (gs a).length + 1 ≤ N) (hb : (gs b).length + 1 ≤ N) (h : nv 10000 ds + 10000 ^ N * c = a % 10000 ^ N + b % 10000 ^ N) : nv 10000 ds = a + b := by
  rw [gs_mod a (by omega), gs_mod b (by omega)] at h
  have h1 : a < 10000 ^ (N - 1) := (gr_len_iff (by decide) a (N - 1)).1 (show (gs a).length ≤ N - 1 by omega)
  have h2 : b < 10000 ^ (N - 1) := (gr_len_iff (by decide) b (N - 1)).1 (show (gs b).length ≤ N - 1 by omega)
  have e : 10000 ^ N = 10000 ^ (N - 1) * 10000 := by rw [← Nat.pow_succ]; congr 1; omega
  rcases Nat.eq_zero_or_pos c with h0 | h0
  · rw [h0] at h; omega
  · have : 10000 ^ N * 1 ≤ 10000 ^ N * c := Nat.mul_le_mul_left _ h0
    omega
/-- a difference, group by group -/
theorem sub_next {a b j c x c' : Nat} {ds : List Nat} (hl : ds.length = j) (h : nv 10000 ds + b % 10000 ^ j = a % 10000 ^ j + 10000 ^ j * c) (hx : x + b / 10000 ^ j % 10000 + c = a / 10000 ^ j % 10000 + 10000 * c') :
    nv 10000 (ds ++ [x]) + b % 10000 ^ (j + 1) = a % 10000 ^ (j + 1) + 10000 ^ (j + 1) * c' := by
  rw [nv_snoc, hl, mod_next a, mod_next b]
  exact sub_step h hx
theorem sub_end {a b c : Nat} {ds : List Nat} (hl : ds.length = (gs a).length) (hd : ∀ x ∈ ds, x < 10000) (hba : b ≤ a) (h : nv 10000 ds + b % 10000 ^ (gs a).length = a % 10000 ^ (gs a).length + 10000 ^ (gs a).length * c) : nv 10000 ds = a - b := by
  have ha := gs_lt_pow a
  have h1 := nv_lt ds hd
  rw [hl] at h1
  rw [Nat.mod_eq_of_lt ha, Nat.mod_eq_of_lt (by omega)] at h
  rcases Nat.eq_zero_or_pos c with h0 | h0
  · rw [h0] at h; omega
  · have : 10000 ^ (gs a).length * 1 ≤ 10000 ^ (gs a).length * c := Nat.mul_le_mul_left _ h0
    omega
/-- a multiple, group by group -/
theorem mul_next {a d j c : Nat} {ds : List Nat} (hl : ds.length = j) (h : nv 10000 ds + 10000 ^ j * c = a % 10000 ^ j * d) :
    nv 10000 (ds ++ [(a / 10000 ^ j % 10000 * d + c) % 10000]) + 10000 ^ (j + 1) * ((a / 10000 ^ j % 10000 * d + c) / 10000) = a % 10000 ^ (j + 1) * d := by
  rw [nv_snoc, hl, mod_next a]
  exact scale_step h
theorem mul_end {a d c : Nat} {ds : List Nat} (hd : d < 10000) (h : nv 10000 ds + 10000 ^ ((gs a).length + 1) * c = a % 10000 ^ ((gs a).length + 1) * d) : nv 10000 ds = a * d := by
  rw [gs_mod a (Nat.le_succ _)] at h
  have ha := gs_lt_pow a
  have h2 : a * d ≤ a * 9999 := Nat.mul_le_mul_left _ (by omega)
  rcases Nat.eq_zero_or_pos c with h0 | h0
  · rw [h0] at h; omega
  · have : 10000 ^ ((gs a).length + 1) * 1 ≤ 10000 ^ ((gs a).length + 1) * c := Nat.mul_le_mul_left _ h0
    rw [Nat.pow_succ] at this h
    omega
theorem gs_len_add (a b : Nat) : (gs (a + b)).length ≤ max (gs a).length (gs b).length + 1 := by
  have h1 := gs_lt_pow a
  have h2 := gs_lt_pow b
  refine gr_len_le (by decide) _ _ ?_
  have e1 : 10000 ^ (gs a).length ≤ 10000 ^ max (gs a).length (gs b).length := Nat.pow_le_pow_right (by decide) (Nat.le_max_left _ _)
  have e2 : 10000 ^ (gs b).length ≤ 10000 ^ max (gs a).length (gs b).length := Nat.pow_le_pow_right (by decide) (Nat.le_max_right _ _)
  rw [Nat.pow_succ]
  omega
end In
end Go.Proofs.YtjhnfejlkljkjaaDoor
