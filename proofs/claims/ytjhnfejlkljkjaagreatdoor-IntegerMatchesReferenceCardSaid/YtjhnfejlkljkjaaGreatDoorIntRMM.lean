/- The reference implementation's loops over decimal digits: mathematics. -/
/- The reference implementation's loops over decimal digits: products, quotients, roots, as mathematics. -/
import Derived.Test.YtjhnfejlkljkjaaGreatDoorIntSpec
namespace Go.Proofs.YtjhnfejlkljkjaaGreatDoor
open Go.RowKit

namespace In
/-- the decimal digits of a natural number, the lowest one first -/
abbrev dg (n : Nat) : List Nat := gr 10 n
theorem dg_lt (n : Nat) : ∀ x ∈ dg n, x < 10 := gr_lt (by decide) n
theorem dg_lt_pow (n : Nat) : n < 10 ^ (dg n).length := (gr_len_iff (by decide) n _).1 (Nat.le_refl _)
theorem dg_at {n i : Nat} (h : i < (dg n).length) : (dg n)[i]? = some (n / 10 ^ i % 10) := by
  have h1 := gr_getD (B := 10) (by decide) i n
  rw [List.getD_eq_getElem?_getD, List.getElem?_eq_getElem h] at h1
  rw [List.getElem?_eq_getElem h]
  exact congrArg some h1
theorem dg_out {n i : Nat} (h : (dg n).length ≤ i) : n / 10 ^ i % 10 = 0 := by
  rw [Nat.div_eq_of_lt ((gr_len_iff (by decide) n i).1 h)]
theorem dg_big {n i : Nat} (h : i < (dg n).length) : 10 ^ i ≤ n := by
  rcases Nat.lt_or_ge n (10 ^ i) with h1 | h1
  · have h2 : (dg n).length ≤ i := gr_len_le (by decide) _ _ h1
    omega
  · exact h1
theorem dg_nil {n : Nat} : (dg n).length = 0 ↔ n = 0 := by rw [List.length_eq_zero_iff]; exact gr_eq_nil (by decide)
/-- digits of which the highest is not needless -/
theorem dg_is {l : List Nat} {n : Nat} (hl : ∀ x ∈ l, x < 10) (hv : nv 10 l = n) (hb : l = [] ∨ 10 ^ (l.length - 1) ≤ n) : l = dg n := by
  obtain ⟨k, hk⟩ := gr_nv (B := 10) (by decide) l hl
  rw [hv] at hk
  rcases Nat.eq_zero_or_pos k with h0 | h0
  · rw [h0, List.replicate_zero, List.append_nil] at hk
    exact hk
  · exfalso
    have hlen := congrArg List.length hk
    rw [List.length_append, List.length_replicate] at hlen
    rcases hb with h | h
    · rw [h] at hlen; simp at hlen; omega
    · have h1 := dg_lt_pow n
      have h2 : 10 ^ (dg n).length ≤ 10 ^ (l.length - 1) := Nat.pow_le_pow_right (by decide) (by show (gr 10 n).length ≤ _; omega)
      omega
/-- without the zeros at the end -/
theorem dg_trim {l : List Nat} {k : Nat} (hl : ∀ x ∈ l, x < 10) (hk : k ≤ l.length) (hz : ∀ j x, k ≤ j → l[j]? = some x → x = 0) (he : k = 0 ∨ ∃ x, l[k - 1]? = some x ∧ x ≠ 0) : dg (nv 10 l) = l.take k := by
  have hd : l.drop k = List.replicate (l.length - k) 0 := by
    apply List.eq_replicate_iff.2
    refine ⟨by rw [List.length_drop], fun x hx => ?_⟩
    obtain ⟨i, hi⟩ := List.getElem?_of_mem hx
    rw [List.getElem?_drop] at hi
    exact hz (k + i) x (by omega) hi
  have hsplit : l = l.take k ++ List.replicate (l.length - k) 0 := by rw [← hd, List.take_append_drop]
  have hn : nv 10 l = nv 10 (l.take k) := by
    conv => lhs; rw [hsplit]
    rw [nv_append, nv_zeros, Nat.mul_zero, Nat.add_zero]
  rw [hn]
  refine (dg_is (fun x hx => hl x (List.mem_of_mem_take hx)) rfl ?_).symm
  rcases he with h | ⟨x, hx, hx0⟩
  · left; subst h; simp
  · right
    have hk1 : k - 1 < l.length := (List.getElem?_eq_some_iff.1 hx).1
    have hkl : (l.take k).length = k := by rw [List.length_take]; omega
    have h2 : (l.take k)[k - 1]? = some x := by
      rcases Nat.eq_zero_or_pos k with h0 | h0
      · subst h0
        exact absurd (hz 0 x (Nat.le_refl _) hx) hx0
      · rw [List.getElem?_take, if_pos (by omega)]; exact hx
    have hsp : l.take k = (l.take k).take (k - 1) ++ [x] := by
      have h3 := List.take_add_one (l := l.take k) (i := k - 1)
      rw [h2, Option.toList_some] at h3
      rw [← h3]
      rcases Nat.eq_zero_or_pos k with h0 | h0
      · subst h0
        exact absurd (hz 0 x (Nat.le_refl _) hx) hx0
      · rw [show k - 1 + 1 = k by omega, List.take_take, Nat.min_self]
    rw [hkl]
    rw [hsp, nv_snoc, List.length_take, hkl, Nat.min_eq_left (by omega)]
    have : 10 ^ (k - 1) * 1 ≤ 10 ^ (k - 1) * x := Nat.mul_le_mul_left _ (by omega)
    omega
/-- the value of the characters '0' to '9' is that of the digits turned around -/
theorem dg_dec : ∀ u : Nat, u ≠ 0 → Lib.decDigits u = ((dg u).map (fun d => UInt8.ofNat (48 + d))).reverse := by
  intro u
  induction u using Nat.strongRecOn with
  | ind u ih =>
    intro h0
    rw [Lib.decDigits, dg, gr_pos (by decide) h0]
    split
    · rename_i h
      have e : u / 10 = 0 := by omega
      rw [e, gr_zero, Nat.mod_eq_of_lt h]
      rfl
    · rename_i h
      rw [ih (u / 10) (by omega) (by omega), List.map_cons, List.reverse_cons]
/-! ### order -/
theorem ord_len {a b : Nat} (h : (dg a).length < (dg b).length) : a < b := by
  rcases Nat.lt_or_ge a b with h1 | h1
  · exact h1
  · have h2 := dg_lt_pow a
    have h3 : (dg b).length ≤ (dg a).length := gr_len_le (by decide) _ _ (by omega)
    omega
theorem dg_top (a : Nat) : a / 10 ^ (dg a).length = 0 := Nat.div_eq_of_lt (dg_lt_pow a)
theorem ord_digit {a b k : Nat} (he : a / 10 ^ (k + 1) = b / 10 ^ (k + 1)) (h : a / 10 ^ k % 10 < b / 10 ^ k % 10) : a < b := by
  have h1 := div_up a 10 k
  have h2 := div_up b 10 k
  rw [he] at h1
  have h3 : a / 10 ^ k < b / 10 ^ k := by omega
  rcases Nat.lt_or_ge a b with h4 | h4
  · exact h4
  · have := Nat.div_le_div_right (c := 10 ^ k) h4
    omega
theorem ord_next {a b k : Nat} (he : a / 10 ^ (k + 1) = b / 10 ^ (k + 1)) (h : a / 10 ^ k % 10 = b / 10 ^ k % 10) : a / 10 ^ k = b / 10 ^ k := by
  have h1 := div_up a 10 k
  have h2 := div_up b 10 k
  rw [he, h] at h1
  omega
/-! ### sums -/
theorem radd_next {a b j c : Nat} {ds : List Nat} (hl : ds.length = j) (h : nv 10 ds + 10 ^ j * c = a % 10 ^ j + b % 10 ^ j) :
    nv 10 (ds ++ [(a / 10 ^ j % 10 + b / 10 ^ j % 10 + c) % 10]) + 10 ^ (j + 1) * ((a / 10 ^ j % 10 + b / 10 ^ j % 10 + c) / 10) = a % 10 ^ (j + 1) + b % 10 ^ (j + 1) := by
  rw [nv_snoc, hl, mod_next a, mod_next b]
  exact add_step h
theorem radd_big {a b j c : Nat} {ds : List Nat} (h : nv 10 ds + 10 ^ j * c = a % 10 ^ j + b % 10 ^ j) (hc : 0 < c) : 10 ^ j ≤ a + b := by
  have h1 := Nat.mod_le a (10 ^ j)
  have h2 := Nat.mod_le b (10 ^ j)
  have h3 : 10 ^ j * 1 ≤ 10 ^ j * c := Nat.mul_le_mul_left _ hc
  omega
theorem radd_end {a b j : Nat} {ds : List Nat} (ha : (dg a).length ≤ j) (hb : (dg b).length ≤ j) (h : nv 10 ds + 10 ^ j * 0 = a % 10 ^ j + b % 10 ^ j) : nv 10 ds = a + b := by
  have h1 : a < 10 ^ j := (gr_len_iff (by decide) a j).1 ha
  have h2 : b < 10 ^ j := (gr_len_iff (by decide) b j).1 hb
  rw [Nat.mod_eq_of_lt h1, Nat.mod_eq_of_lt h2] at h
  omega
/-! ### differences -/
theorem rsub_next {a b j c x c' : Nat} {ds : List Nat} (hl : ds.length = j) (h : nv 10 ds + b % 10 ^ j = a % 10 ^ j + 10 ^ j * c) (hx : x + b / 10 ^ j % 10 + c = a / 10 ^ j % 10 + 10 * c') :
    nv 10 (ds ++ [x]) + b % 10 ^ (j + 1) = a % 10 ^ (j + 1) + 10 ^ (j + 1) * c' := by
  rw [nv_snoc, hl, mod_next a, mod_next b]
  exact sub_step h hx
theorem rsub_end {a b c : Nat} {ds : List Nat} (hl : ds.length = (dg a).length) (hd : ∀ x ∈ ds, x < 10) (hba : b ≤ a) (h : nv 10 ds + b % 10 ^ (dg a).length = a % 10 ^ (dg a).length + 10 ^ (dg a).length * c) : nv 10 ds = a - b := by
  have ha := dg_lt_pow a
  have h1 := nv_lt ds hd
  rw [hl] at h1
  rw [Nat.mod_eq_of_lt ha, Nat.mod_eq_of_lt (by omega)] at h
  rcases Nat.eq_zero_or_pos c with h0 | h0
  · rw [h0] at h; omega
  · have : 10 ^ (dg a).length * 1 ≤ 10 ^ (dg a).length * c := Nat.mul_le_mul_left _ h0
    omega
end In
end Go.Proofs.YtjhnfejlkljkjaaGreatDoor
namespace Go.Proofs.YtjhnfejlkljkjaaGreatDoor
open Go.RowKit

namespace In
theorem nv_set {B : Nat} : ∀ {l : List Nat} {p x o : Nat}, l[p]? = some o → nv B (l.set p x) + B ^ p * o = nv B l + B ^ p * x := by
  intro l
  induction l with
  | nil => intro p x o h; simp at h
  | cons y l ih =>
    intro p x o h
    cases p with
    | zero =>
      obtain rfl : y = o := by simpa using h
      simp only [List.set_cons_zero, nv, Nat.pow_zero, Nat.one_mul]
      omega
    | succ p =>
      have h1 := ih (p := p) (x := x) (o := o) (by simpa using h)
      simp only [List.set_cons_succ, nv]
      have e1 : B ^ (p + 1) * o = B * (B ^ p * o) := by rw [Nat.pow_succ, Nat.mul_comm (B ^ p) B, Nat.mul_assoc]
      have e2 : B ^ (p + 1) * x = B * (B ^ p * x) := by rw [Nat.pow_succ, Nat.mul_comm (B ^ p) B, Nat.mul_assoc]
      have h2 := congrArg (B * ·) h1
      simp only [Nat.mul_add] at h2
      rw [e1, e2]
      omega
/-- one step of a product: the digit, and what is carried -/
theorem rmul_step {l : List Nat} {p c o t T : Nat} (ho : l[p]? = some o) (h : nv 10 l + 10 ^ p * c = T) : nv 10 (l.set p ((o + c + t) % 10)) + 10 ^ (p + 1) * ((o + c + t) / 10) = T + 10 ^ p * t := by
  have h1 := nv_set (B := 10) (x := (o + c + t) % 10) ho
  have h2 : o + c + t = (o + c + t) % 10 + 10 * ((o + c + t) / 10) := by omega
  generalize (o + c + t) % 10 = u at *
  generalize (o + c + t) / 10 = v at *
  have h3 := congrArg (10 ^ p * ·) h2
  simp only [Nat.mul_add] at h3
  have e : 10 ^ (p + 1) * v = 10 ^ p * (10 * v) := by rw [Nat.pow_succ, Nat.mul_assoc]
  rw [e]
  omega
/-- what the products of the digits before are -/
def mulT (a b i k : Nat) : Nat := a % 10 ^ i * b + a / 10 ^ i % 10 * (b % 10 ^ k) * 10 ^ i
theorem mulT_zero (a b i : Nat) : mulT a b i 0 = a % 10 ^ i * b := by unfold mulT; rw [Nat.pow_zero, Nat.mod_one]; omega
theorem mulT_next (a b i k : Nat) : mulT a b i k + 10 ^ (i + k) * (a / 10 ^ i % 10 * (b / 10 ^ k % 10)) = mulT a b i (k + 1) := by
  unfold mulT
  rw [mod_next b 10 k, Nat.pow_add, Nat.mul_add, Nat.add_mul]
  have e : 10 ^ i * 10 ^ k * (a / 10 ^ i % 10 * (b / 10 ^ k % 10)) = a / 10 ^ i % 10 * (10 ^ k * (b / 10 ^ k % 10)) * 10 ^ i := by ac_rfl
  rw [e]
  omega
theorem mulT_end {b k : Nat} (a i : Nat) (h : (dg b).length ≤ k) : mulT a b i k = a % 10 ^ (i + 1) * b := by
  unfold mulT
  rw [Nat.mod_eq_of_lt ((gr_len_iff (by decide) b k).1 h), mod_next a 10 i, Nat.add_mul]
  have e : a / 10 ^ i % 10 * b * 10 ^ i = 10 ^ i * (a / 10 ^ i % 10) * b := by ac_rfl
  rw [e]
theorem mulT_in {a b i k c V : Nat} (h : V + 10 ^ (i + k) * c = mulT a b i k) (hk : (dg b).length ≤ k) (hc : 0 < c) : k ≤ (dg b).length := by
  rw [mulT_end a i hk] at h
  have h1 : a % 10 ^ (i + 1) < 10 ^ (i + 1) := Nat.mod_lt _ (Nat.pow_pos (by decide))
  have h2 := dg_lt_pow b
  have h3 : a % 10 ^ (i + 1) * b < 10 ^ (i + 1) * 10 ^ (dg b).length := Nat.mul_lt_mul'' h1 h2
  rw [← Nat.pow_add] at h3
  have h4 : 10 ^ (i + k) * 1 ≤ 10 ^ (i + k) * c := Nat.mul_le_mul_left _ hc
  refine Nat.le_of_lt_succ (Nat.lt_of_not_le fun h5 => ?_)
  have h6 : 10 ^ (i + 1 + (dg b).length) ≤ 10 ^ (i + k) := Nat.pow_le_pow_right (by decide) (by omega)
  omega
theorem dg_mod {a k : Nat} (h : (dg a).length ≤ k) : a % 10 ^ k = a := Nat.mod_eq_of_lt ((gr_len_iff (by decide) a k).1 h)
theorem set_lt {l : List Nat} {p x : Nat} (h : ∀ y ∈ l, y < 10) (hx : x < 10) : ∀ y ∈ l.set p x, y < 10 := by
  intro y hy
  rcases List.mem_or_eq_of_mem_set hy with h1 | h1
  · exact h y h1
  · omega
theorem dg_len_le {a k : Nat} (h : a < 10 ^ k) : (dg a).length ≤ k := gr_len_le (by decide) _ _ h
theorem dg_mono {a b : Nat} (h : a ≤ b) : (dg a).length ≤ (dg b).length := dg_len_le (Nat.lt_of_le_of_lt h (dg_lt_pow b))
theorem dg_len_mul (a b : Nat) : (dg (a * b)).length ≤ (dg a).length + (dg b).length := by
  refine dg_len_le ?_
  rw [Nat.pow_add]
  exact Nat.mul_lt_mul'' (dg_lt_pow a) (dg_lt_pow b)
theorem dg_len_add (a b : Nat) : (dg (a + b)).length ≤ max (dg a).length (dg b).length + 1 := by
  refine dg_len_le ?_
  have h1 := dg_lt_pow a
  have h2 := dg_lt_pow b
  have h3 : 10 ^ (dg a).length ≤ 10 ^ (max (dg a).length (dg b).length) := Nat.pow_le_pow_right (by decide) (by omega)
  have h4 : 10 ^ (dg b).length ≤ 10 ^ (max (dg a).length (dg b).length) := Nat.pow_le_pow_right (by decide) (by omega)
  rw [Nat.pow_succ]
  omega
/-! ### quotients -/
theorem rquo_next {a b i : Nat} (hb : 0 < b) :
    a / 10 ^ i / b = a / 10 ^ (i + 1) / b * 10 + (a / 10 ^ (i + 1) % b * 10 + a / 10 ^ i % 10) / b ∧ a / 10 ^ i % b = (a / 10 ^ (i + 1) % b * 10 + a / 10 ^ i % 10) % b := by
  rw [div_up a 10 i]
  have h : (a / 10 ^ (i + 1) * 10 + a / 10 ^ i % 10) % 10 = a / 10 ^ i % 10 := by omega
  rw [h]
  exact div_step hb
theorem rquo_digit {a b i : Nat} (hb : 0 < b) : (a / 10 ^ (i + 1) % b * 10 + a / 10 ^ i % 10) / b < 10 := div_digit hb (Nat.mod_lt _ (by decide))
theorem nv_zeros_front (B k : Nat) (l : List Nat) : nv B (List.replicate k 0 ++ l) = B ^ k * nv B l := by
  rw [nv_append, nv_zeros, List.length_replicate, Nat.zero_add]
theorem nv_cons (B x : Nat) (l : List Nat) : nv B (x :: l) = x + B * nv B l := rfl
/-! ### roots -/
theorem rroot_next {a X P d : Nat} (h1 : (X + d * P) * (X + d * P) ≤ a) (h2 : d = 9 ∨ a < (X + (d + 1) * P) * (X + (d + 1) * P)) (h3 : a < (X + 10 * P) * (X + 10 * P)) : (X + d * P) * (X + d * P) ≤ a ∧ a < (X + d * P + P) * (X + d * P + P) := by
  refine ⟨h1, ?_⟩
  have e : X + d * P + P = X + (d + 1) * P := by rw [Nat.add_mul]; omega
  rw [e]
  rcases h2 with rfl | h2
  · exact h3
  · exact h2
theorem rroot_top (a : Nat) : a < 10 ^ (((dg a).length + 1) / 2) * 10 ^ (((dg a).length + 1) / 2) := by
  rw [← Nat.pow_add]
  exact Nat.lt_of_lt_of_le (dg_lt_pow a) (Nat.pow_le_pow_right (by decide) (by omega))
end In
end Go.Proofs.YtjhnfejlkljkjaaGreatDoor
