/- Natural numbers as lists of digits to a base, the lowest one first: mathematics. -/
/- Integers as decimal texts: mathematics. -/
/- Integers as absolute values with signs: mathematics. -/
/- Lists of digits: what loops over them leave. -/
/- Products, quotients, roots, comparison, reading and printing, group by group: mathematics. -/
/- Integers as strings: what the functions of the package return, as mathematics. -/
/- The reference implementation's loops over decimal digits: mathematics. -/
import Derived.Test.YtlehjmanlccncaaGreatDoorBase
import Derived.Lib.ItoaNum
set_option linter.unusedVariables false
set_option linter.unusedSimpArgs false
namespace Go.Proofs.YtlehjmanlccncaaGreatDoor
open Go.RowKit

namespace In
/-- the value of digits -/
def nv (B : Nat) : List Nat → Nat
  | [] => 0
  | g :: r => g + B * nv B r
/-- the digits of a number -/
def grF (B : Nat) : Nat → Nat → List Nat
  | 0, _ => []
  | f + 1, n => if n = 0 then [] else n % B :: grF B f (n / B)
def gr (B n : Nat) : List Nat := grF B n n

section
variable {B : Nat} (hB : 2 ≤ B)
include hB
theorem div_lt {n : Nat} (h : n ≠ 0) : n / B < n := Nat.div_lt_self (by omega) (by omega)
theorem grF_fuel : ∀ (f g n : Nat), n ≤ f → n ≤ g → grF B f n = grF B g n
  | 0, g, n, hf, _ => by
    obtain rfl : n = 0 := by omega
    cases g <;> rfl
  | f + 1, 0, n, _, hg => by
    obtain rfl : n = 0 := by omega
    rfl
  | f + 1, g + 1, n, hf, hg => by
    simp only [grF]
    by_cases h : n = 0
    · rw [if_pos h, if_pos h]
    · have := div_lt hB h
      rw [if_neg h, if_neg h, grF_fuel f g (n / B) (by omega) (by omega)]
theorem gr_pos {n : Nat} (h : n ≠ 0) : gr B n = n % B :: gr B (n / B) := by
  unfold gr
  have := div_lt hB h
  rw [grF_fuel hB n (n + 1) n (Nat.le_refl _) (by omega)]
  simp only [grF]
  rw [if_neg h, grF_fuel hB n (n / B) (n / B) (by omega) (Nat.le_refl _)]
theorem nv_gr : ∀ n : Nat, nv B (gr B n) = n := by
  intro n
  induction n using Nat.strongRecOn with
  | ind n ih =>
    by_cases h : n = 0
    · subst h; rfl
    · rw [gr_pos hB h, nv, ih _ (div_lt hB h), Nat.mod_add_div]
theorem gr_lt : ∀ n : Nat, ∀ x ∈ gr B n, x < B := by
  intro n
  induction n using Nat.strongRecOn with
  | ind n ih =>
    by_cases h : n = 0
    · subst h; intro x hx; cases hx
    · rw [gr_pos hB h]
      intro x hx
      rcases List.mem_cons.1 hx with rfl | hx
      · exact Nat.mod_lt _ (by omega)
      · exact ih _ (div_lt hB h) x hx
end
theorem gr_zero (B : Nat) : gr B 0 = [] := rfl
theorem nv_append (B : Nat) (l r : List Nat) : nv B (l ++ r) = nv B l + B ^ l.length * nv B r := by
  induction l with
  | nil => simp [nv]
  | cons a l ih =>
    rw [List.cons_append, nv, nv, ih, List.length_cons, Nat.pow_succ, Nat.mul_add, Nat.add_assoc, Nat.mul_comm (B ^ l.length) B, Nat.mul_assoc]
theorem nv_zeros (B k : Nat) : nv B (List.replicate k 0) = 0 := by
  induction k with
  | zero => rfl
  | succ k ih => rw [List.replicate_succ, nv, ih]; simp
theorem nv_lt {B : Nat} (l : List Nat) (h : ∀ x ∈ l, x < B) : nv B l < B ^ l.length := by
  induction l with
  | nil => simp [nv]
  | cons a l ih =>
    have h1 := h a List.mem_cons_self
    have h2 := ih (fun x hx => h x (List.mem_cons_of_mem _ hx))
    rw [nv, List.length_cons, Nat.pow_succ]
    calc a + B * nv B l < B + B * nv B l := by omega
      _ = B * (nv B l + 1) := by rw [Nat.mul_add, Nat.mul_one, Nat.add_comm]
      _ ≤ B * B ^ l.length := Nat.mul_le_mul_left _ h2
      _ = B ^ l.length * B := Nat.mul_comm _ _
section
variable {B : Nat} (hB : 2 ≤ B)
include hB
/-- a list of digits is the digits of its value, with zeros behind them -/
theorem gr_nv : ∀ (l : List Nat), (∀ x ∈ l, x < B) → ∃ k, l = gr B (nv B l) ++ List.replicate k 0 := by
  intro l
  induction l with
  | nil => intro _; exact ⟨0, rfl⟩
  | cons a l ih =>
    intro h
    obtain ⟨k, hk⟩ := ih (fun x hx => h x (List.mem_cons_of_mem _ hx))
    have ha := h a List.mem_cons_self
    by_cases h0 : nv B (a :: l) = 0
    · rw [nv] at h0
      have h1 : a = 0 := by omega
      have h2 : nv B l = 0 := by
        have : B * nv B l = 0 := by omega
        rcases Nat.mul_eq_zero.1 this with h | h
        · omega
        · exact h
      rw [h2, gr_zero, List.nil_append] at hk
      refine ⟨k + 1, ?_⟩
      rw [nv, h1, h2, Nat.mul_zero, gr_zero, List.nil_append, List.replicate_succ, ← hk]
    · refine ⟨k, ?_⟩
      rw [gr_pos hB h0]
      have e1 : nv B (a :: l) % B = a := by rw [nv, Nat.add_mul_mod_self_left, Nat.mod_eq_of_lt ha]
      have e2 : nv B (a :: l) / B = nv B l := by rw [nv, Nat.add_mul_div_left _ _ (by omega), Nat.div_eq_of_lt ha, Nat.zero_add]
      rw [e1, e2, List.cons_append, ← hk]
theorem gr_inj {a b : Nat} (h : gr B a = gr B b) : a = b := by rw [← nv_gr hB a, h, nv_gr hB b]
theorem gr_eq_nil {n : Nat} : gr B n = [] ↔ n = 0 := ⟨fun h => by rw [← nv_gr hB n, h]; rfl, fun h => by rw [h]; rfl⟩
theorem gr_last : ∀ {n : Nat}, n ≠ 0 → ∃ l x, gr B n = l ++ [x] ∧ x ≠ 0 := by
  intro n
  induction n using Nat.strongRecOn with
  | ind n ih =>
    intro h
    rw [gr_pos hB h]
    by_cases h1 : n / B = 0
    · refine ⟨[], n % B, by rw [h1]; rfl, ?_⟩
      have := Nat.mod_add_div n B
      rw [h1] at this
      omega
    · obtain ⟨l, x, hl, hx⟩ := ih _ (div_lt hB h) h1
      exact ⟨n % B :: l, x, by rw [hl]; rfl, hx⟩
/-- how many digits -/
theorem gr_len_le : ∀ (k n : Nat), n < B ^ k → (gr B n).length ≤ k := by
  intro k
  induction k with
  | zero =>
    intro n h
    have h0 : n = 0 := by rw [Nat.pow_zero] at h; omega
    subst h0
    exact Nat.zero_le _
  | succ k ih =>
    intro n h
    by_cases h0 : n = 0
    · subst h0; exact Nat.zero_le _
    · rw [gr_pos hB h0, List.length_cons]
      have := ih (n / B) (by rw [Nat.div_lt_iff_lt_mul (by omega), ← Nat.pow_succ]; exact h)
      omega
theorem lt_of_gr_len {n k : Nat} (h : (gr B n).length ≤ k) : n < B ^ k := by
  have h1 := nv_lt (gr B n) (gr_lt hB n)
  rw [nv_gr hB] at h1
  exact Nat.lt_of_lt_of_le h1 (Nat.pow_le_pow_right (by omega) h)
theorem gr_len_iff (n k : Nat) : (gr B n).length ≤ k ↔ n < B ^ k := ⟨lt_of_gr_len hB, gr_len_le hB k n⟩
/-- every digit -/
theorem gr_getD : ∀ (i n : Nat), (gr B n).getD i 0 = n / B ^ i % B := by
  intro i
  induction i with
  | zero =>
    intro n
    by_cases h : n = 0
    · subst h; simp [gr_zero]
    · rw [gr_pos hB h]; simp
  | succ i ih =>
    intro n
    by_cases h : n = 0
    · subst h; simp [gr_zero]
    · rw [gr_pos hB h, List.getD_cons_succ, ih, Nat.div_div_eq_div_mul, Nat.pow_succ, Nat.mul_comm]
theorem gr_take_nv : ∀ (j n : Nat), nv B ((gr B n).take j) = n % B ^ j := by
  intro j
  induction j with
  | zero => intro n; simp [nv, Nat.mod_one]
  | succ j ih =>
    intro n
    by_cases h : n = 0
    · subst h; simp [gr_zero, nv]
    · rw [gr_pos hB h, List.take_succ_cons, nv, ih, Nat.pow_succ, Nat.mul_comm (B ^ j) B, Nat.mod_mul]
theorem gr_drop : ∀ (j n : Nat), (gr B n).drop j = gr B (n / B ^ j) := by
  intro j
  induction j with
  | zero => intro n; simp
  | succ j ih =>
    intro n
    by_cases h : n = 0
    · subst h; simp [gr_zero]
    · rw [gr_pos hB h, List.drop_succ_cons, ih, Nat.div_div_eq_div_mul, Nat.pow_succ, Nat.mul_comm]
theorem gr_shift (n g : Nat) (hg : g < B) : gr B (n * B + g) = if n * B + g = 0 then [] else g :: gr B n := by
  by_cases h : n * B + g = 0
  · rw [if_pos h, h]; rfl
  · rw [if_neg h, gr_pos hB h]
    congr 1
    · rw [Nat.mul_comm, Nat.mul_add_mod, Nat.mod_eq_of_lt hg]
    · rw [Nat.mul_comm, Nat.mul_add_div (by omega), Nat.div_eq_of_lt hg, Nat.add_zero]
end
/-- the next digit of a number -/
theorem mod_next (n B j : Nat) : n % B ^ (j + 1) = n % B ^ j + B ^ j * (n / B ^ j % B) := by rw [Nat.pow_succ, Nat.mod_mul]
theorem nv_snoc (B : Nat) (l : List Nat) (x : Nat) : nv B (l ++ [x]) = nv B l + B ^ l.length * x := by rw [nv_append]; simp [nv]

/-! ### sums, differences, multiples: a digit more -/
theorem add_step {B j S c A b a0 b0 : Nat} (h : S + B ^ j * c = A + b) :
    S + B ^ j * ((a0 + b0 + c) % B) + B ^ (j + 1) * ((a0 + b0 + c) / B) = (A + B ^ j * a0) + (b + B ^ j * b0) := by
  have e : B ^ j * ((a0 + b0 + c) % B) + B ^ (j + 1) * ((a0 + b0 + c) / B) = B ^ j * (a0 + b0 + c) := by
    rw [Nat.pow_succ, Nat.mul_assoc, ← Nat.mul_add, Nat.mod_add_div]
  rw [Nat.add_assoc, e, Nat.mul_add, Nat.mul_add]
  omega
theorem scale_step {B j S c A d a0 : Nat} (h : S + B ^ j * c = A * d) :
    S + B ^ j * ((a0 * d + c) % B) + B ^ (j + 1) * ((a0 * d + c) / B) = (A + B ^ j * a0) * d := by
  have e : B ^ j * ((a0 * d + c) % B) + B ^ (j + 1) * ((a0 * d + c) / B) = B ^ j * (a0 * d + c) := by
    rw [Nat.pow_succ, Nat.mul_assoc, ← Nat.mul_add, Nat.mod_add_div]
  rw [Nat.add_assoc, e, Nat.mul_add, Nat.add_mul, Nat.mul_assoc]
  omega
/-- a digit of a difference -/
theorem sub_step {B j S c A b a0 b0 x c' : Nat} (h : S + b = A + B ^ j * c) (hx : x + b0 + c = a0 + B * c') :
    (S + B ^ j * x) + (b + B ^ j * b0) = (A + B ^ j * a0) + B ^ (j + 1) * c' := by
  have e : B ^ j * (x + b0 + c) = B ^ j * (a0 + B * c') := by rw [hx]
  rw [Nat.mul_add, Nat.mul_add, Nat.mul_add, ← Nat.mul_assoc] at e
  rw [Nat.pow_succ]
  omega

/-! ### division -/
theorem bounds_low {R b P D V : Nat} (hb : 0 < b) (hD : D * P ≤ R) (hV : b ≤ (V + 1) * P) : D / (V + 1) ≤ R / b := by
  rw [Nat.le_div_iff_mul_le hb]
  calc D / (V + 1) * b ≤ D / (V + 1) * ((V + 1) * P) := Nat.mul_le_mul_left _ hV
    _ = D / (V + 1) * (V + 1) * P := (Nat.mul_assoc _ _ _).symm
    _ ≤ D * P := Nat.mul_le_mul_right _ (Nat.div_mul_le_self _ _)
    _ ≤ R := hD
theorem bounds_high {R b P D V : Nat} (hV0 : 0 < V) (hD : R < (D + 1) * P) (hV : V * P ≤ b) : R / b ≤ D / V := by
  rw [Nat.le_div_iff_mul_le hV0]
  have h1 : R / b * V * P < (D + 1) * P := by
    calc R / b * V * P = R / b * (V * P) := Nat.mul_assoc _ _ _
      _ ≤ R / b * b := Nat.mul_le_mul_left _ hV
      _ ≤ R := Nat.div_mul_le_self _ _
      _ < (D + 1) * P := hD
  have := Nat.lt_of_mul_lt_mul_right h1
  omega
/-- a digit of a quotient, the highest first -/
theorem div_step {A b B a0 : Nat} (hb : 0 < b) : (A * B + a0) / b = A / b * B + (A % b * B + a0) / b ∧ (A * B + a0) % b = (A % b * B + a0) % b := by
  have e : A * B + a0 = (A % b * B + a0) + b * (A / b * B) := by
    have h := Nat.mod_add_div A b
    calc A * B + a0 = (A % b + b * (A / b)) * B + a0 := by rw [h]
      _ = A % b * B + b * (A / b) * B + a0 := by rw [Nat.add_mul]
      _ = (A % b * B + a0) + b * (A / b * B) := by rw [← Nat.mul_assoc]; omega
  constructor
  · rw [e, Nat.add_mul_div_left _ _ hb, Nat.add_comm]
  · rw [e, Nat.add_mul_mod_self_left]
theorem div_digit {A b B a0 : Nat} (hb : 0 < b) (ha : a0 < B) : (A % b * B + a0) / b < B := by
  rw [Nat.div_lt_iff_lt_mul hb]
  have h1 := Nat.mod_lt A hb
  calc A % b * B + a0 < A % b * B + B := by omega
    _ = (A % b + 1) * B := by rw [Nat.add_mul, Nat.one_mul]
    _ ≤ b * B := Nat.mul_le_mul_right _ h1
    _ = B * b := Nat.mul_comm _ _
/-- what is above a digit -/
theorem div_up (n B i : Nat) : n / B ^ i = n / B ^ (i + 1) * B + n / B ^ i % B := by
  rw [Nat.pow_succ, ← Nat.div_div_eq_div_mul, Nat.mul_comm, Nat.div_add_mod]
theorem le_div_iff' {q b R : Nat} (hb : 0 < b) : q * b ≤ R ↔ q ≤ R / b := (Nat.le_div_iff_mul_le hb).symm

/-! ### roots -/
def sqrtF : Nat → Nat → Nat
  | 0, _ => 0
  | f + 1, n => if (sqrtF f n + 1) * (sqrtF f n + 1) ≤ n then sqrtF f n + 1 else sqrtF f n
/-- the greatest number whose square is at most n -/
def sqrtN (n : Nat) : Nat := sqrtF n n
theorem sqrtF_ok : ∀ f n, sqrtF f n * sqrtF f n ≤ n ∧ (sqrtF f n ≤ f) ∧ (sqrtF f n < f → n < (sqrtF f n + 1) * (sqrtF f n + 1)) := by
  intro f
  induction f with
  | zero => intro n; exact ⟨by simp [sqrtF], Nat.le_refl _, fun h => absurd h (by simp [sqrtF])⟩
  | succ f ih =>
    intro n
    obtain ⟨h1, h2, h3⟩ := ih n
    simp only [sqrtF]
    split
    · rename_i h
      refine ⟨h, by omega, fun h4 => ?_⟩
      have := h3 (by omega)
      omega
    · rename_i h
      exact ⟨h1, by omega, fun _ => by omega⟩
theorem sqrtN_ok (n : Nat) : sqrtN n * sqrtN n ≤ n ∧ n < (sqrtN n + 1) * (sqrtN n + 1) := by
  obtain ⟨h1, h2, h3⟩ := sqrtF_ok n n
  refine ⟨h1, ?_⟩
  by_cases h : sqrtF n n < n
  · exact h3 h
  · have e : sqrtF n n = n := by omega
    show n < (sqrtF n n + 1) * (sqrtF n n + 1)
    rw [e]
    calc n < n + 1 := by omega
      _ = (n + 1) * 1 := by omega
      _ ≤ (n + 1) * (n + 1) := Nat.mul_le_mul_left _ (by omega)
theorem sq_le {a b : Nat} (h : a ≤ b) : a * a ≤ b * b := Nat.mul_le_mul h h
theorem sqrtN_is {n r : Nat} (h1 : r * r ≤ n) (h2 : n < (r + 1) * (r + 1)) : sqrtN n = r := by
  obtain ⟨h3, h4⟩ := sqrtN_ok n
  rcases Nat.lt_trichotomy (sqrtN n) r with h | h | h
  · have := sq_le (a := sqrtN n + 1) (b := r) h
    omega
  · exact h
  · have := sq_le (a := r + 1) (b := sqrtN n) h
    omega
end In
end Go.Proofs.YtlehjmanlccncaaGreatDoor
set_option linter.unusedVariables false
set_option linter.unusedSimpArgs false
namespace Go.Proofs.YtlehjmanlccncaaGreatDoor
open Go.RowKit

namespace In
def isDig (c : UInt8) : Bool := decide (48 ≤ c.toNat) && decide (c.toNat ≤ 57)
def dval (c : UInt8) : Nat := c.toNat - 48
def val10 (l : List UInt8) : Nat := l.foldl (fun a c => 10 * a + dval c) 0
theorem foldl_val (l : List UInt8) (a : Nat) : l.foldl (fun a c => 10 * a + dval c) a = 10 ^ l.length * a + val10 l := by
  induction l generalizing a with
  | nil => simp [val10]
  | cons c l ih =>
    have e : val10 (c :: l) = 10 ^ l.length * dval c + val10 l := by
      show l.foldl _ (10 * 0 + dval c) = _
      rw [ih, Nat.mul_zero, Nat.zero_add]
    rw [List.foldl_cons, ih, e, List.length_cons, Nat.pow_succ, Nat.mul_add, ← Nat.mul_assoc, Nat.add_assoc]
theorem val10_one (c : UInt8) : val10 [c] = dval c := by show 10 * 0 + dval c = _; omega
theorem val10_append (l r : List UInt8) : val10 (l ++ r) = 10 ^ r.length * val10 l + val10 r := by
  rw [val10, List.foldl_append, foldl_val]
  rfl
theorem val10_cons (c : UInt8) (l : List UInt8) : val10 (c :: l) = 10 ^ l.length * dval c + val10 l := by
  have := val10_append [c] l
  rw [val10_one] at this
  exact this
theorem val10_snoc (l : List UInt8) (c : UInt8) : val10 (l ++ [c]) = 10 * val10 l + dval c := by
  rw [val10_append, val10_one, List.length_singleton, Nat.pow_one]
theorem val10_lt (l : List UInt8) (h : ∀ c ∈ l, isDig c = true) : val10 l < 10 ^ l.length := by
  induction l with
  | nil => simp [val10]
  | cons c l ih =>
    have h1 := ih (fun x hx => h x (by simp [hx]))
    have h2 := h c (by simp)
    simp only [isDig, Bool.and_eq_true, decide_eq_true_eq] at h2
    have h3 : dval c ≤ 9 := by unfold dval; omega
    have h4 : 10 ^ l.length * dval c ≤ 10 ^ l.length * 9 := Nat.mul_le_mul_left _ h3
    rw [val10_cons, List.length_cons, Nat.pow_succ]
    omega
theorem ofNat_dig {d : Nat} (h : d < 10) : isDig (UInt8.ofNat (48 + d)) = true ∧ dval (UInt8.ofNat (48 + d)) = d ∧ (UInt8.ofNat (48 + d)).toNat = 48 + d := by
  have e : (UInt8.ofNat (48 + d)).toNat = 48 + d := by simp; omega
  refine ⟨?_, ?_, e⟩
  · unfold isDig
    rw [e]
    simp
    omega
  · unfold dval
    rw [e]
    omega
theorem dig_ofNat {c : UInt8} (h : isDig c = true) : UInt8.ofNat (48 + dval c) = c := by
  simp only [isDig, Bool.and_eq_true, decide_eq_true_eq] at h
  unfold dval
  rw [show 48 + (c.toNat - 48) = c.toNat by omega]
  simp
theorem dval_lt {c : UInt8} (h : isDig c = true) : dval c < 10 := by
  simp only [isDig, Bool.and_eq_true, decide_eq_true_eq] at h
  unfold dval
  omega
theorem dec_dig : ∀ u : Nat, ∀ c ∈ Lib.decDigits u, isDig c = true := by
  intro u
  induction u using Nat.strongRecOn with
  | ind u ih =>
    rw [Lib.decDigits]
    split
    · rename_i h
      intro c hc
      rw [List.mem_singleton.1 hc]
      exact (ofNat_dig h).1
    · intro c hc
      rcases List.mem_append.1 hc with hc | hc
      · exact ih _ (by omega) c hc
      · rw [List.mem_singleton.1 hc]
        exact (ofNat_dig (Nat.mod_lt _ (by decide))).1
theorem dec_val : ∀ u : Nat, val10 (Lib.decDigits u) = u := by
  intro u
  induction u using Nat.strongRecOn with
  | ind u ih =>
    rw [Lib.decDigits]
    split
    · rename_i h
      show 10 * 0 + dval _ = u
      rw [(ofNat_dig h).2.1]
      omega
    · rw [val10_snoc, ih _ (by omega), (ofNat_dig (Nat.mod_lt _ (by decide))).2.1]
      omega
theorem dec_ne (u : Nat) : Lib.decDigits u ≠ [] := by
  rw [Lib.decDigits]
  split <;> simp
/-- a numeral does not begin with 0, unless it is 0 -/
theorem dec_head : ∀ u : Nat, u ≠ 0 → ∃ c r, Lib.decDigits u = c :: r ∧ c ≠ 48 := by
  intro u
  induction u using Nat.strongRecOn with
  | ind u ih =>
    intro h0
    rw [Lib.decDigits]
    split
    · rename_i h
      refine ⟨_, [], rfl, fun h1 => ?_⟩
      have := (ofNat_dig h).2.2
      rw [h1] at this
      have e : (48 : UInt8).toNat = 48 := rfl
      omega
    · obtain ⟨c, r, hc, hn⟩ := ih (u / 10) (by omega) (by omega)
      exact ⟨c, r ++ [_], by rw [hc]; rfl, hn⟩
/-- digits that do not begin with 0 are a numeral -/
theorem val_dec : ∀ (n : Nat) (l : List UInt8) (c : UInt8), l.length = n → (∀ x ∈ c :: l, isDig x = true) → (c ≠ 48 ∨ l = []) → c :: l = Lib.decDigits (val10 (c :: l)) := by
  intro n
  induction n with
  | zero =>
    intro l c hn h _
    obtain rfl : l = [] := List.eq_nil_of_length_eq_zero hn
    have h1 := h c (by simp)
    have h2 := dval_lt h1
    rw [val10_one, Lib.decDigits, dif_pos h2, dig_ofNat h1]
  | succ n ih =>
    intro l' c hn h hc
    rcases List.eq_nil_or_concat l' with rfl | ⟨l, x, rfl⟩
    · cases hn
    rw [List.concat_eq_append] at *
    have hc0 : c ≠ 48 := by
      rcases hc with h | h
      · exact h
      · simp at h
    have h1 := ih l c (by simpa using hn) (fun y hy => h y (by rw [← List.cons_append]; exact List.mem_append_left _ hy)) (.inl hc0)
    have h2 := h x (by simp)
    have h3 := dval_lt h2
    have hv : 0 < val10 (c :: l) := by
      have hcd := h c (by simp)
      have hd : 0 < dval c := by
        unfold dval
        simp only [isDig, Bool.and_eq_true, decide_eq_true_eq] at hcd
        have : c.toNat ≠ 48 := fun h => hc0 (UInt8.toNat_inj.1 (by rw [h]; rfl))
        omega
      have : 0 < 10 ^ l.length * dval c := Nat.mul_pos (Nat.pow_pos (by decide)) hd
      rw [val10_cons]
      omega
    rw [← List.cons_append, val10_snoc, Lib.decDigits, dif_neg (by omega)]
    rw [show (10 * val10 (c :: l) + dval x) / 10 = val10 (c :: l) by omega, show (10 * val10 (c :: l) + dval x) % 10 = dval x by omega, ← h1, dig_ofNat h2]
theorem dec_inj {u v : Nat} (h : Lib.decDigits u = Lib.decDigits v) : u = v := by rw [← dec_val u, h, dec_val]
theorem dec_len_le {u k : Nat} (hk : 1 ≤ k) : (Lib.decDigits u).length ≤ k ↔ u < 10 ^ k := by
  rw [Lib.decDigits_length]
  constructor
  · intro h
    exact Nat.lt_of_lt_of_le (Lib.lt_pow_nDigits u) (Nat.pow_le_pow_right (by decide) h)
  · intro h
    rcases Nat.lt_or_ge (Lib.nDigits u) (k + 1) with h1 | h1
    · omega
    · exfalso
      by_cases h0 : u < 10
      · rw [Lib.nDigits_small h0] at h1; omega
      · have : 10 ^ (Lib.nDigits u - 1) ≤ u := by
          have hu : u ≠ 0 := by omega
          obtain ⟨c, r, hc, hn⟩ := dec_head u hu
          have hl := Lib.decDigits_length u
          have hd := dec_dig u c (by rw [hc]; simp)
          have hval := dec_val u
          rw [hc] at hl hval
          have e := val10_cons c r
          have hd1 : 1 ≤ dval c := by
            unfold dval
            simp only [isDig, Bool.and_eq_true, decide_eq_true_eq] at hd
            have : c.toNat ≠ 48 := fun h => hn (UInt8.toNat_inj.1 (by rw [h]; rfl))
            omega
          have hr : r.length = Lib.nDigits u - 1 := by simp at hl; omega
          rw [hr] at e
          rw [hval] at e
          calc 10 ^ (Lib.nDigits u - 1) = 10 ^ (Lib.nDigits u - 1) * 1 := by omega
            _ ≤ 10 ^ (Lib.nDigits u - 1) * dval c := Nat.mul_le_mul_left _ hd1
            _ ≤ u := by omega
        have h2 : 10 ^ k ≤ 10 ^ (Lib.nDigits u - 1) := Nat.pow_le_pow_right (by decide) (by omega)
        omega
/-- a group of four digits -/
def pad4 (g : Nat) : List UInt8 := List.replicate (4 - (Lib.decDigits g).length) 48 ++ Lib.decDigits g
theorem zeros_val (k : Nat) : val10 (List.replicate k 48) = 0 := by
  induction k with
  | zero => rfl
  | succ k ih => rw [List.replicate_succ', val10_snoc, ih]; rfl
theorem pad4_len {g : Nat} (h : g < 10000) : (pad4 g).length = 4 := by
  have := (dec_len_le (u := g) (k := 4) (by decide)).2 h
  simp [pad4]
  omega
theorem pad4_val (g : Nat) : val10 (pad4 g) = g := by rw [pad4, val10_append, zeros_val, dec_val]; omega
theorem pad4_dig (g : Nat) : ∀ c ∈ pad4 g, isDig c = true := by
  intro c hc
  rcases List.mem_append.1 hc with hc | hc
  · rw [(List.mem_replicate.1 hc).2]; rfl
  · exact dec_dig g c hc
theorem dec_more {m g : Nat} (hm : m ≠ 0) (hg : g < 10000) : Lib.decDigits (m * 10000 + g) = Lib.decDigits m ++ pad4 g := by
  obtain ⟨c, r, hc, hn⟩ := dec_head m hm
  have hv : val10 (Lib.decDigits m ++ pad4 g) = m * 10000 + g := by
    rw [val10_append, dec_val, pad4_val, pad4_len hg]
    omega
  have hd : ∀ x ∈ Lib.decDigits m ++ pad4 g, isDig x = true := by
    intro x hx
    rcases List.mem_append.1 hx with hx | hx
    · exact dec_dig m x hx
    · exact pad4_dig g x hx
  rw [hc, List.cons_append] at hv hd ⊢
  have := val_dec _ (r ++ pad4 g) c rfl hd (.inl hn)
  rw [hv] at this
  exact this.symm

/-! ### integers -/
def txtL (z : Int) : List UInt8 := Lib.itoa z
def txt (z : Int) : ByteArray := ⟨(Lib.itoa z).toArray⟩
/-- what Valid says of the bytes of a string -/
def validL (l : List UInt8) : Bool :=
  let d := if l.head? = some 45 then l.tail else l
  decide (d ≠ []) && decide (d.length ≤ 200) && d.all isDig && (decide (d.head? ≠ some 48) || decide (l = [48]))
theorem head_dec (u : Nat) : (Lib.decDigits u).head? ≠ some 45 := by
  intro h
  cases e : Lib.decDigits u with
  | nil => rw [e] at h; cases h
  | cons c r =>
    rw [e] at h
    cases h
    have := dec_dig u 45 (by rw [e]; simp)
    exact absurd this (by decide)
theorem dec_zero : Lib.decDigits 0 = [48] := by rw [Lib.decDigits]; rfl
theorem valid_txt (z : Int) : validL (txtL z) = decide (z.natAbs < 10 ^ 200) := by
  have hl := dec_len_le (u := z.natAbs) (k := 200) (by decide)
  have hall : (Lib.decDigits z.natAbs).all isDig = true := List.all_eq_true.2 (dec_dig _)
  have hne := dec_ne z.natAbs
  unfold txtL Lib.itoa
  by_cases h : z < 0
  · rw [if_pos h]
    obtain ⟨c, r, hc, hn⟩ := dec_head z.natAbs (by omega)
    unfold validL
    dsimp only
    rw [List.head?_cons, if_pos rfl, List.tail_cons, decide_eq_true hne, hall, hc, List.head?_cons]
    have : (some c ≠ some (48 : UInt8)) := fun h => hn (Option.some.inj h)
    rw [decide_eq_true this, ← hc]
    by_cases hk : z.natAbs < 10 ^ 200
    · rw [decide_eq_true hk, decide_eq_true (hl.2 hk)]; rfl
    · rw [decide_eq_false hk, decide_eq_false (fun h => hk (hl.1 h))]; rfl
  · rw [if_neg h]
    have e : z.toNat = z.natAbs := by omega
    rw [e]
    unfold validL
    dsimp only
    rw [if_neg (head_dec _), decide_eq_true hne, hall]
    have hlast : (decide ((Lib.decDigits z.natAbs).head? ≠ some 48) || decide (Lib.decDigits z.natAbs = [48])) = true := by
      by_cases h0 : z.natAbs = 0
      · rw [h0, dec_zero]; rfl
      · obtain ⟨c, r, hc, hn⟩ := dec_head z.natAbs h0
        rw [hc, List.head?_cons, decide_eq_true (show some c ≠ some (48 : UInt8) from fun h => hn (Option.some.inj h))]; rfl
    rw [hlast]
    by_cases hk : z.natAbs < 10 ^ 200
    · rw [decide_eq_true hk, decide_eq_true (hl.2 hk)]; rfl
    · rw [decide_eq_false hk, decide_eq_false (fun h => hk (hl.1 h))]; rfl
theorem valid_is {l : List UInt8} (h : validL l = true) : ∃ z : Int, l = txtL z ∧ z.natAbs < 10 ^ 200 := by
  unfold validL at h
  dsimp only at h
  simp only [Bool.and_eq_true, Bool.or_eq_true, decide_eq_true_eq, List.all_eq_true] at h
  obtain ⟨⟨⟨h1, h2⟩, h3⟩, h4⟩ := h
  by_cases hm : l.head? = some 45
  · rw [if_pos hm] at h1 h2 h3 h4
    obtain ⟨r, rfl⟩ : ∃ r, l = 45 :: r := by
      cases l with
      | nil => cases hm
      | cons c r => cases hm; exact ⟨r, rfl⟩
    rw [List.tail_cons] at *
    cases r with
    | nil => exact absurd rfl h1
    | cons c r =>
      have hc : c ≠ 48 := by
        rcases h4 with h | h
        · exact fun e => h (by rw [e]; rfl)
        · cases h
      have hv := val_dec _ r c rfl h3 (.inl hc)
      have hlen := (dec_len_le (u := val10 (c :: r)) (k := 200) (by decide)).1 (by rw [← hv]; exact h2)
      have hpos : val10 (c :: r) ≠ 0 := by
        intro h0
        rw [h0, dec_zero] at hv
        exact hc (by injection hv)
      refine ⟨-(val10 (c :: r) : Int), ?_, by rw [Int.natAbs_neg, Int.natAbs_natCast]; exact hlen⟩
      unfold txtL Lib.itoa
      rw [if_pos (by omega), Int.natAbs_neg, Int.natAbs_natCast, ← hv]
  · rw [if_neg hm] at h1 h2 h3 h4
    cases l with
    | nil => exact absurd rfl h1
    | cons c r =>
      have hc : c ≠ 48 ∨ r = [] := by
        rcases h4 with h | h
        · exact .inl fun e => h (by rw [e]; rfl)
        · exact .inr (by injection h)
      have hv := val_dec _ r c rfl h3 hc
      have hlen := (dec_len_le (u := val10 (c :: r)) (k := 200) (by decide)).1 (by rw [← hv]; exact h2)
      refine ⟨(val10 (c :: r) : Int), ?_, by rw [Int.natAbs_natCast]; exact hlen⟩
      unfold txtL Lib.itoa
      rw [if_neg (by omega), Int.toNat_natCast, ← hv]
theorem txtL_inj {a b : Int} (h : txtL a = txtL b) : a = b := by
  unfold txtL Lib.itoa at h
  by_cases ha : a < 0
  · by_cases hb : b < 0
    · rw [if_pos ha, if_pos hb] at h
      have := dec_inj (List.cons.inj h).2
      omega
    · rw [if_pos ha, if_neg hb] at h
      exact absurd (by rw [← h]; rfl) (head_dec b.toNat)
  · by_cases hb : b < 0
    · rw [if_neg ha, if_pos hb] at h
      exact absurd (by rw [h]; rfl) (head_dec a.toNat)
    · rw [if_neg ha, if_neg hb] at h
      have := dec_inj h
      omega
end In
end Go.Proofs.YtlehjmanlccncaaGreatDoor
set_option linter.unusedVariables false
set_option linter.unusedSimpArgs false
namespace Go.Proofs.YtlehjmanlccncaaGreatDoor
open Go.RowKit

namespace In
def sgn (n : Nat) (neg : Bool) : Int := if neg = true then -(n : Int) else n
theorem sgn_abs (n : Nat) (s : Bool) : (sgn n s).natAbs = n := by unfold sgn; split <;> omega
/-- the sign of an integer -/
def neg (z : Int) : Bool := decide (z < 0)
theorem sgn_neg (z : Int) : sgn z.natAbs (neg z) = z := by
  unfold sgn neg
  by_cases h : z < 0
  · rw [decide_eq_true h, if_pos rfl]; omega
  · rw [decide_eq_false h, if_neg (by simp)]; omega
/-- a sign that 0 does not have -/
theorem neg_sgn (n : Nat) (s : Bool) : neg (sgn n s) = (s && decide (0 < n)) := by
  unfold sgn neg
  cases s with
  | true =>
    rw [if_pos rfl, Bool.true_and]
    by_cases h : 0 < n
    · rw [decide_eq_true h, decide_eq_true (by omega)]
    · rw [decide_eq_false h, decide_eq_false (by omega)]
  | false => rw [if_neg (by simp), Bool.false_and, decide_eq_false (by omega)]
theorem sgn_plus (a b : Nat) (s : Bool) : sgn a s + sgn b s = sgn (a + b) s := by
  unfold sgn
  cases s
  · simp
  · simp; omega
theorem sgn_less {a b : Nat} {s t : Bool} (h : s ≠ t) (hl : a < b) : sgn a s + sgn b t = sgn (b - a) t := by
  unfold sgn
  cases s <;> cases t <;> simp_all <;> omega
theorem sgn_more {a b : Nat} {s t : Bool} (h : s ≠ t) (hl : b ≤ a) : sgn a s + sgn b t = sgn (a - b) s := by
  unfold sgn
  cases s <;> cases t <;> simp_all <;> omega
theorem sgn_minus (a : Nat) (s : Bool) : -sgn a s = sgn a (!s) := by
  unfold sgn
  cases s <;> simp
theorem sgn_times (a b : Nat) (s t : Bool) : sgn a s * sgn b t = sgn (a * b) (s != t) := by
  unfold sgn
  cases s <;> cases t <;> simp [Int.neg_mul, Int.mul_neg]
theorem sgn_compare (a b : Nat) (s t : Bool) (hs : s = true → 0 < a) (ht : t = true → 0 < b) : (sgn a s < sgn b t ↔ (s = true ∧ t = true ∧ b < a) ∨ (s = true ∧ t = false) ∨ (s = false ∧ t = false ∧ a < b)) := by
  unfold sgn
  cases s <;> cases t <;> simp_all <;> omega
/-- quotient and remainder, which is not negative -/
theorem div_pos {a b : Nat} (hb : 0 < b) (s : Bool) :
    sgn a s / (b : Int) = sgn (if (s && decide (0 < a % b)) = true then a / b + 1 else a / b) s ∧ sgn a s % (b : Int) = ((if (s && decide (0 < a % b)) = true then b - a % b else a % b : Nat) : Int) := by
  have hm := Nat.mod_lt a hb
  have hd := Nat.mod_add_div a b
  have hd' : ((a % b : Nat) : Int) + (b : Int) * ((a / b : Nat) : Int) = a := by exact_mod_cast hd
  cases s with
  | false =>
    unfold sgn
    simp
  | true =>
    by_cases h : 0 < a % b
    · rw [decide_eq_true h]
      simp only [Bool.and_self, if_true, sgn]
      refine (Int.ediv_emod_unique (by omega)).2 ⟨?_, by omega, by omega⟩
      have e : (b : Int) * -(((a / b + 1 : Nat)) : Int) = -((b : Int) * ((a / b : Nat) : Int)) - b := by
        push_cast
        rw [Int.mul_neg, Int.mul_add, Int.mul_one]
        omega
      rw [e]
      have : ((b - a % b : Nat) : Int) = b - (a % b : Nat) := by omega
      rw [this]
      omega
    · rw [decide_eq_false h]
      simp only [Bool.and_false, Bool.false_eq_true, if_false, sgn, if_true]
      refine (Int.ediv_emod_unique (by omega)).2 ⟨?_, by omega, by omega⟩
      rw [Int.mul_neg]
      omega
theorem div_sgn {a b : Nat} (hb : 0 < b) (s t : Bool) :
    sgn a s / sgn b t = sgn (if (s && decide (0 < a % b)) = true then a / b + 1 else a / b) (s != t) ∧ sgn a s % sgn b t = ((if (s && decide (0 < a % b)) = true then b - a % b else a % b : Nat) : Int) := by
  obtain ⟨h1, h2⟩ := div_pos (a := a) hb s
  cases t with
  | false =>
    have e : sgn b false = (b : Int) := by unfold sgn; simp
    rw [e]
    refine ⟨?_, h2⟩
    rw [h1]
    cases s <;> rfl
  | true =>
    have e : sgn b true = -(b : Int) := by unfold sgn; simp
    rw [e, Int.ediv_neg, Int.emod_neg]
    refine ⟨?_, h2⟩
    rw [h1, sgn_minus]
    cases s <;> rfl
end In
end Go.Proofs.YtlehjmanlccncaaGreatDoor
set_option linter.unusedVariables false
set_option linter.unusedSimpArgs false
namespace Go.Proofs.YtlehjmanlccncaaGreatDoor
open Go.RowKit

namespace In
abbrev BB : Nat := 10000
theorem BB2 : 2 ≤ BB := by decide
/-- the groups of a natural number -/
abbrev gs (n : Nat) : List Nat := gr 10000 n
theorem gs_lt (n : Nat) : ∀ x ∈ gs n, x < 10000 := gr_lt (by decide) n
theorem gs_zero : gs 0 = [] := rfl
theorem gs_nil {n : Nat} : (gs n).length = 0 ↔ n = 0 := by rw [List.length_eq_zero_iff]; exact gr_eq_nil (by decide)
/-- without the zeros at the end -/
theorem trim_is {l : List Nat} {k : Nat} (hl : ∀ x ∈ l, x < 10000) (hk : k ≤ l.length) (hz : ∀ j x, k ≤ j → l[j]? = some x → x = 0) (he : k = 0 ∨ ∃ x, l[k - 1]? = some x ∧ x ≠ 0) : gs (nv 10000 l) = l.take k := by
  have hd : l.drop k = List.replicate (l.length - k) 0 := by
    apply List.eq_replicate_iff.2
    refine ⟨by rw [List.length_drop], fun x hx => ?_⟩
    obtain ⟨i, hi⟩ := List.getElem?_of_mem hx
    rw [List.getElem?_drop] at hi
    exact hz (k + i) x (by omega) hi
  have hsplit : l = l.take k ++ List.replicate (l.length - k) 0 := by rw [← hd, List.take_append_drop]
  have hn : nv 10000 l = nv 10000 (l.take k) := by
    conv => lhs; rw [hsplit]
    rw [nv_append, nv_zeros, Nat.mul_zero, Nat.add_zero]
  rw [hn]
  obtain ⟨m, hm⟩ := gr_nv (B := 10000) (by decide) (l.take k) (fun x hx => hl x (List.mem_of_mem_take hx))
  have hm0 : m = 0 := by
    rcases he with h | ⟨x, hx, hx0⟩
    · subst h
      rw [List.take_zero] at hm
      have h1 := congrArg List.length hm
      simp at h1
      omega
    · rcases Nat.eq_zero_or_pos m with h | h
      · exact h
      · exfalso
        have hkl : (l.take k).length = k := by rw [List.length_take]; omega
        have hk1 : k - 1 < l.length := (List.getElem?_eq_some_iff.1 hx).1
        have hlen := congrArg List.length hm
        rw [hkl, List.length_append, List.length_replicate] at hlen
        have h2 : (l.take k)[k - 1]? = some x := by rw [List.getElem?_take, if_pos (by omega)]; exact hx
        rw [hm, List.getElem?_append_right (by omega), List.getElem?_replicate] at h2
        split at h2
        · exact hx0 (Option.some.inj h2).symm
        · cases h2
  rw [hm0, List.replicate_zero, List.append_nil] at hm
  exact hm.symm
theorem gs_at {n i : Nat} (h : i < (gs n).length) : (gs n)[i]? = some (n / 10000 ^ i % 10000) := by
  have h1 := gr_getD (B := 10000) (by decide) i n
  rw [List.getD_eq_getElem?_getD, List.getElem?_eq_getElem h] at h1
  rw [List.getElem?_eq_getElem h]
  exact congrArg some h1
theorem gs_out {n i : Nat} (h : (gs n).length ≤ i) : n / 10000 ^ i % 10000 = 0 := by
  rw [Nat.div_eq_of_lt ((gr_len_iff (by decide) n i).1 h)]
theorem gs_lt_pow (n : Nat) : n < 10000 ^ (gs n).length := (gr_len_iff (by decide) n _).1 (Nat.le_refl _)
theorem gs_mod (n : Nat) {k : Nat} (h : (gs n).length ≤ k) : n % 10000 ^ k = n := Nat.mod_eq_of_lt ((gr_len_iff (by decide) n k).1 h)
theorem mod_zero (n B : Nat) : n % B ^ 0 = 0 := by rw [Nat.pow_zero, Nat.mod_one]
/-- a sum, group by group -/
theorem add_next {a b j c : Nat} {ds : List Nat} (hl : ds.length = j) (h : nv 10000 ds + 10000 ^ j * c = a % 10000 ^ j + b % 10000 ^ j) :
    nv 10000 (ds ++ [(a / 10000 ^ j % 10000 + b / 10000 ^ j % 10000 + c) % 10000]) + 10000 ^ (j + 1) * ((a / 10000 ^ j % 10000 + b / 10000 ^ j % 10000 + c) / 10000) = a % 10000 ^ (j + 1) + b % 10000 ^ (j + 1) := by
  rw [nv_snoc, hl, mod_next a, mod_next b]
  exact add_step h
theorem add_end {a b N c : Nat} {ds : List Nat} (hl : ds.length = N) (ha : (gs a).length + 1 ≤ N) (hb : (gs b).length + 1 ≤ N) (h : nv 10000 ds + 10000 ^ N * c = a % 10000 ^ N + b % 10000 ^ N) : nv 10000 ds = a + b := by
  rw [gs_mod a (by omega), gs_mod b (by omega)] at h
  have h1 : a < 10000 ^ (N - 1) := (gr_len_iff (by decide) a (N - 1)).1 (show (gs a).length ≤ N - 1 by omega)
  have h2 : b < 10000 ^ (N - 1) := (gr_len_iff (by decide) b (N - 1)).1 (show (gs b).length ≤ N - 1 by omega)
  have e : 10000 ^ N = 10000 ^ (N - 1) * 10000 := by rw [← Nat.pow_succ]; congr 1; omega
  rcases Nat.eq_zero_or_pos c with h0 | h0
  · rw [h0] at h; omega
  · have : 10000 ^ N * 1 ≤ 10000 ^ N * c := Nat.mul_le_mul_left _ h0
    omega
/-- a difference, group by group -/
theorem sub_next {a b j c x c' : Nat} {ds : List Nat} (hl : ds.length = j) (h : nv 10000 ds + b % 10000 ^ j = a % 10000 ^ j + 10000 ^ j * c) (hx : x + b / 10000 ^ j % 10000 + c = a / 10000 ^ j % 10000 + 10000 * c') :
    nv 10000 (ds ++ [x]) + b % 10000 ^ (j + 1) = a % 10000 ^ (j + 1) + 10000 ^ (j + 1) * c' := by
  rw [nv_snoc, hl, mod_next a, mod_next b]
  exact sub_step h hx
theorem sub_end {a b c : Nat} {ds : List Nat} (hl : ds.length = (gs a).length) (hd : ∀ x ∈ ds, x < 10000) (hba : b ≤ a) (h : nv 10000 ds + b % 10000 ^ (gs a).length = a % 10000 ^ (gs a).length + 10000 ^ (gs a).length * c) : nv 10000 ds = a - b := by
  have ha := gs_lt_pow a
  have h1 := nv_lt ds hd
  rw [hl] at h1
  rw [Nat.mod_eq_of_lt ha, Nat.mod_eq_of_lt (by omega)] at h
  rcases Nat.eq_zero_or_pos c with h0 | h0
  · rw [h0] at h; omega
  · have : 10000 ^ (gs a).length * 1 ≤ 10000 ^ (gs a).length * c := Nat.mul_le_mul_left _ h0
    omega
/-- a multiple, group by group -/
theorem mul_next {a d j c : Nat} {ds : List Nat} (hl : ds.length = j) (h : nv 10000 ds + 10000 ^ j * c = a % 10000 ^ j * d) :
    nv 10000 (ds ++ [(a / 10000 ^ j % 10000 * d + c) % 10000]) + 10000 ^ (j + 1) * ((a / 10000 ^ j % 10000 * d + c) / 10000) = a % 10000 ^ (j + 1) * d := by
  rw [nv_snoc, hl, mod_next a]
  exact scale_step h
theorem mul_end {a d c : Nat} {ds : List Nat} (hd : d < 10000) (h : nv 10000 ds + 10000 ^ ((gs a).length + 1) * c = a % 10000 ^ ((gs a).length + 1) * d) : nv 10000 ds = a * d := by
  rw [gs_mod a (Nat.le_succ _)] at h
  have ha := gs_lt_pow a
  have h2 : a * d ≤ a * 9999 := Nat.mul_le_mul_left _ (by omega)
  rcases Nat.eq_zero_or_pos c with h0 | h0
  · rw [h0] at h; omega
  · have : 10000 ^ ((gs a).length + 1) * 1 ≤ 10000 ^ ((gs a).length + 1) * c := Nat.mul_le_mul_left _ h0
    rw [Nat.pow_succ] at this h
    omega
theorem gs_len_add (a b : Nat) : (gs (a + b)).length ≤ max (gs a).length (gs b).length + 1 := by
  have h1 := gs_lt_pow a
  have h2 := gs_lt_pow b
  refine gr_len_le (by decide) _ _ ?_
  have e1 : 10000 ^ (gs a).length ≤ 10000 ^ max (gs a).length (gs b).length := Nat.pow_le_pow_right (by decide) (Nat.le_max_left _ _)
  have e2 : 10000 ^ (gs b).length ≤ 10000 ^ max (gs a).length (gs b).length := Nat.pow_le_pow_right (by decide) (Nat.le_max_right _ _)
  rw [Nat.pow_succ]
  omega
end In
end Go.Proofs.YtlehjmanlccncaaGreatDoor
set_option linter.unusedVariables false
set_option linter.unusedSimpArgs false
namespace Go.Proofs.YtlehjmanlccncaaGreatDoor
open Go.RowKit

namespace In
/-! ### comparison -/
theorem cmp_len {a b : Nat} (h : (gs a).length < (gs b).length) : a < b := by
  rcases Nat.lt_or_ge a b with h1 | h1
  · exact h1
  · exfalso
    have h2 := gs_lt_pow a
    have h3 := (gr_len_iff (B := 10000) (by decide) b (gs a).length).2 (by omega)
    have : (gs b).length ≤ (gs a).length := h3
    omega
theorem cmp_group {a b k : Nat} (he : a / 10000 ^ (k + 1) = b / 10000 ^ (k + 1)) (h : a / 10000 ^ k % 10000 < b / 10000 ^ k % 10000) : a < b := by
  have h1 := div_up a 10000 k
  have h2 := div_up b 10000 k
  rw [he] at h1
  have h3 : a / 10000 ^ k < b / 10000 ^ k := by omega
  rcases Nat.lt_or_ge a b with h4 | h4
  · exact h4
  · have := Nat.div_le_div_right (c := 10000 ^ k) h4
    omega
theorem cmp_next {a b k : Nat} (he : a / 10000 ^ (k + 1) = b / 10000 ^ (k + 1)) (h : a / 10000 ^ k % 10000 = b / 10000 ^ k % 10000) : a / 10000 ^ k = b / 10000 ^ k := by
  have h1 := div_up a 10000 k
  have h2 := div_up b 10000 k
  rw [he, h] at h1
  omega
def cmpN (a b : Nat) : Int := if a < b then -1 else if b < a then 1 else 0
theorem cmpN_eq (a : Nat) : cmpN a a = 0 := by unfold cmpN; rw [if_neg (Nat.lt_irrefl _), if_neg (Nat.lt_irrefl _)]
theorem cmpN_lt {a b : Nat} (h : a < b) : cmpN a b = -1 := if_pos h
theorem cmpN_gt {a b : Nat} (h : b < a) : cmpN a b = 1 := by unfold cmpN; rw [if_neg (by omega), if_pos h]
/-! ### products -/
theorem mul_horner {a b i : Nat} : b * (a / 10000 ^ i) = b * (a / 10000 ^ (i + 1)) * 10000 + b * (a / 10000 ^ i % 10000) := by
  conv => lhs; rw [div_up a 10000 i]
  rw [Nat.mul_add, Nat.mul_assoc]
theorem gs_top (a : Nat) : a / 10000 ^ (gs a).length = 0 := Nat.div_eq_of_lt (gs_lt_pow a)
/-! ### quotients -/
theorem quo_next {a b i : Nat} (hb : 0 < b) :
    a / 10000 ^ i / b = a / 10000 ^ (i + 1) / b * 10000 + (a / 10000 ^ (i + 1) % b * 10000 + a / 10000 ^ i % 10000) / b ∧
    a / 10000 ^ i % b = (a / 10000 ^ (i + 1) % b * 10000 + a / 10000 ^ i % 10000) % b := by
  have h := div_step (A := a / 10000 ^ (i + 1)) (b := b) (B := 10000) (a0 := a / 10000 ^ i % 10000) hb
  rw [← div_up a 10000 i] at h
  exact h
theorem quo_digit {a b i : Nat} (hb : 0 < b) : (a / 10000 ^ (i + 1) % b * 10000 + a / 10000 ^ i % 10000) / b < 10000 := div_digit hb (Nat.mod_lt _ (by decide))
/-- the three highest groups of what is divided, the two highest ones of the divisor -/
theorem gs_two {b k : Nat} (h : (gs b).length = k + 2) : (b / 10000 ^ (k + 1) % 10000) * 10000 + b / 10000 ^ k % 10000 = b / 10000 ^ k ∧ 0 < b / 10000 ^ (k + 1) := by
  have h1 := div_up b 10000 k
  have h2 := div_up b 10000 (k + 1)
  have h3 := gs_top b
  rw [h] at h3
  rw [show k + 1 + 1 = k + 2 from rfl, h3] at h2
  refine ⟨by omega, ?_⟩
  rcases Nat.eq_zero_or_pos (b / 10000 ^ (k + 1)) with h0 | h0
  · have h4 : b < 10000 ^ (k + 1) := by
      rcases Nat.lt_or_ge b (10000 ^ (k + 1)) with h5 | h5
      · exact h5
      · have := Nat.div_pos h5 (Nat.pow_pos (by decide))
        omega
    have h5 : (gs b).length ≤ k + 1 := (gr_len_iff (by decide) b (k + 1)).2 h4
    omega
  · exact h0
theorem gs_three {R k : Nat} (h : R < 10000 ^ (k + 3)) : (R / 10000 ^ (k + 2) % 10000 * 10000 + R / 10000 ^ (k + 1) % 10000) * 10000 + R / 10000 ^ k % 10000 = R / 10000 ^ k := by
  have h1 := div_up R 10000 k
  have h2 := div_up R 10000 (k + 1)
  have h3 := div_up R 10000 (k + 2)
  rw [show k + 2 + 1 = k + 3 from rfl, Nat.div_eq_of_lt h] at h3
  rw [show k + 1 + 1 = k + 2 from rfl] at h2
  omega
/-- between which groups the next one of the quotient is -/
theorem quo_bounds {R b k : Nat} (hb : 0 < b) (hD : 0 < b / 10000 ^ k) : R / 10000 ^ k / (b / 10000 ^ k + 1) ≤ R / b ∧ R / b ≤ R / 10000 ^ k / (b / 10000 ^ k) := by
  have hp : 0 < 10000 ^ k := Nat.pow_pos (by decide)
  refine ⟨bounds_low (P := 10000 ^ k) hb (Nat.div_mul_le_self _ _) (Nat.le_of_lt ?_), bounds_high (P := 10000 ^ k) hD ?_ (Nat.div_mul_le_self _ _)⟩
  · exact (Nat.div_lt_iff_lt_mul hp).1 (Nat.lt_succ_self _)
  · exact (Nat.div_lt_iff_lt_mul hp).1 (Nat.lt_succ_self _)
theorem quo_bounds_one {R b : Nat} (hb : 0 < b) : R * 10000 / (b * 10000 + 1) ≤ R / b ∧ R / b ≤ R * 10000 / (b * 10000) := by
  have e : R * 10000 / (b * 10000) = R / b := Nat.mul_div_mul_right _ _ (by decide)
  have h1 : R * 10000 / (b * 10000 + 1) ≤ R * 10000 / (b * 10000) := Nat.div_le_div_left (by omega) (by omega)
  omega
/-! ### roots -/
theorem root_next {a X P d : Nat} (h1 : (X + d * P) * (X + d * P) ≤ a) (h2 : d < 9999 → ¬ (X + (d + 1) * P) * (X + (d + 1) * P) ≤ a) (h3 : a < (X + 10000 * P) * (X + 10000 * P)) (hd : d ≤ 9999) :
    a < (X + d * P + P) * (X + d * P + P) := by
  have e : X + d * P + P = X + (d + 1) * P := by rw [Nat.add_mul, Nat.one_mul, Nat.add_assoc]
  rw [e]
  rcases Nat.lt_or_ge d 9999 with h | h
  · have := h2 h
    omega
  · obtain rfl : d = 9999 := by omega
    exact h3
theorem root_mono {a X P d e : Nat} (h : d ≤ e) (h1 : (X + e * P) * (X + e * P) ≤ a) : (X + d * P) * (X + d * P) ≤ a :=
  Nat.le_trans (sq_le (Nat.add_le_add_left (Nat.mul_le_mul_right _ h) _)) h1
/-! ### reading and printing -/
theorem read_next {l : List UInt8} {ds : List Nat} {j e : Nat} (hl : ds.length = j) (he : e ≤ l.length) (h0 : 0 < e) (h : nv 10000 ds + 10000 ^ j * val10 (l.take e) = val10 l) :
    nv 10000 (ds ++ [val10 ((l.take e).drop (e - 4))]) + 10000 ^ (j + 1) * val10 (l.take (e - 4)) = val10 l := by
  have hs : l.take e = l.take (e - 4) ++ (l.take e).drop (e - 4) := by
    conv => lhs; rw [← List.take_append_drop (e - 4) (l.take e), List.take_take, Nat.min_eq_left (by omega)]
  rw [nv_snoc, hl, ← h]
  conv => rhs; rw [hs]
  rw [val10_append, Nat.mul_add]
  have hlen : ((l.take e).drop (e - 4)).length = e - (e - 4) := by rw [List.length_drop, List.length_take]; omega
  rw [hlen]
  rcases Nat.lt_or_ge e 4 with h4 | h4
  · have e0 : e - 4 = 0 := by omega
    rw [e0, List.take_zero]
    simp [val10]
  · rw [show e - (e - 4) = 4 by omega, show (10 : Nat) ^ 4 = 10000 from rfl, Nat.pow_succ, Nat.mul_assoc (10000 ^ j)]
    generalize 10000 ^ j * (10000 * val10 (l.take (e - 4))) = U
    generalize 10000 ^ j * val10 ((l.take e).drop (e - 4)) = V
    omega
theorem print_next {n i : Nat} (h : n / 10000 ^ (i + 1) ≠ 0) : Lib.decDigits (n / 10000 ^ i) = Lib.decDigits (n / 10000 ^ (i + 1)) ++ pad4 (n / 10000 ^ i % 10000) := by
  rw [div_up n 10000 i, dec_more h (Nat.mod_lt _ (by decide)), ← div_up n 10000 i]
theorem gs_high {n i : Nat} (h : i < (gs n).length) : n / 10000 ^ i ≠ 0 := by
  intro h0
  have h1 : n < 10000 ^ i := by
    rcases Nat.lt_or_ge n (10000 ^ i) with h5 | h5
    · exact h5
    · have := Nat.div_pos h5 (Nat.pow_pos (by decide))
      omega
  have h5 : (gs n).length ≤ i := (gr_len_iff (by decide) n i).2 h1
  omega
end In
end Go.Proofs.YtlehjmanlccncaaGreatDoor
set_option linter.unusedVariables false
set_option linter.unusedSimpArgs false
namespace Go.Proofs.YtlehjmanlccncaaGreatDoor
open Go.RowKit

namespace In
def valL (l : List UInt8) : Int := if l.head? = some 45 then -(val10 l.tail : Int) else (val10 l : Int)
theorem valL_txt (z : Int) : valL (txtL z) = z := by
  unfold valL txtL Lib.itoa
  by_cases h : z < 0
  · rw [if_pos h, List.head?_cons, if_pos rfl, List.tail_cons, dec_val]
    omega
  · rw [if_neg h, if_neg (head_dec _), dec_val]
    omega
theorem valid_val {l : List UInt8} (h : validL l = true) : l = txtL (valL l) ∧ (valL l).natAbs < 10 ^ 200 := by
  obtain ⟨z, rfl, hz⟩ := valid_is h
  rw [valL_txt]
  exact ⟨rfl, hz⟩
/-- a number has at most 200 digits -/
abbrev Fit (z : Int) : Prop := z.natAbs < 10 ^ 200
/-- the number that a string stands for, if it is valid -/
def num (s : ByteArray) : Option Int := if validL s.data.toList = true then some (valL s.data.toList) else none
theorem txt_list (z : Int) : (txt z).data.toList = txtL z := by simp [txt, txtL]
theorem txt_inj {a b : Int} (h : txt a = txt b) : a = b := txtL_inj (by rw [← txt_list, ← txt_list, h])
theorem num_txt (z : Int) : num (txt z) = if Fit z then some z else none := by
  unfold num
  rw [txt_list, valid_txt, valL_txt]
  by_cases h : Fit z
  · rw [if_pos h, decide_eq_true h, if_pos rfl]
  · rw [if_neg h, decide_eq_false h, if_neg (by simp)]
theorem num_fit {z : Int} (h : Fit z) : num (txt z) = some z := by rw [num_txt, if_pos h]
theorem num_some {s : ByteArray} {z : Int} (h : num s = some z) : s = txt z ∧ Fit z := by
  unfold num at h
  split at h
  · rename_i hv
    obtain ⟨h1, h2⟩ := valid_val hv
    obtain rfl := Option.some.inj h
    refine ⟨?_, h2⟩
    cases s with
    | mk d =>
      unfold txt
      congr 1
      apply Array.toList_inj.1
      rw [List.toList_toArray]
      exact h1
  · cases h
theorem num_none {s : ByteArray} : num s = none ↔ validL s.data.toList = false := by
  unfold num
  cases validL s.data.toList <;> simp
theorem num_isSome (s : ByteArray) : (num s).isSome = validL s.data.toList := by
  unfold num
  cases validL s.data.toList <;> simp
/-- a result, if it is not too large -/
def fit (z : Int) : ByteArray × Int := if Fit z then (txt z, 0) else (⟨#[]⟩, 30)
theorem fit_pos {z : Int} (h : Fit z) : fit z = (txt z, 0) := if_pos h
theorem fit_neg {z : Int} (h : ¬ Fit z) : fit z = (⟨#[]⟩, 30) := if_neg h
/-- an operation on two strings -/
def opS (f : Int → Int → Int) (s t : ByteArray) : ByteArray × Int :=
  match num s, num t with
  | some x, some y => fit (f x y)
  | _, _ => (⟨#[]⟩, 30)
theorem opS_some {f : Int → Int → Int} {s t : ByteArray} {x y : Int} (hs : num s = some x) (ht : num t = some y) : opS f s t = fit (f x y) := by unfold opS; rw [hs, ht]
theorem opS_left {f : Int → Int → Int} {s t : ByteArray} (hs : num s = none) : opS f s t = (⟨#[]⟩, 30) := by unfold opS; rw [hs]
theorem opS_right {f : Int → Int → Int} {s t : ByteArray} (ht : num t = none) : opS f s t = (⟨#[]⟩, 30) := by unfold opS; rw [ht]; cases num s <;> rfl
/-- comparison -/
def cmpZ (x y : Int) : Int := if x < y then -1 else if y < x then 1 else 0
def cmpS (s t : ByteArray) : Int :=
  match num s, num t with
  | some x, some y => cmpZ x y
  | _, _ => 0
theorem cmpS_some {s t : ByteArray} {x y : Int} (hs : num s = some x) (ht : num t = some y) : cmpS s t = cmpZ x y := by unfold cmpS; rw [hs, ht]
theorem cmpS_left {s t : ByteArray} (hs : num s = none) : cmpS s t = 0 := by unfold cmpS; rw [hs]
theorem cmpS_right {s t : ByteArray} (ht : num t = none) : cmpS s t = 0 := by unfold cmpS; rw [ht]; cases num s <;> rfl
/-- quotient and remainder -/
def divS (s t : ByteArray) : ByteArray × ByteArray × Int :=
  match num s, num t with
  | some x, some y => if y = 0 then (⟨#[]⟩, ⟨#[]⟩, 30) else if Fit (x / y) then (txt (x / y), txt (x % y), 0) else (⟨#[]⟩, ⟨#[]⟩, 30)
  | _, _ => (⟨#[]⟩, ⟨#[]⟩, 30)
theorem divS_some {s t : ByteArray} {x y : Int} (hs : num s = some x) (ht : num t = some y) (hy : y ≠ 0) : divS s t = if Fit (x / y) then (txt (x / y), txt (x % y), 0) else (⟨#[]⟩, ⟨#[]⟩, 30) := by unfold divS; rw [hs, ht]; exact if_neg hy
theorem divS_zero {s t : ByteArray} {x : Int} (hs : num s = some x) (ht : num t = some 0) : divS s t = (⟨#[]⟩, ⟨#[]⟩, 30) := by unfold divS; rw [hs, ht]; rfl
theorem divS_left {s t : ByteArray} (hs : num s = none) : divS s t = (⟨#[]⟩, ⟨#[]⟩, 30) := by unfold divS; rw [hs]
theorem divS_right {s t : ByteArray} (ht : num t = none) : divS s t = (⟨#[]⟩, ⟨#[]⟩, 30) := by unfold divS; rw [ht]; cases num s <;> rfl
/-- a quotient is not larger than what is divided, but for its sign -/
theorem quo_le (x y : Int) : (x / y).natAbs ≤ x.natAbs := Int.natAbs_ediv_le_natAbs x y
/-- the root -/
def rootS (s : ByteArray) : ByteArray × Int :=
  match num s with
  | some x => if x < 0 then (⟨#[]⟩, 30) else (txt (sqrtN x.natAbs), 0)
  | none => (⟨#[]⟩, 30)
theorem rootS_some {s : ByteArray} {x : Int} (hs : num s = some x) (hx : 0 ≤ x) : rootS s = (txt (sqrtN x.natAbs), 0) := by unfold rootS; rw [hs]; exact if_neg (by omega)
theorem rootS_neg {s : ByteArray} {x : Int} (hs : num s = some x) (hx : x < 0) : rootS s = (⟨#[]⟩, 30) := by unfold rootS; rw [hs]; exact if_pos hx
theorem rootS_none {s : ByteArray} (hs : num s = none) : rootS s = (⟨#[]⟩, 30) := by unfold rootS; rw [hs]
theorem sqrtN_le (n : Nat) : sqrtN n ≤ n := (sqrtF_ok n n).2.1
/-- as a machine's number -/
def toS (s : ByteArray) : Int × Int :=
  match num s with
  | some x => if -9223372036854775808 ≤ x ∧ x ≤ 9223372036854775807 then (x, 0) else (0, 30)
  | none => (0, 30)
theorem toS_some {s : ByteArray} {x : Int} (hs : num s = some x) : toS s = if -9223372036854775808 ≤ x ∧ x ≤ 9223372036854775807 then (x, 0) else (0, 30) := by unfold toS; rw [hs]
theorem toS_none {s : ByteArray} (hs : num s = none) : toS s = (0, 30) := by unfold toS; rw [hs]
abbrev gcdZ (x y : Int) : Int := ((Nat.gcd x.natAbs y.natAbs : Nat) : Int)
end In
end Go.Proofs.YtlehjmanlccncaaGreatDoor
set_option linter.unusedVariables false
set_option linter.unusedSimpArgs false
namespace Go.Proofs.YtlehjmanlccncaaGreatDoor
open Go.RowKit

namespace In
/-- the decimal digits of a natural number, the lowest one first -/
abbrev dg (n : Nat) : List Nat := gr 10 n
theorem dg_lt (n : Nat) : ∀ x ∈ dg n, x < 10 := gr_lt (by decide) n
theorem dg_lt_pow (n : Nat) : n < 10 ^ (dg n).length := (gr_len_iff (by decide) n _).1 (Nat.le_refl _)
theorem dg_at {n i : Nat} (h : i < (dg n).length) : (dg n)[i]? = some (n / 10 ^ i % 10) := by
  have h1 := gr_getD (B := 10) (by decide) i n
  rw [List.getD_eq_getElem?_getD, List.getElem?_eq_getElem h] at h1
  rw [List.getElem?_eq_getElem h]
  exact congrArg some h1
theorem dg_out {n i : Nat} (h : (dg n).length ≤ i) : n / 10 ^ i % 10 = 0 := by
  rw [Nat.div_eq_of_lt ((gr_len_iff (by decide) n i).1 h)]
theorem dg_big {n i : Nat} (h : i < (dg n).length) : 10 ^ i ≤ n := by
  rcases Nat.lt_or_ge n (10 ^ i) with h1 | h1
  · have h2 : (dg n).length ≤ i := gr_len_le (by decide) _ _ h1
    omega
  · exact h1
theorem dg_nil {n : Nat} : (dg n).length = 0 ↔ n = 0 := by rw [List.length_eq_zero_iff]; exact gr_eq_nil (by decide)
/-- digits of which the highest is not needless -/
theorem dg_is {l : List Nat} {n : Nat} (hl : ∀ x ∈ l, x < 10) (hv : nv 10 l = n) (hb : l = [] ∨ 10 ^ (l.length - 1) ≤ n) : l = dg n := by
  obtain ⟨k, hk⟩ := gr_nv (B := 10) (by decide) l hl
  rw [hv] at hk
  rcases Nat.eq_zero_or_pos k with h0 | h0
  · rw [h0, List.replicate_zero, List.append_nil] at hk
    exact hk
  · exfalso
    have hlen := congrArg List.length hk
    rw [List.length_append, List.length_replicate] at hlen
    rcases hb with h | h
    · rw [h] at hlen; simp at hlen; omega
    · have h1 := dg_lt_pow n
      have h2 : 10 ^ (dg n).length ≤ 10 ^ (l.length - 1) := Nat.pow_le_pow_right (by decide) (by show (gr 10 n).length ≤ _; omega)
      omega
/-- without the zeros at the end -/
theorem dg_trim {l : List Nat} {k : Nat} (hl : ∀ x ∈ l, x < 10) (hk : k ≤ l.length) (hz : ∀ j x, k ≤ j → l[j]? = some x → x = 0) (he : k = 0 ∨ ∃ x, l[k - 1]? = some x ∧ x ≠ 0) : dg (nv 10 l) = l.take k := by
  have hd : l.drop k = List.replicate (l.length - k) 0 := by
    apply List.eq_replicate_iff.2
    refine ⟨by rw [List.length_drop], fun x hx => ?_⟩
    obtain ⟨i, hi⟩ := List.getElem?_of_mem hx
    rw [List.getElem?_drop] at hi
    exact hz (k + i) x (by omega) hi
  have hsplit : l = l.take k ++ List.replicate (l.length - k) 0 := by rw [← hd, List.take_append_drop]
  have hn : nv 10 l = nv 10 (l.take k) := by
    conv => lhs; rw [hsplit]
    rw [nv_append, nv_zeros, Nat.mul_zero, Nat.add_zero]
  rw [hn]
  refine (dg_is (fun x hx => hl x (List.mem_of_mem_take hx)) rfl ?_).symm
  rcases he with h | ⟨x, hx, hx0⟩
  · left; subst h; simp
  · right
    have hk1 : k - 1 < l.length := (List.getElem?_eq_some_iff.1 hx).1
    have hkl : (l.take k).length = k := by rw [List.length_take]; omega
    have h2 : (l.take k)[k - 1]? = some x := by
      rcases Nat.eq_zero_or_pos k with h0 | h0
      · subst h0
        exact absurd (hz 0 x (Nat.le_refl _) hx) hx0
      · rw [List.getElem?_take, if_pos (by omega)]; exact hx
    have hsp : l.take k = (l.take k).take (k - 1) ++ [x] := by
      have h3 := List.take_add_one (l := l.take k) (i := k - 1)
      rw [h2, Option.toList_some] at h3
      rw [← h3]
      rcases Nat.eq_zero_or_pos k with h0 | h0
      · subst h0
        exact absurd (hz 0 x (Nat.le_refl _) hx) hx0
      · rw [show k - 1 + 1 = k by omega, List.take_take, Nat.min_self]
    rw [hkl]
    rw [hsp, nv_snoc, List.length_take, hkl, Nat.min_eq_left (by omega)]
    have : 10 ^ (k - 1) * 1 ≤ 10 ^ (k - 1) * x := Nat.mul_le_mul_left _ (by omega)
    omega
/-- the value of the characters '0' to '9' is that of the digits turned around -/
theorem dg_dec : ∀ u : Nat, u ≠ 0 → Lib.decDigits u = ((dg u).map (fun d => UInt8.ofNat (48 + d))).reverse := by
  intro u
  induction u using Nat.strongRecOn with
  | ind u ih =>
    intro h0
    rw [Lib.decDigits, dg, gr_pos (by decide) h0]
    split
    · rename_i h
      have e : u / 10 = 0 := by omega
      rw [e, gr_zero, Nat.mod_eq_of_lt h]
      rfl
    · rename_i h
      rw [ih (u / 10) (by omega) (by omega), List.map_cons, List.reverse_cons]
/-! ### order -/
theorem ord_len {a b : Nat} (h : (dg a).length < (dg b).length) : a < b := by
  rcases Nat.lt_or_ge a b with h1 | h1
  · exact h1
  · have h2 := dg_lt_pow a
    have h3 : (dg b).length ≤ (dg a).length := gr_len_le (by decide) _ _ (by omega)
    omega
theorem dg_top (a : Nat) : a / 10 ^ (dg a).length = 0 := Nat.div_eq_of_lt (dg_lt_pow a)
theorem ord_digit {a b k : Nat} (he : a / 10 ^ (k + 1) = b / 10 ^ (k + 1)) (h : a / 10 ^ k % 10 < b / 10 ^ k % 10) : a < b := by
  have h1 := div_up a 10 k
  have h2 := div_up b 10 k
  rw [he] at h1
  have h3 : a / 10 ^ k < b / 10 ^ k := by omega
  rcases Nat.lt_or_ge a b with h4 | h4
  · exact h4
  · have := Nat.div_le_div_right (c := 10 ^ k) h4
    omega
theorem ord_next {a b k : Nat} (he : a / 10 ^ (k + 1) = b / 10 ^ (k + 1)) (h : a / 10 ^ k % 10 = b / 10 ^ k % 10) : a / 10 ^ k = b / 10 ^ k := by
  have h1 := div_up a 10 k
  have h2 := div_up b 10 k
  rw [he, h] at h1
  omega
/-! ### sums -/
theorem radd_next {a b j c : Nat} {ds : List Nat} (hl : ds.length = j) (h : nv 10 ds + 10 ^ j * c = a % 10 ^ j + b % 10 ^ j) :
    nv 10 (ds ++ [(a / 10 ^ j % 10 + b / 10 ^ j % 10 + c) % 10]) + 10 ^ (j + 1) * ((a / 10 ^ j % 10 + b / 10 ^ j % 10 + c) / 10) = a % 10 ^ (j + 1) + b % 10 ^ (j + 1) := by
  rw [nv_snoc, hl, mod_next a, mod_next b]
  exact add_step h
theorem radd_big {a b j c : Nat} {ds : List Nat} (h : nv 10 ds + 10 ^ j * c = a % 10 ^ j + b % 10 ^ j) (hc : 0 < c) : 10 ^ j ≤ a + b := by
  have h1 := Nat.mod_le a (10 ^ j)
  have h2 := Nat.mod_le b (10 ^ j)
  have h3 : 10 ^ j * 1 ≤ 10 ^ j * c := Nat.mul_le_mul_left _ hc
  omega
theorem radd_end {a b j : Nat} {ds : List Nat} (ha : (dg a).length ≤ j) (hb : (dg b).length ≤ j) (h : nv 10 ds + 10 ^ j * 0 = a % 10 ^ j + b % 10 ^ j) : nv 10 ds = a + b := by
  have h1 : a < 10 ^ j := (gr_len_iff (by decide) a j).1 ha
  have h2 : b < 10 ^ j := (gr_len_iff (by decide) b j).1 hb
  rw [Nat.mod_eq_of_lt h1, Nat.mod_eq_of_lt h2] at h
  omega
/-! ### differences -/
theorem rsub_next {a b j c x c' : Nat} {ds : List Nat} (hl : ds.length = j) (h : nv 10 ds + b % 10 ^ j = a % 10 ^ j + 10 ^ j * c) (hx : x + b / 10 ^ j % 10 + c = a / 10 ^ j % 10 + 10 * c') :
    nv 10 (ds ++ [x]) + b % 10 ^ (j + 1) = a % 10 ^ (j + 1) + 10 ^ (j + 1) * c' := by
  rw [nv_snoc, hl, mod_next a, mod_next b]
  exact sub_step h hx
theorem rsub_end {a b c : Nat} {ds : List Nat} (hl : ds.length = (dg a).length) (hd : ∀ x ∈ ds, x < 10) (hba : b ≤ a) (h : nv 10 ds + b % 10 ^ (dg a).length = a % 10 ^ (dg a).length + 10 ^ (dg a).length * c) : nv 10 ds = a - b := by
  have ha := dg_lt_pow a
  have h1 := nv_lt ds hd
  rw [hl] at h1
  rw [Nat.mod_eq_of_lt ha, Nat.mod_eq_of_lt (by omega)] at h
  rcases Nat.eq_zero_or_pos c with h0 | h0
  · rw [h0] at h; omega
  · have : 10 ^ (dg a).length * 1 ≤ 10 ^ (dg a).length * c := Nat.mul_le_mul_left _ h0
    omega
end In
end Go.Proofs.YtlehjmanlccncaaGreatDoor
