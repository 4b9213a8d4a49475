/- Natural numbers as lists of digits to a base, the lowest one first: mathematics. -/
import Derived.Test.YtjhnfejlkljkjaaDoorBase
namespace Go.Proofs.YtjhnfejlkljkjaaDoor
open Go.RowKit

namespace In
/-- the value of digits -/
def nv (B : Nat) : List Nat → Nat
  | [] => 0
  | g :: r => g + B * nv B r
/-- the digits of a number -/
def grF (B : Nat) : Nat → Nat → List Nat
  | 0, _ => []
  | f + 1, n => if n = 0 then [] else n % B :: grF B f (n / B)
def gr (B n : Nat) : List Nat := grF B n n

section
variable {B : Nat} (hB : 2 ≤ B)
include hB
theorem div_lt {n : Nat} (h : n ≠ 0) : n / B < n := Nat.div_lt_self (by omega) (by omega)
theorem grF_fuel : ∀ (f g n : Nat), n ≤ f → n ≤ g → grF B f n = grF B g n
  | 0, g, n, hf, _ => by
    obtain rfl : n = 0 := by omega
    cases g <;> rfl
  | f + 1, 0, n, _, hg => by
    obtain rfl : n = 0 := by omega
    rfl
  | f + 1, g + 1, n, hf, hg => by
    simp only [grF]
    by_cases h : n = 0
    · rw [if_pos h, if_pos h]
    · have := div_lt hB h
      rw [if_neg h, if_neg h, grF_fuel f g (n / B) (by omega) (by omega)]
theorem gr_pos {n : Nat} (h : n ≠ 0) : gr B n = n % B :: gr B (n / B) := by
  unfold gr
  have := div_lt hB h
  rw [grF_fuel hB n (n + 1) n (Nat.le_refl _) (by omega)]
  simp only [grF]
  rw [if_neg h, grF_fuel hB n (n / B) (n / B) (by omega) (Nat.le_refl _)]
theorem nv_gr : ∀ n : Nat, nv B (gr B n) = n := by
  intro n
  induction n using Nat.strongRecOn with
  | ind n ih =>
    by_cases h : n = 0
    · subst h; rfl
    · rw [gr_pos hB h, nv, ih _ (div_lt hB h), Nat.mod_add_div]
theorem gr_lt : ∀ n : Nat, ∀ x ∈ gr B n, x < B := by
  intro n
  induction n using Nat.strongRecOn with
  | ind n ih =>
    by_cases h : n = 0
    · subst h; intro x hx; cases hx
    · rw [gr_pos hB h]
      intro x hx
      rcases List.mem_cons.1 hx with rfl | hx
      · exact Nat.mod_lt _ (by omega)
      · exact ih _ (div_lt hB h) x hx
end
theorem gr_zero (B : Nat) : gr B 0 = [] := rfl
theorem nv_append (B : Nat) (l r : List Nat) : nv B (l ++ r) = nv B l + B ^ l.length * nv B r := by
  induction l with
  | nil => simp [nv]
  | cons a l ih =>
    rw [List.cons_append, nv, nv, ih, List.length_cons, Nat.pow_succ, Nat.mul_add, Nat.add_assoc, Nat.mul_comm (B ^ l.length) B, Nat.mul_assoc]
theorem nv_zeros (B k : Nat) : nv B (List.replicate k 0) = 0 := by
  induction k with
  | zero => rfl
  | succ k ih => rw [List.replicate_succ, nv, ih]; simp
theorem nv_lt {B : Nat} (l : List Nat) (h : ∀ x ∈ l, x < B) : nv B l < B ^ l.length := by
  induction l with
  | nil => simp [nv]
  | cons a l ih =>
    have h1 := h a List.mem_cons_self
    have h2 := ih (fun x hx => h x (List.mem_cons_of_mem _ hx))
    rw [nv, List.length_cons, Nat.pow_succ]
    calc a + B * nv B l < B + B * nv B l := by omega
      _ = B * (nv B l + 1) := by rw [Nat.mul_add, Nat.mul_one, Nat.add_comm]
      _ ≤ B * B ^ l.length := Nat.mul_le_mul_left _ h2
      _ = B ^ l.length * B := Nat.mul_comm _ _
section
variable {B : Nat} (hB : 2 ≤ B)
include hB
/-- a list of digits is the digits of its value, with zeros behind them -/
theorem gr_nv : ∀ (l : List Nat), (∀ x ∈ l, x < B) → ∃ k, l = gr B (nv B l) ++ List.replicate k 0 := by
  intro l
  induction l with
  | nil => intro _; exact ⟨0, rfl⟩
  | cons a l ih =>
    intro h
    obtain ⟨k, hk⟩ := ih (fun x hx => h x (List.mem_cons_of_mem _ hx))
    have ha := h a List.mem_cons_self
    by_cases h0 : nv B (a :: l) = 0
    · rw [nv] at h0
      have h1 : a = 0 := by omega
      have h2 : nv B l = 0 := by
        have : B * nv B l = 0 := by omega
        rcases Nat.mul_eq_zero.1 this with h | h
        · omega
        · exact h
      rw [h2, gr_zero, List.nil_append] at hk
      refine ⟨k + 1, ?_⟩
      rw [nv, h1, h2, Nat.mul_zero, gr_zero, List.nil_append, List.replicate_succ, ← hk]
    · refine ⟨k, ?_⟩
      rw [gr_pos hB h0]
      have e1 : nv B (a :: l) % B = a := by rw [nv, Nat.add_mul_mod_self_left, Nat.mod_eq_of_lt ha]
      have e2 : nv B (a :: l) / B = nv B l := by rw [nv, Nat.add_mul_div_left _ _ (by omega), Nat.div_eq_of_lt ha, Nat.zero_add]
      rw [e1, e2, List.cons_append, ← hk]
theorem gr_inj {a b : Nat} (h : gr B a = gr B b) : a = b := by rw [← nv_gr hB a, h, nv_gr hB b]
theorem gr_eq_nil {n : Nat} : gr B n = [] ↔ n = 0 := ⟨fun h => by rw [← nv_gr hB n, h]; rfl, fun h => by rw [h]; rfl⟩
theorem gr_last : ∀ {n : Nat}, n ≠ 0 → ∃ l x, gr B n = l ++ [x] ∧ x ≠ 0 := by
  intro n
  induction n using Nat.strongRecOn with
  | ind n ih =>
    intro h
    rw [gr_pos hB h]
    by_cases h1 : n / B = 0
    · refine ⟨[], n % B, by rw [h1]; rfl, ?_⟩
      have := Nat.mod_add_div n B
      rw [h1] at this
      omega
    · obtain ⟨l, x, hl, hx⟩ := ih _ (div_lt hB h) h1
      exact ⟨n % B :: l, x, by rw [hl]; rfl, hx⟩
/-- how many digits -/
theorem gr_len_le : ∀ (k n : Nat), n < B ^ k → (gr B n).length ≤ k := by
  intro k
  induction k with
  | zero =>
    intro n h
    have h0 : n = 0 := by rw [Nat.pow_zero] at h; omega
    subst h0
    exact Nat.zero_le _
  | succ k ih =>
    intro n h
    by_cases h0 : n = 0
    · subst h0; exact Nat.zero_le _
    · rw [gr_pos hB h0, List.length_cons]
      have := ih (n / B) (by rw [Nat.div_lt_iff_lt_mul (by omega), ← Nat.pow_succ]; exact h)
      omega
theorem lt_of_gr_len {n k : Nat} (h : (gr B n).length ≤ k) : n < B ^ k := by
  have h1 := nv_lt (gr B n) (gr_lt hB n)
  rw [nv_gr hB] at h1
  exact Nat.lt_of_lt_of_le h1 (Nat.pow_le_pow_right (by omega) h)
theorem gr_len_iff (n k : Nat) : (gr B n).length ≤ k ↔ n < B ^ k := ⟨lt_of_gr_len hB, gr_len_le hB k n⟩
/-- every digit -/
theorem gr_getD : ∀ (i n : Nat), (gr B n).getD i 0 = n / B ^ i % B := by
  intro i
  induction i with
  | zero =>
    intro n
    by_cases h : n = 0
    · subst h; simp [gr_zero]
    · rw [gr_pos hB h]; simp
  | succ i ih =>
    intro n
    by_cases h : n = 0
    · subst h; simp [gr_zero]
    · rw [gr_pos hB h, List.getD_cons_succ, ih, Nat.div_div_eq_div_mul, Nat.pow_succ, Nat.mul_comm]
theorem gr_take_nv : ∀ (j n : Nat), nv B ((gr B n).take j) = n % B ^ j := by
  intro j
  induction j with
  | zero => intro n; simp [nv, Nat.mod_one]
  | succ j ih =>
    intro n
    by_cases h : n = 0
    · subst h; simp [gr_zero, nv]
    · rw [gr_pos hB h, List.take_succ_cons, nv, ih, Nat.pow_succ, Nat.mul_comm (B ^ j) B, Nat.mod_mul]
theorem gr_drop : ∀ (j n : Nat), (gr B n).drop j = gr B (n / B ^ j) := by
  intro j
  induction j with
  | zero => intro n; simp
  | succ j ih =>
    intro n
    by_cases h : n = 0
    · subst h; simp [gr_zero]
    · rw [gr_pos hB h, List.drop_succ_cons, ih, Nat.div_div_eq_div_mul, Nat.pow_succ, Nat.mul_comm]
theorem gr_shift (n g : Nat) (hg : g < B) : gr B (n * B + g) = if n * B + g = 0 then [] else g :: gr B n := by
  by_cases h : n * B + g = 0
  · rw [if_pos h, h]; rfl
  · rw [if_neg h, gr_pos hB h]
    congr 1
    · rw [Nat.mul_comm, Nat.mul_add_mod, Nat.mod_eq_of_lt hg]
    · rw [Nat.mul_comm, Nat.mul_add_div (by omega), Nat.div_eq_of_lt hg, Nat.add_zero]
end
/-- the next digit of a number -/
theorem mod_next (n B j : Nat) : n % B ^ (j + 1) = n % B ^ j + B ^ j * (n / B ^ j % B) := by rw [Nat.pow_succ, Nat.mod_mul]
theorem nv_snoc (B : Nat) (l : List Nat) (x : Nat) : nv B (l ++ [x]) = nv B l + B ^ l.length * x := by rw [nv_append]; simp [nv]

/-! ### sums, differences, multiples: a digit more -/
theorem add_step {B j S c A b a0 b0 : Nat} (h : S + B ^ j * c = A + b) :
    S + B ^ j * ((a0 + b0 + c) % B) + B ^ (j + 1) * ((a0 + b0 + c) / B) = (A + B ^ j * a0) + (b + B ^ j * b0) := by
  have e : B ^ j * ((a0 + b0 + c) % B) + B ^ (j + 1) * ((a0 + b0 + c) / B) = B ^ j * (a0 + b0 + c) := by
    rw [Nat.pow_succ, Nat.mul_assoc, ← Nat.mul_add, Nat.mod_add_div]
  rw [Nat.add_assoc, e, Nat.mul_add, Nat.mul_add]
  omega
theorem scale_step {B j S c A d a0 : Nat} (h : S + B ^ j * c = A * d) :
    S + B ^ j * ((a0 * d + c) % B) + B ^ (j + 1) * ((a0 * d + c) / B) = (A + B ^ j * a0) * d := by
  have e : B ^ j * ((a0 * d + c) % B) + B ^ (j + 1) * ((a0 * d + c) / B) = B ^ j * (a0 * d + c) := by
    rw [Nat.pow_succ, Nat.mul_assoc, ← Nat.mul_add, Nat.mod_add_div]
  rw [Nat.add_assoc, e, Nat.mul_add, Nat.add_mul, Nat.mul_assoc]
  omega
/-- a digit of a difference -/
theorem sub_step {B j S c A b a0 b0 x c' : Nat} (h : S + b = A + B ^ j * c) (hx : x + b0 + c = a0 + B * c') :
    (S + B ^ j * x) + (b + B ^ j * b0) = (A + B ^ j * a0) + B ^ (j + 1) * c' := by
  have e : B ^ j * (x + b0 + c) = B ^ j * (a0 + B * c') := by rw [hx]
  rw [Nat.mul_add, Nat.mul_add, Nat.mul_add, ← Nat.mul_assoc] at e
  rw [Nat.pow_succ]
  omega

/-! ### division -/
theorem bounds_low {R b P D V : Nat} (hb : 0 < b) (hD : D * P ≤ R) (hV : b ≤ (V + 1) * P) : D / (V + 1) ≤ R / b := by
  rw [Nat.le_div_iff_mul_le hb]
  calc D / (V + 1) * b ≤ D / (V + 1) * ((V + 1) * P) := Nat.mul_le_mul_left _ hV
    _ = D / (V + 1) * (V + 1) * P := (Nat.mul_assoc _ _ _).symm
    _ ≤ D * P := Nat.mul_le_mul_right _ (Nat.div_mul_le_self _ _)
    _ ≤ R := hD
theorem bounds_high {R b P D V : Nat} (hV0 : 0 < V) (hD : R < (D + 1) * P) (hV : V * P ≤ b) : R / b ≤ D / V := by
  rw [Nat.le_div_iff_mul_le hV0]
  have h1 : R / b * V * P < (D + 1) * P := by
    calc R / b * V * P = R / b * (V * P) := Nat.mul_assoc _ _ _
      _ ≤ R / b * b := Nat.mul_le_mul_left _ hV
      _ ≤ R := Nat.div_mul_le_self _ _
      _ < (D + 1) * P := hD
  have := Nat.lt_of_mul_lt_mul_right h1
  omega
/-- a digit of a quotient, the highest first -/
theorem div_step {A b B a0 : Nat} (hb : 0 < b) : (A * B + a0) / b = A / b * B + (A % b * B + a0) / b ∧ (A * B + a0) % b = (A % b * B + a0) % b := by
  have e : A * B + a0 = (A % b * B + a0) + b * (A / b * B) := by
    have h := Nat.mod_add_div A b
    calc A * B + a0 = (A % b + b * (A / b)) * B + a0 := by rw [h]
      _ = A % b * B + b * (A / b) * B + a0 := by rw [Nat.add_mul]
      _ = (A % b * B + a0) + b * (A / b * B) := by rw [← Nat.mul_assoc]; omega
  constructor
  · rw [e, Nat.add_mul_div_left _ _ hb, Nat.add_comm]
  · rw [e, Nat.add_mul_mod_self_left]
theorem div_digit {A b B a0 : Nat} (hb : 0 < b) (ha : a0 < B) : (A % b * B + a0) / b < B := by
  rw [Nat.div_lt_iff_lt_mul hb]
  have h1 := Nat.mod_lt A hb
  calc A % b * B + a0 < A % b * B + B := by omega
    _ = (A % b + 1) * B := by rw [Nat.add_mul, Nat.one_mul]
    _ ≤ b * B := Nat.mul_le_mul_right _ h1
    _ = B * b := Nat.mul_comm _ _
/-- what is above a digit -/
theorem div_up (n B i : Nat) : n / B ^ i = n / B ^ (i + 1) * B + n / B ^ i % B := by
  rw [Nat.pow_succ, ← Nat.div_div_eq_div_mul, Nat.mul_comm, Nat.div_add_mod]
theorem le_div_iff' {q b R : Nat} (hb : 0 < b) : q * b ≤ R ↔ q ≤ R / b := (Nat.le_div_iff_mul_le hb).symm

/-! ### roots -/
def sqrtF : Nat → Nat → Nat
  | 0, _ => 0
  | f + 1, n => if (sqrtF f n + 1) * (sqrtF f n + 1) ≤ n then sqrtF f n + 1 else sqrtF f n
/-- the greatest number whose square is at most n -/
def sqrtN (n : Nat) : Nat := sqrtF n n
theorem sqrtF_ok : ∀ f n, sqrtF f n * sqrtF f n ≤ n ∧ (sqrtF f n ≤ f) ∧ (sqrtF f n < f → n < (sqrtF f n + 1) * (sqrtF f n + 1)) := by
  intro f
  induction f with
  | zero => intro n; exact ⟨by simp [sqrtF], Nat.le_refl _, fun h => absurd h (by simp [sqrtF])⟩
  | succ f ih =>
    intro n
    obtain ⟨h1, h2, h3⟩ := ih n
    simp only [sqrtF]
    split
    · rename_i h
      refine ⟨h, by omega, fun h4 => ?_⟩
      have := h3 (by omega)
      omega
    · rename_i h
      exact ⟨h1, by omega, fun _ => by omega⟩
theorem sqrtN_ok (n : Nat) : sqrtN n * sqrtN n ≤ n ∧ n < (sqrtN n + 1) * (sqrtN n + 1) := by
  obtain ⟨h1, h2, h3⟩ := sqrtF_ok n n
  refine ⟨h1, ?_⟩
  by_cases h : sqrtF n n < n
  · exact h3 h
  · have e : sqrtF n n = n := by omega
    show n < (sqrtF n n + 1) * (sqrtF n n + 1)
    rw [e]
    calc n < n + 1 := by omega
      _ = (n + 1) * 1 := by omega
      _ ≤ (n + 1) * (n + 1) := Nat.mul_le_mul_left _ (by omega)
theorem sq_le {a b : Nat} (h : a ≤ b) : a * a ≤ b * b := Nat.mul_le_mul h h
theorem sqrtN_is {n r : Nat} (h1 : r * r ≤ n) (h2 : n < (r + 1) * (r + 1)) : sqrtN n = r := by
  obtain ⟨h3, h4⟩ := sqrtN_ok n
  rcases Nat.lt_trichotomy (sqrtN n) r with h | h | h
  · have := sq_le (a := sqrtN n + 1) (b := r) h
    omega
  · exact h
  · have := sq_le (a := r + 1) (b := sqrtN n) h
    omega
end In
end Go.Proofs.YtjhnfejlkljkjaaDoor
