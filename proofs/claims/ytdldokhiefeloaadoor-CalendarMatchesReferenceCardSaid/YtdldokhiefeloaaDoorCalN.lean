/- The month of a day, and the day of a month: plain mathematics. -/
import Derived.Test.YtdldokhiefeloaaDoorCalJ
namespace Go.Proofs.YtdldokhiefeloaaDoor
open Go.RowKit

theorem firstM_mono {i n : Nat} (h : i ≤ n) (hn : n ≤ 1300) : firstM i ≤ firstM n := by
  obtain ⟨e, rfl⟩ := Nat.exists_eq_add_of_le h
  clear h
  induction e with
  | zero => exact Int.le_refl _
  | succ e ih =>
    have d := daysM_bd (i + e) (by omega)
    have := ih (by omega)
    have e1 : firstM (i + (e + 1)) = firstM (i + e) + daysZ (stM (i + e)).1 (stM (i + e)).2.1 := firstM_succ _
    omega
theorem firstM_step (j i : Nat) (hi : i < 12) : firstM (12 * j + 1 + i + 1) = firstM (12 * j + 1 + i) + daysZ (2000 + j) ((i + 1 : Nat) : Int) := by
  obtain ⟨h1, h2⟩ := stM_ym (12 * j + 1 + i)
  rw [firstM_succ, h1, h2, show (12 * j + 1 + i + 11) / 12 - 0 = j + 1 by omega, show (12 * j + 1 + i + 11) % 12 + 1 = i + 1 by omega]
  congr 2
  omega
theorem leap_here (j : Nat) (hj : j < 100) : leapB (2000 + j) = decide (j % 4 = 0) := by
  unfold leapB
  by_cases h : j % 4 = 0
  · rw [decide_eq_true h]
    by_cases h0 : j = 0
    · subst h0; decide
    · have e1 : ((2000 + (j : Int)) % 4 == 0) = true := by rw [beq_iff_eq]; omega
      have e2 : ((2000 + (j : Int)) % 100 != 0) = true := by rw [bne_iff_ne]; omega
      rw [e1, e2]; rfl
  · rw [decide_eq_false h]
    have e1 : ((2000 + (j : Int)) % 4 == 0) = false := by rw [beq_eq_false_iff_ne]; omega
    have e2 : ((2000 + (j : Int)) % 400 == 0) = false := by rw [beq_eq_false_iff_ne]; omega
    rw [e1, e2]; rfl
theorem daysY (y : Int) (h : 1 ≤ y ∧ y ≤ 9999) : daysZ y 1 = 31 ∧ daysZ y 2 = (if leapB y = true then 29 else 28) ∧ daysZ y 3 = 31 ∧ daysZ y 4 = 30 ∧ daysZ y 5 = 31 ∧ daysZ y 6 = 30 ∧ daysZ y 7 = 31 ∧ daysZ y 8 = 31 ∧ daysZ y 9 = 30 ∧ daysZ y 10 = 31 ∧ daysZ y 11 = 30 ∧ daysZ y 12 = 31 := by
  have h1 : ¬ (y < 1) := by omega
  have h2 : ¬ (9999 < y) := by omega
  refine ⟨?_, ?_, ?_, ?_, ?_, ?_, ?_, ?_, ?_, ?_, ?_, ?_⟩ <;> simp [daysZ, h1, h2, lenL]
theorem quart (j : Nat) (h : ¬ j % 4 = 0) : ((j : Int) + 1 + 3) / 4 = ((j : Int) + 3) / 4 := by
  obtain ⟨d, r, rfl, h1, h2⟩ : ∃ d r : Nat, j = 4 * d + r ∧ 1 ≤ r ∧ r ≤ 3 := ⟨j / 4, j % 4, by omega, by omega, by omega⟩
  rw [show (((4 * d + r : Nat) : Int) + 1 + 3) = ((r : Int) + 4) + 4 * (d : Int) by omega, show (((4 * d + r : Nat) : Int) + 3) = ((r : Int) + 3) + 4 * (d : Int) by omega, Int.add_mul_ediv_left _ _ (by omega), Int.add_mul_ediv_left _ _ (by omega)]
  match r, h1, h2 with
  | 1, _, _ | 2, _, _ | 3, _, _ => rfl
theorem firstM_year (j : Nat) (hj : j ≤ 100) : firstM (12 * j + 1) = 365 * (j : Int) + ((j : Int) + 3) / 4 := by
  induction j with
  | zero => decide
  | succ j ih =>
    have := ih (by omega)
    obtain ⟨d1, d2, d3, d4, d5, d6, d7, d8, d9, d10, d11, d12⟩ := daysY (2000 + j) (by omega)
    rw [leap_here j (by omega)] at d2
    have s := firstM_step j
    have s0 := s 0 (by omega)
    have s1 := s 1 (by omega)
    have s2 := s 2 (by omega)
    have s3 := s 3 (by omega)
    have s4 := s 4 (by omega)
    have s5 := s 5 (by omega)
    have s6 := s 6 (by omega)
    have s7 := s 7 (by omega)
    have s8 := s 8 (by omega)
    have s9 := s 9 (by omega)
    have s10 := s 10 (by omega)
    have s11 := s 11 (by omega)
    simp only [Nat.reduceAdd, Int.cast_ofNat_Int, Nat.add_assoc] at s0 s1 s2 s3 s4 s5 s6 s7 s8 s9 s10 s11
    rw [show 12 * (j + 1) + 1 = 12 * j + 13 by omega]
    have ec : (((j + 1 : Nat) : Int)) = (j : Int) + 1 := by omega
    rw [ec]
    simp only [d1, d2, d3, d4, d5, d6, d7, d8, d9, d10, d11, d12] at s0 s1 s2 s3 s4 s5 s6 s7 s8 s9 s10 s11
    by_cases h : j % 4 = 0
    · simp only [h, decide_true, if_true] at s1
      have : ((j : Int) + 1 + 3) / 4 = ((j : Int) + 3) / 4 + 1 := by omega
      omega
    · simp only [h, decide_false, Bool.false_eq_true, if_false] at s1
      have := quart j h
      omega
theorem firstM_end : firstM 1201 = 36525 := firstM_year 100 (by omega)

/-- the month of a day -/
def mIdx (day : Int) : Nat := ((List.range 1201).find? (fun k => decide (day < firstM (k + 1)))).getD 0
theorem mIdx_of {day : Int} {k : Nat} (hk : k < 1201) (h0 : firstM k ≤ day) (h1 : day < firstM (k + 1)) : (List.range 1201).find? (fun k => decide (day < firstM (k + 1))) = some k := by
  have hr : List.range 1201 = List.range k ++ (k :: (List.range' (k + 1) (1200 - k))) := by
    have : List.range 1201 = List.range' 0 k ++ List.range' k (1201 - k) := by
      rw [List.range_eq_range']
      have := List.range'_append_1 (s := 0) (m := k) (n := 1201 - k)
      rw [Nat.zero_add] at this
      rw [this]
      congr 1
      omega
    rw [this, ← List.range_eq_range', show 1201 - k = (1200 - k) + 1 by omega, List.range'_succ]
  rw [hr, List.find?_append, List.find?_eq_none.2]
  · simp [h1]
  · intro j hj
    have hj := List.mem_range.1 hj
    have := firstM_mono (i := j + 1) (n := k) (by omega) (by omega)
    simp only [decide_eq_true_eq]
    omega
theorem mIdx_eq {day : Int} {k : Nat} (hk : k < 1201) (h0 : firstM k ≤ day) (h1 : day < firstM (k + 1)) : mIdx day = k := by
  unfold mIdx
  rw [mIdx_of hk h0 h1]
  rfl
theorem mIdx_spec {day : Int} (h0 : -31 ≤ day) (h1 : day < 36525) : mIdx day < 1201 ∧ firstM (mIdx day) ≤ day ∧ day < firstM (mIdx day + 1) ∧ foundR (fun k => decide (day < firstM (k + 1))) = (stM (mIdx day), true) := by
  obtain ⟨k, hk, a, b, _⟩ := monthOf day 1201 (by omega) h0 (by rw [firstM_end]; exact h1)
  rw [mIdx_eq hk a b]
  refine ⟨hk, a, b, ?_⟩
  unfold foundR
  rw [mIdx_of hk a b]
/-- the number of a month -/
def kOf (y m : Int) : Int := 12 * (y - 1999) + m - 12
theorem find_ym (y m : Int) : foundR (fun k => (stM k).1 == y && (stM k).2.1 == m) = if 1 ≤ m ∧ m ≤ 12 ∧ 0 ≤ kOf y m ∧ kOf y m ≤ 1200 then (stM (kOf y m).toNat, true) else ((0, 0, 0), false) := by
  have key : ∀ k : Nat, k < 1201 → (((stM k).1 == y && (stM k).2.1 == m) = true ↔ (1 ≤ m ∧ m ≤ 12 ∧ kOf y m = k)) := by
    intro k hk
    obtain ⟨h1, h2⟩ := stM_ym k
    rw [Bool.and_eq_true, beq_iff_eq, beq_iff_eq, h1, h2]
    unfold kOf
    omega
  unfold foundR
  split
  next k h =>
    have h1 := List.find?_some h
    have h2 := List.mem_range.1 (List.mem_of_find?_eq_some h)
    obtain ⟨a, b, c⟩ := (key k h2).1 h1
    rw [if_pos (by omega), c]
    rfl
  next h =>
    rw [if_neg]
    rintro ⟨a, b, c, d⟩
    have := List.find?_eq_none.1 h (kOf y m).toNat (List.mem_range.2 (by omega))
    exact this ((key _ (by omega)).2 ⟨a, b, by omega⟩)
theorem kOf_st (k : Nat) : kOf (stM k).1 (stM k).2.1 = k := by
  obtain ⟨h1, h2⟩ := stM_ym k
  unfold kOf
  omega
end Go.Proofs.YtdldokhiefeloaaDoor
