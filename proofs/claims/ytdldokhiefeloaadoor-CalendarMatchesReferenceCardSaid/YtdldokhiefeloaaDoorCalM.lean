/- The months as mathematics: the k-th of them, and which has a day. -/
import Derived.Test.YtdldokhiefeloaaDoorCalC
namespace Go.Proofs.YtdldokhiefeloaaDoor
open Go.RowKit

def nextM (x : Int × Int × Int) : Int × Int × Int := (if x.2.1 = 12 then x.1 + 1 else x.1, if x.2.1 = 12 then 1 else x.2.1 + 1, x.2.2 + daysZ x.1 x.2.1)
def stM : Nat → Int × Int × Int
  | 0 => (1999, 12, -31)
  | k + 1 => nextM (stM k)
theorem stM_ym (k : Nat) : (stM k).1 = 1999 + (((k + 11) / 12 - 0 : Nat) : Int) ∧ (stM k).2.1 = (((k + 11) % 12 + 1 : Nat) : Int) := by
  induction k with
  | zero => exact ⟨rfl, rfl⟩
  | succ k ih =>
    obtain ⟨h1, h2⟩ := ih
    show (if (stM k).2.1 = 12 then (stM k).1 + 1 else (stM k).1) = _ ∧ (if (stM k).2.1 = 12 then 1 else (stM k).2.1 + 1) = _
    rw [h1, h2]
    by_cases hc : (k + 11) % 12 = 11
    · rw [if_pos (by omega), if_pos (by omega)]
      omega
    · rw [if_neg (by omega), if_neg (by omega)]
      omega
def firstM (k : Nat) : Int := (stM k).2.2
theorem firstM_succ (k : Nat) : firstM (k + 1) = firstM k + daysZ (stM k).1 (stM k).2.1 := rfl
theorem daysZ_low {y m : Int} (h : 1 ≤ y ∧ y ≤ 9999 ∧ 1 ≤ m ∧ m ≤ 12) : 28 ≤ daysZ y m := by
  unfold daysZ
  rw [if_neg (by omega)]
  split
  · omega
  · obtain ⟨k, hk⟩ : ∃ k : Nat, (m - 1).toNat = k := ⟨_, rfl⟩
    rw [hk]
    match k, (show k < 12 by omega) with
    | 0, _ | 1, _ | 2, _ | 3, _ | 4, _ | 5, _ | 6, _ | 7, _ | 8, _ | 9, _ | 10, _ | 11, _ => decide
theorem daysM_bd (k : Nat) (hk : k ≤ 1300) : 28 ≤ daysZ (stM k).1 (stM k).2.1 ∧ daysZ (stM k).1 (stM k).2.1 ≤ 31 := by
  obtain ⟨h1, h2⟩ := stM_ym k
  exact ⟨daysZ_low (by rw [h1, h2]; omega), (daysZ_bd _ _).2⟩
theorem firstM_bd (k : Nat) (hk : k ≤ 1300) : -31 + 28 * (k : Int) ≤ firstM k ∧ firstM k ≤ -31 + 31 * (k : Int) := by
  induction k with
  | zero => exact ⟨by decide, by decide⟩
  | succ k ih =>
    have h := ih (by omega)
    have d := daysM_bd k (by omega)
    rw [firstM_succ]
    omega
theorem lastM (k : Nat) : (stM k).1 < 2100 ↔ k < 1201 := by
  obtain ⟨h1, _⟩ := stM_ym k
  omega
/-- The first month that ends behind a day. -/
theorem monthOf (day : Int) (n : Nat) (hn : n ≤ 1300) (h0 : -31 ≤ day) (h1 : day < firstM n) : ∃ k, k < n ∧ firstM k ≤ day ∧ day < firstM (k + 1) ∧ ∀ j, j < k → firstM (j + 1) ≤ day := by
  induction n with
  | zero =>
    have : firstM 0 = -31 := rfl
    omega
  | succ n ih =>
    by_cases h : day < firstM n
    · obtain ⟨k, hk, r⟩ := ih (by omega) h
      exact ⟨k, by omega, r⟩
    · refine ⟨n, by omega, by omega, h1, fun j hj => ?_⟩
      have mono : ∀ i, i ≤ n → firstM i ≤ firstM n := by
        intro i hi
        obtain ⟨e, rfl⟩ := Nat.exists_eq_add_of_le hi
        clear h1 h ih hj hi
        induction e with
        | zero => exact Int.le_refl _
        | succ e ih2 =>
          have d := daysM_bd (i + e) (by omega)
          have := ih2 (by omega)
          have e1 : firstM (i + (e + 1)) = firstM (i + e) + daysZ (stM (i + e)).1 (stM (i + e)).2.1 := firstM_succ _
          omega
      have := mono (j + 1) (by omega)
      omega
end Go.Proofs.YtdldokhiefeloaaDoor
