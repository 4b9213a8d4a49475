/- Numbers in words: a number found within other words; names of months and days. (Made by a script from the program's tables: see NOTES.md.) -/
import Derived.Test.YtebdpdmkehfgfaaDoorWordMore
set_option linter.unusedVariables false
set_option linter.unusedSimpArgs false
namespace Go.Proofs.YtebdpdmkehfgfaaDoor
namespace Wo
/-- how many number words a list begins with, at most c -/
def run (k : Nat) : Nat → List B → Nat
  | 0, _ => 0
  | _ + 1, [] => 0
  | c + 1, s :: l => if isW k s then run k c l + 1 else 0
/-- the number with the most words, at most c, at the head of a list -/
def best (k : Nat) (l : List B) : Nat → Option (Nat × Nat)
  | 0 => none
  | c + 1 => match number k (l.take (c + 1)) with
    | some n => some (n, c + 1)
    | none => best k l c
def pre (k : Nat) (l : List B) (at0 : Nat) : Option (Nat × Nat) := best k (l.drop at0) (run k 9 (l.drop at0))
theorem run_app (k : Nat) : ∀ (c : Nat) (l t : List B), (∀ s ∈ l, isW k s = true) → l.length ≤ c → (∀ s r, t = s :: r → isW k s = false) → run k c (l ++ t) = l.length
  | 0, l, t, _, hc, _ => by
    have : l = [] := List.length_eq_zero_iff.1 (by omega)
    subst this
    rfl
  | c + 1, [], t, _, _, ht => by
    cases t with
    | nil => rfl
    | cons s r => show (if isW k s then run k c r + 1 else 0) = 0; rw [ht s r rfl]; rfl
  | c + 1, s :: l, t, hl, hc, ht => by
    show (if isW k s then run k c (l ++ t) + 1 else 0) = l.length + 1
    rw [hl s List.mem_cons_self, run_app k c l t (fun x hx => hl x (List.mem_cons_of_mem _ hx)) (by simp at hc; omega) ht]
    rfl
theorem best_some (k : Nat) (l : List B) : ∀ (c : Nat) {n m : Nat}, best k l c = some (n, m) → 1 ≤ m ∧ m ≤ c ∧ n < 1000000 ∧ words k n = l.take m
  | 0, n, m, h => by cases h
  | c + 1, n, m, h => by
    unfold best at h
    cases e : number k (l.take (c + 1)) with
    | some x =>
      rw [e] at h
      cases h
      obtain ⟨h1, h2⟩ := number_some e
      exact ⟨by omega, by omega, h1, h2⟩
    | none =>
      rw [e] at h
      obtain ⟨h1, h2, h3⟩ := best_some k l c h
      exact ⟨h1, by omega, h3⟩
theorem run_len (k : Nat) : ∀ (c : Nat) (l : List B), run k c l ≤ l.length ∧ run k c l ≤ c
  | 0, l => ⟨Nat.zero_le _, Nat.le_refl _⟩
  | c + 1, [] => ⟨Nat.le_refl _, Nat.zero_le _⟩
  | c + 1, s :: l => by
    show (if isW k s then run k c l + 1 else 0) ≤ l.length + 1 ∧ (if isW k s then run k c l + 1 else 0) ≤ c + 1
    have := run_len k c l
    split <;> omega
/-- THE LAYER'S OTHER THEOREM on the mathematics: a number's words are found among others -/
theorem pre_found (k : Nat) (hk : k < 3) {n : Nat} (h : n < 1000000) (head tail : List B) (ht : ∀ s r, tail = s :: r → isW k s = false) : pre k (head ++ words k n ++ tail) head.length = some (n, (words k n).length) := by
  unfold pre
  have l := words_len k h
  rw [List.append_assoc, List.drop_left, run_app k 9 _ tail (fun s hs => (words_is k hk h s hs).1) l.2 ht]
  obtain ⟨c, hc⟩ : ∃ c, (words k n).length = c + 1 := ⟨(words k n).length - 1, by omega⟩
  rw [hc]
  unfold best
  rw [← hc, List.take_left, number_words k h]
/-- what is found are the words that stand there -/
theorem pre_is (k : Nat) (l : List B) (at0 : Nat) {n m : Nat} (h : pre k l at0 = some (n, m)) : 1 ≤ m ∧ at0 + m ≤ l.length ∧ n < 1000000 ∧ words k n = (l.drop at0).take m := by
  obtain ⟨h1, h2, h3, h4⟩ := best_some k _ _ h
  have := (run_len k 9 (l.drop at0)).1
  rw [List.length_drop] at this
  exact ⟨h1, by omega, h3, h4⟩
def months : Nat → List B
  | 0 => [[106, 97, 110, 117, 97, 114, 121], [102, 101, 98, 114, 117, 97, 114, 121], [109, 97, 114, 99, 104], [97, 112, 114, 105, 108], [109, 97, 121], [106, 117, 110, 101], [106, 117, 108, 121], [97, 117, 103, 117, 115, 116], [115, 101, 112, 116, 101, 109, 98, 101, 114], [111, 99, 116, 111, 98, 101, 114], [110, 111, 118, 101, 109, 98, 101, 114], [100, 101, 99, 101, 109, 98, 101, 114]]
  | 1 => [[106, 97, 110, 117, 97, 114], [102, 101, 98, 114, 117, 97, 114], [109, 97, 101, 114, 122], [97, 112, 114, 105, 108], [109, 97, 105], [106, 117, 110, 105], [106, 117, 108, 105], [97, 117, 103, 117, 115, 116], [115, 101, 112, 116, 101, 109, 98, 101, 114], [111, 107, 116, 111, 98, 101, 114], [110, 111, 118, 101, 109, 98, 101, 114], [100, 101, 122, 101, 109, 98, 101, 114]]
  | _ => [[101, 110, 101, 114, 111], [102, 101, 98, 114, 101, 114, 111], [109, 97, 114, 122, 111], [97, 98, 114, 105, 108], [109, 97, 121, 111], [106, 117, 110, 105, 111], [106, 117, 108, 105, 111], [97, 103, 111, 115, 116, 111], [115, 101, 112, 116, 105, 101, 109, 98, 114, 101], [111, 99, 116, 117, 98, 114, 101], [110, 111, 118, 105, 101, 109, 98, 114, 101], [100, 105, 99, 105, 101, 109, 98, 114, 101]]
def days : Nat → List B
  | 0 => [[109, 111, 110, 100, 97, 121], [116, 117, 101, 115, 100, 97, 121], [119, 101, 100, 110, 101, 115, 100, 97, 121], [116, 104, 117, 114, 115, 100, 97, 121], [102, 114, 105, 100, 97, 121], [115, 97, 116, 117, 114, 100, 97, 121], [115, 117, 110, 100, 97, 121]]
  | 1 => [[109, 111, 110, 116, 97, 103], [100, 105, 101, 110, 115, 116, 97, 103], [109, 105, 116, 116, 119, 111, 99, 104], [100, 111, 110, 110, 101, 114, 115, 116, 97, 103], [102, 114, 101, 105, 116, 97, 103], [115, 97, 109, 115, 116, 97, 103], [115, 111, 110, 110, 116, 97, 103]]
  | _ => [[108, 117, 110, 101, 115], [109, 97, 114, 116, 101, 115], [109, 105, 101, 114, 99, 111, 108, 101, 115], [106, 117, 101, 118, 101, 115], [118, 105, 101, 114, 110, 101, 115], [115, 97, 98, 97, 100, 111], [100, 111, 109, 105, 110, 103, 111]]
/-- names are found back, are not empty and are no number words -/
theorem months_ok {k : Nat} (hk : k < 3) {i : Nat} (hi : i < 12) : ∃ s, (months k)[i]? = some s ∧ idx s (months k) = some i ∧ isW k s = false ∧ s ≠ [] := by
  have h := below (p := fun k => (List.range 12).all fun i => match (months k)[i]? with
    | some s => decide (idx s (months k) = some i) && (!isW k s) && decide (s ≠ [])
    | none => false) (N := 3) (by decide +kernel) hk
  have h2 := below (N := 12) h hi
  cases e : (months k)[i]? with
  | none => rw [e] at h2; cases h2
  | some s =>
    rw [e] at h2
    simp only [Bool.and_eq_true, decide_eq_true_eq, Bool.not_eq_true'] at h2
    exact ⟨s, rfl, h2.1.1, h2.1.2, h2.2⟩
/-- names are found back, are not empty and are no number words -/
theorem days_ok {k : Nat} (hk : k < 3) {i : Nat} (hi : i < 7) : ∃ s, (days k)[i]? = some s ∧ idx s (days k) = some i ∧ isW k s = false ∧ s ≠ [] := by
  have h := below (p := fun k => (List.range 7).all fun i => match (days k)[i]? with
    | some s => decide (idx s (days k) = some i) && (!isW k s) && decide (s ≠ [])
    | none => false) (N := 3) (by decide +kernel) hk
  have h2 := below (N := 7) h hi
  cases e : (days k)[i]? with
  | none => rw [e] at h2; cases h2
  | some s =>
    rw [e] at h2
    simp only [Bool.and_eq_true, decide_eq_true_eq, Bool.not_eq_true'] at h2
    exact ⟨s, rfl, h2.1.1, h2.1.2, h2.2⟩
end Wo
end Go.Proofs.YtebdpdmkehfgfaaDoor
