/- Numbers among other words: what is found is the longest. -/
import Derived.Test.YtebdpdmkehfgfaaDoorWordRef
set_option linter.unusedVariables false
set_option linter.unusedSimpArgs false
namespace Go.Proofs.YtebdpdmkehfgfaaDoor
namespace Wo
theorem run_ge (k : Nat) : ∀ (c : Nat) (a t : List B), (∀ s ∈ a, isW k s = true) → a.length ≤ c → a.length ≤ run k c (a ++ t)
  | _, [], _, _, _ => Nat.zero_le _
  | 0, _ :: _, _, _, hc => by simp at hc
  | c + 1, s :: a, t, ha, hc => by
    show a.length + 1 ≤ (if isW k s then run k c (a ++ t) + 1 else 0)
    rw [ha s List.mem_cons_self]
    have := run_ge k c a t (fun x hx => ha x (List.mem_cons_of_mem _ hx)) (by simp at hc; omega)
    simp only [if_true]
    omega
theorem best_max (k : Nat) (l : List B) {m n : Nat} (hm : 1 ≤ m) (e : number k (l.take m) = some n) : ∀ c, m ≤ c → ∃ n' m', best k l c = some (n', m') ∧ m ≤ m'
  | 0, h => by omega
  | c + 1, h => by
    unfold best
    cases e2 : number k (l.take (c + 1)) with
    | some x => exact ⟨x, c + 1, rfl, h⟩
    | none =>
      by_cases hc : m = c + 1
      · subst hc
        rw [e] at e2
        cases e2
      · exact best_max k l hm e c (by omega)
/-- words that stand at an index are no longer than what is found there -/
theorem pre_max {k : Nat} (hk : k < 3) {n : Nat} (h : n < 1000000) {l t : List B} {at0 : Nat} (hp : l.drop at0 = words k n ++ t) : ∃ n' m', pre k l at0 = some (n', m') ∧ (words k n).length ≤ m' ∧ ((words k n).length = m' → n = n') := by
  have hl := words_len k h
  have r := run_ge k 9 (words k n) t (fun s hs => (words_is k hk h s hs).1) hl.2
  have e : number k ((l.drop at0).take (words k n).length) = some n := by rw [hp, List.take_left]; exact number_words k h
  obtain ⟨n', m', b, hm⟩ := best_max k (l.drop at0) hl.1 e (run k 9 (l.drop at0)) (by rw [hp]; exact r)
  refine ⟨n', m', b, hm, fun he => ?_⟩
  obtain ⟨-, -, h3, h4⟩ := best_some k _ _ b
  rw [← he, hp, List.take_left] at h4
  exact words_inj k h h3 h4.symm
/-- nothing is found where no number's words stand -/
theorem pre_none {k : Nat} {l : List B} {at0 : Nat} (h : ∀ n t, n < 1000000 → l.drop at0 ≠ words k n ++ t) : pre k l at0 = none := by
  cases e : pre k l at0 with
  | none => rfl
  | some x =>
    obtain ⟨n, m⟩ := x
    obtain ⟨-, -, h3, h4⟩ := pre_is k l at0 e
    exact absurd (by rw [h4, List.take_append_drop]) (h n ((l.drop at0).drop m) h3)
set_option maxRecDepth 100000 in
theorem first_ne0 {m : Nat} (h : m < 1000) (h0 : 0 < m) : (words 0 m).head? ≠ (words 0 0).head? ∧ (words 0 (1000 * m)).head? ≠ (words 0 0).head? := by
  have k := below (p := fun m => m == 0 || decide ((words 0 m).head? ≠ (words 0 0).head? ∧ (words 0 (1000 * m)).head? ≠ (words 0 0).head?)) (N := 1000) (by decide +kernel) h
  rcases Bool.or_eq_true_iff.1 k with k | k
  · have := beq_iff_eq.1 k
    omega
  · exact of_decide_eq_true k
set_option maxRecDepth 100000 in
theorem first_ne1 {m : Nat} (h : m < 1000) (h0 : 0 < m) : (words 1 m).head? ≠ (words 1 0).head? ∧ (words 1 (1000 * m)).head? ≠ (words 1 0).head? := by
  have k := below (p := fun m => m == 0 || decide ((words 1 m).head? ≠ (words 1 0).head? ∧ (words 1 (1000 * m)).head? ≠ (words 1 0).head?)) (N := 1000) (by decide +kernel) h
  rcases Bool.or_eq_true_iff.1 k with k | k
  · have := beq_iff_eq.1 k
    omega
  · exact of_decide_eq_true k
set_option maxRecDepth 100000 in
theorem first_ne2 {m : Nat} (h : m < 1000) (h0 : 0 < m) : (words 2 m).head? ≠ (words 2 0).head? ∧ (words 2 (1000 * m)).head? ≠ (words 2 0).head? := by
  have k := below (p := fun m => m == 0 || decide ((words 2 m).head? ≠ (words 2 0).head? ∧ (words 2 (1000 * m)).head? ≠ (words 2 0).head?)) (N := 1000) (by decide +kernel) h
  rcases Bool.or_eq_true_iff.1 k with k | k
  · have := beq_iff_eq.1 k
    omega
  · exact of_decide_eq_true k
theorem first_ne {k : Nat} (hk : k < 3) {m : Nat} (h : m < 1000) (h0 : 0 < m) : (words k m).head? ≠ (words k 0).head? ∧ (words k (1000 * m)).head? ≠ (words k 0).head? := by
  rcases (show k = 0 ∨ k = 1 ∨ k = 2 by omega) with rfl | rfl | rfl
  · exact first_ne0 h h0
  · exact first_ne1 h h0
  · exact first_ne2 h h0
/-- no other number's words begin with the word for zero -/
theorem zero_first {k : Nat} (hk : k < 3) {n : Nat} (h : n < 1000000) (e : (words k n).head? = (words k 0).head?) : n = 0 := by
  apply Classical.byContradiction
  intro h0
  by_cases h1 : n < 1000
  · exact (first_ne hk h1 (by omega)).1 e
  · by_cases hz : n % 1000 = 0
    · have := (first_ne hk (m := n / 1000) (by omega) (by omega)).2
      rw [show 1000 * (n / 1000) = n by omega] at this
      exact this e
    · have := (first_ne hk (m := n / 1000) (by omega) (by omega)).2
      rw [show 1000 * (n / 1000) = n - n % 1000 by omega] at this
      rw [words_split k (by omega) hz] at e
      have l := (words_len k (n := n - n % 1000) (by omega)).1
      cases q : words k (n - n % 1000) with
      | nil => rw [q] at l; simp at l
      | cons a r =>
        rw [q] at e this
        exact this e
end Wo
end Go.Proofs.YtebdpdmkehfgfaaDoor
