/- Numbers in words: what the reference says is what the tongues say. -/
import Derived.Test.YtebdpdmkehfgfaaDoorWordPre
set_option linter.unusedVariables false
set_option linter.unusedSimpArgs false
namespace Go.Proofs.YtebdpdmkehfgfaaDoor
namespace Wo
def rlast (k n : Nat) (ends : Bool) : B := if n % 10 = 1 ∧ k = 1 ∧ ends = false then ein else if n % 10 = 1 ∧ k = 2 ∧ ends = false then un else (ones k).getD (n % 10) []
def rten (k n : Nat) : B := (tens k).getD (n / 10 - 2) []
def rbelow (k n : Nat) (ends : Bool) : List B :=
  if n = 1 then [rlast k n ends] else if n < 20 then [(ones k).getD n []] else if n % 10 = 0 then [rten k n]
  else if k = 1 then [(if n % 10 = 1 then ein else rlast k n ends) ++ und ++ rten k n]
  else if k = 2 ∧ n < 30 then [veinti ++ rlast k n ends] else if k = 2 then [rten k n, yy, rlast k n ends] else [rten k n ++ [45] ++ rlast k n ends]
def rrest (k n : Nat) (ends : Bool) : List B := if n % 100 > 0 then rbelow k (n % 100) ends else []
def rsmall (k n : Nat) (ends : Bool) : List B :=
  if n < 100 then rrest k n ends
  else if k = 1 then [(rbelow 1 (n / 100) false).headD [] ++ hundert ++ (rrest k n ends).headD []]
  else if k = 2 then (if n = 100 then [cien] else hundreds.getD (n / 100 - 1) [] :: rrest k n ends)
  else (ones 0).getD (n / 100) [] :: hundred :: rrest k n ends
def rthousand (k q : Nat) : List B :=
  if k = 1 then [(rsmall 1 q false).headD [] ++ tausend] else if k = 2 then (if q = 1 then [mil] else rsmall 2 q false ++ [mil]) else rsmall 0 q false ++ [thousand]
def rwords (k n : Nat) : List B := if n = 0 then [(ones k).headD []] else (if n ≥ 1000 then rthousand k (n / 1000) else []) ++ (if n % 1000 > 0 then rsmall k (n % 1000) true else [])
set_option maxRecDepth 100000 in
theorem r_small0 {m : Nat} (h : m < 1000) (h0 : 0 < m) : rsmall 0 m true = words 0 m ∧ rthousand 0 m = words 0 (1000 * m) := by
  have k := below (p := fun m => m == 0 || decide (rsmall 0 m true = words 0 m ∧ rthousand 0 m = words 0 (1000 * m))) (N := 1000) (by decide +kernel) h
  rcases Bool.or_eq_true_iff.1 k with k | k
  · have := beq_iff_eq.1 k
    omega
  · exact of_decide_eq_true k
set_option maxRecDepth 100000 in
theorem r_small1 {m : Nat} (h : m < 1000) (h0 : 0 < m) : rsmall 1 m true = words 1 m ∧ rthousand 1 m = words 1 (1000 * m) := by
  have k := below (p := fun m => m == 0 || decide (rsmall 1 m true = words 1 m ∧ rthousand 1 m = words 1 (1000 * m))) (N := 1000) (by decide +kernel) h
  rcases Bool.or_eq_true_iff.1 k with k | k
  · have := beq_iff_eq.1 k
    omega
  · exact of_decide_eq_true k
set_option maxRecDepth 100000 in
theorem r_small2 {m : Nat} (h : m < 1000) (h0 : 0 < m) : rsmall 2 m true = words 2 m ∧ rthousand 2 m = words 2 (1000 * m) := by
  have k := below (p := fun m => m == 0 || decide (rsmall 2 m true = words 2 m ∧ rthousand 2 m = words 2 (1000 * m))) (N := 1000) (by decide +kernel) h
  rcases Bool.or_eq_true_iff.1 k with k | k
  · have := beq_iff_eq.1 k
    omega
  · exact of_decide_eq_true k
theorem r_small {k : Nat} (hk : k < 3) {m : Nat} (h : m < 1000) (h0 : 0 < m) : rsmall k m true = words k m ∧ rthousand k m = words k (1000 * m) := by
  rcases (show k = 0 ∨ k = 1 ∨ k = 2 by omega) with rfl | rfl | rfl
  · exact r_small0 h h0
  · exact r_small1 h h0
  · exact r_small2 h h0
/-- the reference's words are the tongues' -/
theorem rwords_is {k : Nat} (hk : k < 3) {n : Nat} (h : n < 1000000) : rwords k n = words k n := by
  unfold rwords
  by_cases h0 : n = 0
  · subst h0
    rw [if_pos rfl]
    rcases (show k = 0 ∨ k = 1 ∨ k = 2 by omega) with rfl | rfl | rfl <;> decide +kernel
  · rw [if_neg h0]
    by_cases h1 : n ≥ 1000
    · rw [if_pos h1]
      have s := (r_small hk (m := n / 1000) (by omega) (by omega)).2
      by_cases hz : n % 1000 > 0
      · rw [if_pos hz, s, (r_small hk (m := n % 1000) (by omega) hz).1, words_split k h1 (by omega), show 1000 * (n / 1000) = n - n % 1000 by omega]
      · rw [if_neg hz, s, List.append_nil, show 1000 * (n / 1000) = n by omega]
    · rw [if_neg h1, if_pos (by omega), List.nil_append, show n % 1000 = n by omega]
      exact (r_small hk (by omega) (by omega)).1
end Wo
end Go.Proofs.YtebdpdmkehfgfaaDoor
