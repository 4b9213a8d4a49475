/- The reference's Is: its short cuts leave no word out. -/
import Derived.Test.YtebdpdmkehfgfaaDoorWoRN
import Derived.Test.YtebdpdmkehfgfaaDoorWoGW
set_option linter.unusedVariables false
set_option linter.unusedSimpArgs false
namespace Go.Proofs.YtebdpdmkehfgfaaDoor
open Go.RowKit
namespace Wo
/-- begins a text with a letter that number words begin with? -/
def firstB (k : Nat) (s : B) : Bool := match s with
  | [] => false
  | c :: _ => (firsts k).contains c
theorem letters_any {k m : Nat} (hk : k < 3) (h : m < 1000) {s : B} (hs : s ∈ both k m) : firstB k s = true := by
  rcases (show k = 0 ∨ k = 1 ∨ k = 2 by omega) with rfl | rfl | rfl
  · exact List.all_eq_true.1 (letters0 h) s hs
  · exact List.all_eq_true.1 (letters1 h) s hs
  · exact List.all_eq_true.1 (letters2 h) s hs
theorem short_any {k m : Nat} (hk : k < 3) (h : m < 1000) (h0 : 0 < m) {s : B} (hs : s ∈ both k m) : hasH s = true ∨ s ∈ both k (m / 100 * 100) ∨ s ∈ both k (m / 100 * 100 + 1) ∨ s ∈ both k (m % 100) := by
  have g : (hasH s || (both k (m / 100 * 100)).contains s || (both k (m / 100 * 100 + 1)).contains s || (both k (m % 100)).contains s) = true := by
    rcases (show k = 0 ∨ k = 1 ∨ k = 2 by omega) with rfl | rfl | rfl
    · exact List.all_eq_true.1 (short0 h h0) s hs
    · exact List.all_eq_true.1 (short1 h h0) s hs
    · exact List.all_eq_true.1 (short2 h h0) s hs
  rw [Bool.or_eq_true_iff, Bool.or_eq_true_iff, Bool.or_eq_true_iff] at g
  rcases g with ((g | g) | g) | g
  · exact .inl g
  · exact .inr (.inl (List.contains_iff_mem.1 g))
  · exact .inr (.inr (.inl (List.contains_iff_mem.1 g)))
  · exact .inr (.inr (.inr (List.contains_iff_mem.1 g)))
theorem both_mem {k m : Nat} {s : B} : s ∈ both k m ↔ s ∈ words k m ∨ s ∈ words k (1000 * m) := List.mem_append
theorem both_zero {k : Nat} {s : B} (h : s ∈ both k 0) : s ∈ words k 0 := by
  rcases both_mem.1 h with h | h
  · exact h
  · exact h
/-- has a number before N a word s, as the reference's Is asks? -/
def Fd (k : Nat) (s : B) (N : Nat) : Prop := ∃ m, 0 < m ∧ m < N ∧ (asked m = true ∨ hasH s = true) ∧ s ∈ both k m
theorem asked_yes {m : Nat} (h : m ≤ 99 ∨ m % 100 ≤ 1) : asked m = true := by
  unfold asked
  rw [Bool.not_eq_true', Bool.and_eq_false_iff]
  rcases h with h | h
  · exact .inl (decide_eq_false (by omega))
  · exact .inr (decide_eq_false (by omega))
theorem rIs_iff {k : Nat} (hk : k < 3) (s : B) : isW k s = true ↔ firstB k s = true ∧ (s ∈ words k 0 ∨ Fd k s 1000) := by
  rw [is_iff hk]
  constructor
  · intro h
    rcases h with h | ⟨m, h0, h1, h2⟩
    · exact ⟨letters_any hk (m := 0) (by decide) (both_mem.2 (.inl h)), .inl h⟩
    · have hb : s ∈ both k m := both_mem.2 h2
      refine ⟨letters_any hk h1 hb, ?_⟩
      rcases short_any hk h1 h0 hb with g | g | g | g
      · exact .inr ⟨m, h0, h1, .inr g, hb⟩
      · by_cases hz : m / 100 * 100 = 0
        · rw [hz] at g
          exact .inl (both_zero g)
        · exact .inr ⟨m / 100 * 100, by omega, by omega, .inl (asked_yes (.inr (by omega))), g⟩
      · exact .inr ⟨m / 100 * 100 + 1, by omega, by omega, .inl (asked_yes (.inr (by omega))), g⟩
      · by_cases hz : m % 100 = 0
        · rw [hz] at g
          exact .inl (both_zero g)
        · exact .inr ⟨m % 100, by omega, by omega, .inl (asked_yes (.inl (by omega))), g⟩
  · rintro ⟨-, h | ⟨m, h0, h1, -, hb⟩⟩
    · exact .inl h
    · exact .inr ⟨m, h0, h1, both_mem.1 hb⟩
theorem fd_zero (k : Nat) (s : B) : ¬ Fd k s 1 := fun ⟨m, h0, h1, _⟩ => by omega
theorem fd_skip {k : Nat} {s : B} {N : Nat} (h : ¬ Fd k s N) (hN : asked N = false) (hl : hasH s = false) : ¬ Fd k s (N + 1) := fun ⟨m, h0, h1, h2, h3⟩ => by
  rcases Nat.lt_succ_iff_lt_or_eq.1 h1 with h4 | rfl
  · exact h ⟨m, h0, h4, h2, h3⟩
  · rcases h2 with h2 | h2
    · rw [hN] at h2
      cases h2
    · rw [hl] at h2
      cases h2
theorem fd_not {k : Nat} {s : B} {N : Nat} (h : ¬ Fd k s N) (h1 : ∀ i, i < (words k N).length → (words k N).getD i [] ≠ s) (h2 : ∀ i, i < (words k (1000 * N)).length → (words k (1000 * N)).getD i [] ≠ s) : ¬ Fd k s (N + 1) := fun ⟨m, h0, h3, h4, h5⟩ => by
  rcases Nat.lt_succ_iff_lt_or_eq.1 h3 with h6 | rfl
  · exact h ⟨m, h0, h6, h4, h5⟩
  · rcases both_mem.1 h5 with h | h
    · obtain ⟨i, hi, e⟩ := List.getElem_of_mem h
      exact h1 i hi (by rw [List.getD_eq_getElem?_getD, List.getElem?_eq_getElem hi]; exact e)
    · obtain ⟨i, hi, e⟩ := List.getElem_of_mem h
      exact h2 i hi (by rw [List.getD_eq_getElem?_getD, List.getElem?_eq_getElem hi]; exact e)
theorem fd_yes {k : Nat} {s : B} {N i : Nat} (h0 : 0 < N) (h9 : N < 1000) (ha : asked N = true ∨ hasH s = true) (h : (i < (words k N).length ∧ (words k N).getD i [] = s) ∨ (i < (words k (1000 * N)).length ∧ (words k (1000 * N)).getD i [] = s)) : Fd k s 1000 := by
  refine ⟨N, h0, h9, ha, both_mem.2 ?_⟩
  rcases h with ⟨hi, e⟩ | ⟨hi, e⟩
  · refine .inl ?_
    rw [← e, List.getD_eq_getElem?_getD, List.getElem?_eq_getElem hi]
    exact List.getElem_mem hi
  · refine .inr ?_
    rw [← e, List.getD_eq_getElem?_getD, List.getElem?_eq_getElem hi]
    exact List.getElem_mem hi
end Wo
end Go.Proofs.YtebdpdmkehfgfaaDoor
