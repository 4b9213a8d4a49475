/- Which words are number words: those of the numbers below 1000 and of whole thousands. -/
import Derived.Test.YtebdpdmkehfgfaaDoorWordMax
set_option linter.unusedVariables false
set_option linter.unusedSimpArgs false
namespace Go.Proofs.YtebdpdmkehfgfaaDoor
namespace Wo
theorem is_iff {k : Nat} (hk : k < 3) (s : B) : isW k s = true ↔ s ∈ words k 0 ∨ ∃ m, 0 < m ∧ m < 1000 ∧ (s ∈ words k m ∨ s ∈ words k (1000 * m)) := by
  constructor
  · intro h
    unfold isW at h
    rcases Bool.or_eq_true_iff.1 h with h | h
    · obtain ⟨n, e⟩ := Option.isSome_iff_exists.1 h
      obtain ⟨h1, h2⟩ := number_some e
      have hs : s ∈ words k n := by rw [h2]; exact List.mem_cons_self
      by_cases h0 : n = 0
      · exact .inl (h0 ▸ hs)
      · by_cases h3 : n < 1000
        · exact .inr ⟨n, by omega, h3, .inl hs⟩
        · by_cases hz : n % 1000 = 0
          · exact .inr ⟨n / 1000, by omega, by omega, .inr (by rw [show 1000 * (n / 1000) = n by omega]; exact hs)⟩
          · have l := congrArg List.length (words_split k (n := n) (by omega) hz)
            rw [h2, List.length_append] at l
            have l1 := (words_len k (n := n - n % 1000) (by omega)).1
            have l2 := (words_len k (n := n % 1000) (by omega)).1
            simp at l
            omega
    · rcases (show k = 0 ∨ k = 1 ∨ k = 2 by omega) with rfl | rfl | rfl
      · unfold part at h
        simp only [Bool.or_eq_true, beq_iff_eq] at h
        rcases h with rfl | rfl
        · exact .inr ⟨100, by decide, by decide, .inl (by decide +kernel)⟩
        · exact .inr ⟨1, by decide, by decide, .inr (by decide +kernel)⟩
      · cases h
      · unfold part at h
        simp only [Bool.or_eq_true, beq_iff_eq] at h
        rcases h with (((rfl | rfl) | rfl) | rfl) | rfl
        · exact .inr ⟨31, by decide, by decide, .inl (by decide +kernel)⟩
        · exact .inr ⟨31, by decide, by decide, .inr (by decide +kernel)⟩
        · exact .inr ⟨21, by decide, by decide, .inr (by decide +kernel)⟩
        · exact .inr ⟨101, by decide, by decide, .inl (by decide +kernel)⟩
        · exact .inr ⟨1, by decide, by decide, .inr (by decide +kernel)⟩
  · rintro (h | ⟨m, h0, h1, h | h⟩)
    · exact (words_is k hk (n := 0) (by omega) s h).1
    · exact (words_is k hk (n := m) (by omega) s h).1
    · exact (words_is k hk (n := 1000 * m) (by omega) s h).1
end Wo
end Go.Proofs.YtebdpdmkehfgfaaDoor
