/- Numbers in words: what the laws ask of them. -/
import Derived.Test.YtebdpdmkehfgfaaDoorWordSpec
set_option linter.unusedVariables false
set_option linter.unusedSimpArgs false
namespace Go.Proofs.YtebdpdmkehfgfaaDoor
namespace Wo
theorem en_len {n : Nat} (h : n < 1000000) : 1 ≤ (en n).length ∧ (en n).length ≤ 9 := by
  have s := en_small (n := n / 1000) (by omega)
  have t := en_small (n := n % 1000) (by omega)
  unfold en
  by_cases h0 : n / 1000 > 0
  · rw [if_pos h0, List.length_append, List.length_cons]
    by_cases hz : n % 1000 = 0
    · rw [if_pos hz, List.length_nil]; omega
    · rw [if_neg hz]; omega
  · rw [if_neg h0, show n = n % 1000 by omega]; omega
theorem es_len {n : Nat} (h : n < 1000000) : 1 ≤ (es n).length ∧ (es n).length ≤ 9 := by
  have s := es_small (n := n / 1000) (by omega)
  have t := es_small (n := n % 1000) (by omega)
  unfold es
  by_cases h0 : n / 1000 > 0
  · rw [if_pos h0, List.length_append, List.length_cons]
    have h1 : (if n / 1000 > 1 then esLast (esS (n / 1000)) else []).length ≤ 4 := by
      by_cases h1 : n / 1000 > 1
      · rw [if_pos h1]; omega
      · rw [if_neg h1]; exact Nat.zero_le _
    by_cases hz : n % 1000 = 0
    · rw [if_pos hz, List.length_nil]; omega
    · rw [if_neg hz]; omega
  · rw [if_neg h0, show n = n % 1000 by omega]; omega
theorem de_len (n : Nat) : 1 ≤ (de n).length ∧ (de n).length ≤ 9 := by
  unfold de
  by_cases h0 : n < 1000
  · rw [if_pos h0]; simp
  · rw [if_neg h0, List.length_cons]
    by_cases hz : n % 1000 > 0
    · rw [if_pos hz]; simp
    · rw [if_neg hz]; simp
/-- the number whose words l are -/
def number (k : Nat) (l : List B) : Option Nat := if l.length = 0 ∨ l.length > 9 then none else if read k l < 0 ∨ read k l > 999999 ∨ words k (read k l).toNat ≠ l then none else some (read k l).toNat
theorem words_len (k : Nat) {n : Nat} (h : n < 1000000) : 1 ≤ (words k n).length ∧ (words k n).length ≤ 9 := match k with
  | 0 => en_len h
  | 1 => de_len n
  | _ + 2 => es_len h
theorem words_back (k : Nat) {n : Nat} (h : n < 1000000) : read k (words k n) = n := match k with
  | 0 => en_back h
  | 1 => de_back h
  | _ + 2 => es_back h
/-- THE LAYER'S THEOREM on the mathematics: a number's words are read back -/
theorem number_words (k : Nat) {n : Nat} (h : n < 1000000) : number k (words k n) = some n := by
  have e := words_back k h
  have l := words_len k h
  unfold number
  rw [if_neg (by omega), e, Int.toNat_natCast, if_neg (by
    rintro (a | a | a)
    · omega
    · omega
    · exact a rfl)]
theorem number_some {k n : Nat} {l : List B} (h : number k l = some n) : n < 1000000 ∧ words k n = l := by
  unfold number at h
  split at h
  · cases h
  · split at h
    · cases h
    · rename_i c
      have := Option.some.inj h
      subst this
      have c1 : ¬ read k l > 999999 := fun z => c (.inr (.inl z))
      exact ⟨by omega, Classical.byContradiction fun z => c (.inr (.inr z))⟩
theorem words_inj (k : Nat) {n m : Nat} (hn : n < 1000000) (hm : m < 1000000) (h : words k n = words k m) : n = m := by
  have a := words_back k hn
  rw [h, words_back k hm] at a
  omega
/-- the words that are no numbers, but stand in some -/
def part : Nat → B → Bool
  | 0, s => s == hundred || s == thousand
  | 1, _ => false
  | _, s => s == yy || s == un || s == veinti ++ un || s == hundreds.headD [] || s == mil
def isW (k : Nat) (s : B) : Bool := (number k [s]).isSome || part k s
def plain (s : B) : Bool := s ≠ [] && s.all fun c => c == 45 || (97 ≤ c && c ≤ 122)
set_option maxRecDepth 100000 in
theorem en_is {n : Nat} (h : n < 1000) : (enS n).all (fun s => isW 0 s && plain s) = true :=
  below (p := fun n => (enS n).all (fun s => isW 0 s && plain s)) (N := 1000) (by decide +kernel) h
set_option maxRecDepth 100000 in
theorem es_is {n : Nat} (h : n < 1000) : (esS n ++ esLast (esS n)).all (fun s => isW 2 s && plain s) = true :=
  below (p := fun n => (esS n ++ esLast (esS n)).all (fun s => isW 2 s && plain s)) (N := 1000) (by decide +kernel) h
set_option maxRecDepth 100000 in
theorem de_is {n : Nat} (h : n < 1000) : (plain (deW n) && plain (deQ n ++ tausend)) = true :=
  below (p := fun n => plain (deW n) && plain (deQ n ++ tausend)) (N := 1000) (by decide +kernel) h
theorem one_is (k : Nat) {n : Nat} (h : n < 1000000) {s : B} (e : words k n = [s]) : isW k s = true := by
  unfold isW
  rw [← e, number_words k h]
  rfl
/-- a number's words are number words, of letters and hyphens -/
theorem words_is (k : Nat) (hk : k < 3) {n : Nat} (h : n < 1000000) : ∀ s ∈ words k n, isW k s = true ∧ plain s = true := by
  intro s hs
  rcases (show k = 0 ∨ k = 1 ∨ k = 2 by omega) with rfl | rfl | rfl
  · have s1 := en_is (n := n / 1000) (by omega)
    have s2 := en_is (n := n % 1000) (by omega)
    have q : ∀ {m : Nat}, (enS m).all (fun s => isW 0 s && plain s) = true → s ∈ enS m → isW 0 s = true ∧ plain s = true := fun a b => by
      have := List.all_eq_true.1 a s b
      exact Bool.and_eq_true_iff.1 this
    change s ∈ en n at hs
    unfold en at hs
    by_cases h0 : n / 1000 > 0
    · rw [if_pos h0] at hs
      rcases List.mem_append.1 hs with hs | hs
      · exact q s1 hs
      · rcases List.mem_cons.1 hs with rfl | hs
        · exact ⟨by decide +kernel, by decide +kernel⟩
        · by_cases hz : n % 1000 = 0
          · rw [if_pos hz] at hs; cases hs
          · rw [if_neg hz] at hs; exact q s2 hs
    · rw [if_neg h0, show n = n % 1000 by omega] at hs
      exact q s2 hs
  · change s ∈ de n at hs
    unfold de at hs
    have s1 := Bool.and_eq_true_iff.1 (de_is (n := n / 1000) (by omega))
    have s2 := Bool.and_eq_true_iff.1 (de_is (n := n % 1000) (by omega))
    have one : ∀ {m : Nat}, m < 1000 → isW 1 (deW m) = true := fun {m} hm => one_is 1 (n := m) (by omega) (show de m = _ by unfold de; rw [if_pos hm])
    by_cases h0 : n < 1000
    · rw [if_pos h0] at hs
      rcases List.mem_cons.1 hs with rfl | hs
      · exact ⟨one h0, by rw [show n % 1000 = n by omega] at s2; exact s2.1⟩
      · cases hs
    · rw [if_neg h0] at hs
      rcases List.mem_cons.1 hs with rfl | hs
      · refine ⟨one_is 1 (n := n - n % 1000) (by omega) ?_, s1.2⟩
        show de _ = _
        unfold de
        rw [if_neg (by omega), if_neg (by omega), show (n - n % 1000) / 1000 = n / 1000 by omega]
      · by_cases hz : n % 1000 > 0
        · rw [if_pos hz] at hs
          rcases List.mem_cons.1 hs with rfl | hs
          · exact ⟨one (by omega), s2.1⟩
          · cases hs
        · rw [if_neg hz] at hs; cases hs
  · have s1 := es_is (n := n / 1000) (by omega)
    have s2 := es_is (n := n % 1000) (by omega)
    have q : ∀ {m : Nat}, (esS m ++ esLast (esS m)).all (fun s => isW 2 s && plain s) = true → s ∈ esS m ++ esLast (esS m) → isW 2 s = true ∧ plain s = true := fun a b => by
      have := List.all_eq_true.1 a s b
      exact Bool.and_eq_true_iff.1 this
    change s ∈ es n at hs
    unfold es at hs
    by_cases h0 : n / 1000 > 0
    · rw [if_pos h0] at hs
      rcases List.mem_append.1 hs with hs | hs
      · by_cases h1 : n / 1000 > 1
        · rw [if_pos h1] at hs; exact q s1 (List.mem_append_right _ hs)
        · rw [if_neg h1] at hs; cases hs
      · rcases List.mem_cons.1 hs with rfl | hs
        · exact ⟨by decide +kernel, by decide +kernel⟩
        · by_cases hz : n % 1000 = 0
          · rw [if_pos hz] at hs; cases hs
          · rw [if_neg hz] at hs; exact q s2 (List.mem_append_left _ hs)
    · rw [if_neg h0, show n = n % 1000 by omega] at hs
      exact q s2 (List.mem_append_left _ hs)
/-- a number word consists of letters and hyphens -/
theorem is_plain (k : Nat) (hk : k < 3) {s : B} (h : isW k s = true) : plain s = true := by
  unfold isW at h
  rcases Bool.or_eq_true_iff.1 h with h | h
  · obtain ⟨n, e⟩ := Option.isSome_iff_exists.1 h
    obtain ⟨h1, h2⟩ := number_some e
    exact (words_is k hk h1 s (by rw [h2]; exact List.mem_cons_self)).2
  · rcases (show k = 0 ∨ k = 1 ∨ k = 2 by omega) with rfl | rfl | rfl
    · unfold part at h
      simp only [Bool.or_eq_true, beq_iff_eq] at h
      rcases h with rfl | rfl <;> decide +kernel
    · cases h
    · unfold part at h
      simp only [Bool.or_eq_true, beq_iff_eq] at h
      rcases h with (((rfl | rfl) | rfl) | rfl) | rfl <;> decide +kernel
/-- thousands, and the rest -/
theorem words_split (k : Nat) {n : Nat} (h0 : 1000 ≤ n) (hz : n % 1000 ≠ 0) : words k n = words k (n - n % 1000) ++ words k (n % 1000) := by
  have e1 : (n - n % 1000) / 1000 = n / 1000 := by omega
  have e2 : (n - n % 1000) % 1000 = 0 := by omega
  have e3 : n % 1000 / 1000 = 0 := by omega
  have p : n / 1000 > 0 := by omega
  match k with
  | 0 => show en _ = en _ ++ en _; unfold en; rw [e1, e2, e3]; simp [p, hz]
  | 1 => show de _ = de _ ++ de _; unfold de; rw [e1, e2]; simp [show ¬ n < 1000 by omega, show ¬ n - n % 1000 < 1000 by omega, show n % 1000 < 1000 by omega, show 0 < n % 1000 by omega]
  | _ + 2 => show es _ = es _ ++ es _; unfold es; rw [e1, e2, e3]; simp [p, hz]
end Wo
end Go.Proofs.YtebdpdmkehfgfaaDoor
