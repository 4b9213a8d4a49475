/- when, tensAndOnes, word, simple. -/
import Derived.Test.YtebdpdmkehfgfaaDoorWoMem
set_option linter.unusedVariables false
set_option linter.unusedSimpArgs false
namespace Go.Proofs.YtebdpdmkehfgfaaDoor
open Go.RowKit
namespace Wo
theorem when_any (b : Bool) (s : ByteArray) (w : World) : Calls Tryd.prog 83 #[.bool b, .string s] w fun e w' => e = .returned (.string (if b then s else ⟨#[]⟩)) ∧ w = w' := by
  cases b
  all_goals
    go_enter Tryd.func83, Tryd.ntmps83
    go_wp2_with fail
    go_ret
    exact ⟨rfl, rfl⟩
theorem tao_any (t o : Int) (w : World) (ht : t ≤ 1000) (ho : o ≤ 1000) : Calls Tryd.prog 74 #[.int .i64 t, .int .i64 o] w fun e w' => e = .returned (.int .i64 (tao t o)) ∧ w = w' := by
  by_cases h1 : t < 20
  · rw [show tao t o = -1 from if_pos (.inl h1)]
    go_enter Tryd.func74, Tryd.ntmps74
    go_wp2_with fail
    go_ret
    exact ⟨rfl, rfl⟩
  · obtain ⟨n, rfl⟩ : ∃ n : Nat, t = n := ⟨t.toNat, by omega⟩
    by_cases h2 : (n : Int) % 10 = 0
    · by_cases h3 : o < 1
      · rw [show tao n o = -1 from if_pos (.inr (.inr (.inl h3)))]
        go_enter Tryd.func74, Tryd.ntmps74
        go_wp2_with fail
        go_ret
        exact ⟨rfl, rfl⟩
      · by_cases h4 : o > 9
        · rw [show tao n o = -1 from if_pos (.inr (.inr (.inr h4)))]
          go_enter Tryd.func74, Tryd.ntmps74
          go_wp2_with fail
          go_ret
          exact ⟨rfl, rfl⟩
        · rw [show tao n o = n + o from if_neg (by omega)]
          go_enter Tryd.func74, Tryd.ntmps74
          go_wp2_with fail
          go_ret
          exact ⟨rfl, rfl⟩
    · rw [show tao n o = -1 from if_pos (.inr (.inl h2))]
      have d2 : decide ((n : Int) % 10 = 0) = false := decide_eq_false h2
      go_enter Tryd.func74, Tryd.ntmps74
      go_wp2_with fail
      go_ret
      exact ⟨rfl, rfl⟩
theorem word_any (k n : Nat) (L N : Int) (hk : k < 3) (hL : L = k + 1) (hN : N = n) (hn : n < 100) (w : World) (T : Tab w) : Calls Tryd.prog 63 #[.int .i64 L, .int .i64 N] w fun e w' => e = .returned (sV (wordOf k n)) ∧ w = w' := by
  subst hL
  subst hN
  unfold wordOf
  by_cases h : n < 20
  · rw [if_pos h]
    have c := T.one k n hk h
    have l := T.lt
    generalize (ones k).getD n [] = x at *
    clear T
    go_enter Tryd.func63, Tryd.ntmps63
    go_wp2_with fail
    go_ret
    exact ⟨rfl, rfl⟩
  · rw [if_neg h]
    have c := T.ten k (n / 10 - 2) hk (by omega)
    have l := T.lt
    generalize (tens k).getD (n / 10 - 2) [] = x at *
    obtain ⟨m, hm⟩ : ∃ m, n / 10 = m + 2 := ⟨n / 10 - 2, by omega⟩
    have hm2 : (n : Int) / 10 = (m : Int) + 2 := by omega
    rw [show n / 10 - 2 = m by omega] at c
    clear T
    go_enter Tryd.func63, Tryd.ntmps63
    go_wp2_with fail
    go_ret
    exact ⟨rfl, rfl⟩
end Wo
end Go.Proofs.YtebdpdmkehfgfaaDoor
