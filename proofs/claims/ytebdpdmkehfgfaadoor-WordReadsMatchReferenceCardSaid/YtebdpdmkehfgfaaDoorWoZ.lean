/- The functions at a language that is there; picks. -/
import Derived.Test.YtebdpdmkehfgfaaDoorWoY
set_option linter.unusedVariables false
set_option linter.unusedSimpArgs false
namespace Go.Proofs.YtebdpdmkehfgfaaDoor
open Go.RowKit
namespace Wo
theorem ok_of {k : Nat} {L : Int} (hk : k < 3) (hL : L = 1 + k) : okL L ∧ (L - 1).toNat = k := ⟨⟨by omega, by omega⟩, by omega⟩
theorem Words_k (k j : Nat) (L J : Int) (hk : k < 3) (hL : L = 1 + k) (hJ : J = j) (hj : j < 1000000) (w : World) (T : Tab w) :
    Calls Tryd.prog 12 #[.int .i64 L, .int .i64 J] w fun e w' => ∃ v, e = .returned (.tuple #[v, .int .i64 0]) ∧ OwnS w' w.heap.size v (words k j) ∧ Below w.heap.size w w' := by
  subst hJ
  have h := Words_any L j w T
  rw [wO_ok k L hk (by omega) hj] at h
  exact h
theorem Number_k (k : Nat) (L : Int) (hk : k < 3) (hL : L = 1 + k) (o : Option Addr) (n c : Nat) (l : List B) (w : World) (T : Tab w) (hl : l.length = n) (hn : n ≤ 1000000) (hnc : n ≤ c) (hc2 : c ≤ 9223372036854775807) (hs : ∀ s ∈ l, s.length ≤ 1000000) (hS : SSl w o l) :
    Calls Tryd.prog 26 #[.int .i64 L, .slice o n c] w fun e w' => e = .returned (numE (number k l)) ∧ Below w.heap.size w w' := by
  have h := Number_any L o n c l w T hl hn hnc hc2 hs hS
  rw [show nO L l = number k l by unfold nO; rw [if_pos (ok_of hk hL).1, (ok_of hk hL).2]] at h
  exact h
theorem Is_k (k : Nat) (L : Int) (hk : k < 3) (hL : L = 1 + k) (s : B) (hs : s.length ≤ 1000000) (w : World) (T : Tab w) :
    Calls Tryd.prog 23 #[.int .i64 L, .string (bs s)] w fun e w' => e = .returned (.bool (isW k s)) ∧ Below w.heap.size w w' := by
  have h := Is_any L s hs w T
  rw [show iO L s = isW k s by unfold iO; rw [if_pos (ok_of hk hL).1, (ok_of hk hL).2]] at h
  exact h
theorem mO_k {k : Nat} {L : Int} (hk : k < 3) (hL : L = 1 + k) : mO L = months k := by unfold mO; rw [if_pos (ok_of hk hL).1, (ok_of hk hL).2]
theorem dO_k {k : Nat} {L : Int} (hk : k < 3) (hL : L = 1 + k) : dO L = days k := by unfold dO; rw [if_pos (ok_of hk hL).1, (ok_of hk hL).2]
theorem pick_k (c : Int) (n : Nat) (N : Int) (hN : N = n) (hn : 0 < n) (hc' : -9223372036854775808 ≤ c ∧ c ≤ 9223372036854775807) : ∃ j : Nat, j < n ∧ ∀ w, Calls Tryd.prog 11 #[.int .i64 c, .int .i64 N] w fun e w' => e = .returned (.int .i64 j) ∧ w = w' := by
  subst hN
  obtain ⟨j, hj, hjn⟩ := pick_nat c hn
  refine ⟨j, hjn, fun w => ?_⟩
  have h := pick_w c n w (by omega) hc'.1 hc'.2
  rw [hj] at h
  exact h
end Wo
end Go.Proofs.YtebdpdmkehfgfaaDoor
