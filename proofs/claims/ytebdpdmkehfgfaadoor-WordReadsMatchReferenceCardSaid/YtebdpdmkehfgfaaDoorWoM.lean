/- The words of numbers in Spanish, from a thousand on. -/
import Derived.Test.YtebdpdmkehfgfaaDoorWoMA
import Derived.Test.YtebdpdmkehfgfaaDoorWoMB
import Derived.Test.YtebdpdmkehfgfaaDoorWoMC
set_option linter.unusedVariables false
set_option linter.unusedSimpArgs false
namespace Go.Proofs.YtebdpdmkehfgfaaDoor
open Go.RowKit
namespace Wo
theorem spanishWords_any (n : Nat) (N : Int) (hN : N = n) (hn : n < 1000000) (w : World) (T : Tab w) : Calls Tryd.prog 59 #[.int .i64 N] w fun e w' => ∃ v, e = .returned v ∧ OwnS w' w.heap.size v (es n) ∧ Below w.heap.size w w' := by
  subst hN
  by_cases h0 : n / 1000 > 0
  · by_cases h1 : n / 1000 > 1
    · have q4 := es_small (n := n / 1000) (by omega)
      obtain ⟨k, kL⟩ : ∃ k, (esS (n / 1000)).length = k + 1 := ⟨(esS (n / 1000)).length - 1, by have := q4.2.2.1; omega⟩
      cases hs : (un ++ [111]).isSuffixOf ((esS (n / 1000)).getD k [])
      · exact spanishWords_n n _ _ hn rfl rfl h1 (fun j hj => by rw [show j = k by omega]; exact hs) w T
      · exact spanishWords_y n _ _ hn rfl rfl h1 (fun j hj => by rw [show j = k by omega]; exact hs) w T
    · exact spanishWords_1 n _ _ hn rfl rfl (by omega) w T
  · have e : es n = esS n := if_neg h0
    rw [e]
    exact spanishWords_s n n rfl (by omega) w T
end Wo
end Go.Proofs.YtebdpdmkehfgfaaDoor
