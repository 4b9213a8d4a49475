/- The reference's Dispute, in one form. -/
import Derived.Test.YtnhlhoijajhcjaaDoorBkRD
set_option linter.unusedVariables false
set_option linter.unusedSimpArgs false
set_option linter.unnecessarySimpa false
namespace Go.Proofs.YtnhlhoijajhcjaaDoor
open Go.RowKit
namespace Bk
open Sq
theorem rDispute_u (acc cl i day amt : Int) (o : Option Addr) (N c : Nat) (l : List Po) (w : World) (hN : N ≤ 2 ^ 29) (hd : inI day) (h : BkW w o N c l) : Calls Tryd.prog 30 #[bookV acc o N c cl, .int .i64 i, .int .i64 day, .int .i64 amt] w fun e w' => BoEr w.heap.size (dispB acc l cl i day amt) e w' ∧ Below w.heap.size w w' := by
  by_cases hc : 0 ≤ i ∧ i < N ∧ 0 ≤ amt ∧ amt ≤ 1000000000
  · obtain ⟨k, rfl⟩ : ∃ k : Nat, i = k := ⟨i.toNat, by omega⟩
    have hk : k < N := by omega
    have e := dispB_ok (acc := acc) (l := l) (cl := cl) (i := k) (day := day) (amt := amt) ⟨hc.1, by rw [h.1]; exact hc.2.1, hc.2.2.1, hc.2.2.2⟩
    rw [Int.toNat_natCast] at e
    rw [e]
    refine rdispute_go acc cl k day amt k rfl o N c l w h hN hd hk hc.2.2.1 hc.2.2.2 _ _ rfl ?_ ?_ ?_
    · intro B hB h0
      refine ⟨by rw [hB]; exact (if_neg h0).symm, ?_⟩
      unfold postB post at hB
      split at hB
      · cases hB
        show (l ++ _).length ≤ _
        rw [List.length_append, h.1]
        show N + 1 ≤ _
        omega
      · cases hB
    · intro h0
      cases hp : postB acc l cl (back (at' l k) k day) with
      | none => rfl
      | some B => exact if_pos h0
    · intro hp
      rw [hp]
  · rw [dispB_bad (by rw [h.1]; exact hc)]
    exact (rdispute_bad acc cl i day amt o N c w hc).mono fun _ _ q => ⟨⟨none, 0, 0, q.1, bkw_zero _, fun a e => by cases e⟩, q.2⟩
end Bk
end Go.Proofs.YtnhlhoijajhcjaaDoor
