/- Numbers with signs: signed, parse, minus. -/
import Derived.Test.YtjhnfejlkljkjaaDoorIntP
namespace Go.Proofs.YtjhnfejlkljkjaaDoor
open Go.RowKit

theorem neg_of {n : Nat} {s : Bool} {L : Nat} (hL : (In.gs n).length = L) : In.neg (In.sgn n s) = (s && decide (0 < L)) := by
  rw [In.neg_sgn]
  have h := In.gs_nil (n := n)
  rw [hL] at h
  congr 1
  rw [decide_eq_decide]
  omega
/-- how a result with a sign ends -/
theorem num_end {w W : World} {o : Option Addr} {L c n : Nat} {s b : Bool} (hn : NSl w (.slice o L c) n) (hg : In.neg (In.sgn n s) = (s && decide (0 < L))) (hb : b = (s && decide (0 < L))) (hB : Below w.heap.size w W) :
    ∃ r, Ending.returned (.agg #[.slice o L c, .bool b]) = .returned r ∧ NumV W r (In.sgn n s) ∧ Below w.heap.size w W := by
  refine ⟨_, rfl, ⟨_, by rw [hg, hb], ?_⟩, hB⟩
  rw [In.sgn_abs]
  exact hn.next hB
set_option maxRecDepth 100000 in
set_option maxHeartbeats 1000000 in
theorem signed_any (u : Value) (n : Nat) (s : Bool) (w : World) (hn : NSl w u n) :
    Calls Tryd.prog 41 #[u, .bool s] w fun e w' => ∃ r, e = .returned r ∧ NumV w' r (In.sgn n s) ∧ Below w.heap.size w w' := by
  have HN := Lib.hid hn
  obtain ⟨o, c, rfl, a1, a2, a3, a4⟩ := hn.ex
  generalize hL : (In.gs n).length = L at *
  have HNG := Lib.hid (neg_of (s := s) hL)
  clear hn a4 a3 hL
  cases s
  · go_enter Tryd.func41, Tryd.ntmps41
    go_wp2_with fail
    refine bodyPost_ret (v := .agg #[.slice o L c, .bool false]) (by first | (simp [results, Tryd.results41, go_sem]; done) | simp [results, Tryd.results41, go_sem, *]) rfl (num_end HN.out HNG.out rfl (by (repeat' first | exact Below.refl _ _ | assumption | (refine below_drewN ?_ _) | (refine Below.drew ?_) | (refine Below.alloc ?_ ?_ _) | (refine Below.setCell ?_ ?_ _) | (simp; done) | (simp; omega) | omega)))
  · by_cases h0 : 0 < L
    · have d0 : decide (0 < (L : Int)) = true := by simp; omega
      go_enter Tryd.func41, Tryd.ntmps41
      go_wp2_with fail
      refine bodyPost_ret (v := .agg #[.slice o L c, .bool true]) (by first | (simp [results, Tryd.results41, go_sem]; done) | simp [results, Tryd.results41, go_sem, *]) rfl (num_end HN.out HNG.out (by simp [h0]) (by (repeat' first | exact Below.refl _ _ | assumption | (refine below_drewN ?_ _) | (refine Below.drew ?_) | (refine Below.alloc ?_ ?_ _) | (refine Below.setCell ?_ ?_ _) | (simp; done) | (simp; omega) | omega)))
    · obtain rfl : L = 0 := by omega
      go_enter Tryd.func41, Tryd.ntmps41
      go_wp2_with fail
      refine bodyPost_ret (v := .agg #[.slice o 0 c, .bool false]) (by first | (simp [results, Tryd.results41, go_sem]; done) | simp [results, Tryd.results41, go_sem, *]) rfl (num_end HN.out HNG.out rfl (by (repeat' first | exact Below.refl _ _ | assumption | (refine below_drewN ?_ _) | (refine Below.drew ?_) | (refine Below.alloc ?_ ?_ _) | (refine Below.setCell ?_ ?_ _) | (simp; done) | (simp; omega) | omega)))
end Go.Proofs.YtjhnfejlkljkjaaDoor
