/- The reference's in and formed. -/
import Derived.Test.YtnhlhoijajhcjaaDoorBkS
set_option linter.unusedVariables false
set_option linter.unusedSimpArgs false
set_option linter.unnecessarySimpa false
namespace Go.Proofs.YtnhlhoijajhcjaaDoor
open Go.RowKit
namespace Bk
open Sq
theorem rIn_any (n lo hi : Int) (w : World) : Calls Tryd.prog 62 #[.int .i64 n, .int .i64 lo, .int .i64 hi] w fun e w' => e = .returned (.bool (decide (lo ≤ n ∧ n ≤ hi))) ∧ w = w' := by
  by_cases h1 : lo ≤ n
  · by_cases h2 : n ≤ hi
    · rw [decide_eq_true ⟨h1, h2⟩]
      go_enter Tryd.func62, Tryd.ntmps62
      go_wp2_with fail
      refine bodyPost_ret (v := .bool true) (by first | (simp [results, Tryd.results62, go_sem]; done) | simp [results, Tryd.results62, go_sem, *]) rfl ⟨rfl, rfl⟩
    · rw [decide_eq_false (fun h => h2 h.2)]
      go_enter Tryd.func62, Tryd.ntmps62
      go_wp2_with fail
      refine bodyPost_ret (v := .bool false) (by first | (simp [results, Tryd.results62, go_sem]; done) | simp [results, Tryd.results62, go_sem, *]) rfl ⟨rfl, rfl⟩
  · rw [decide_eq_false (fun h => h1 h.1)]
    go_enter Tryd.func62, Tryd.ntmps62
    go_wp2_with fail
    refine bodyPost_ret (v := .bool false) (by first | (simp [results, Tryd.results62, go_sem]; done) | simp [results, Tryd.results62, go_sem, *]) rfl ⟨rfl, rfl⟩
set_option maxRecDepth 100000 in
set_option maxHeartbeats 8000000 in
theorem rFormed_any (p : Po) (acc : Int) (w : World) (ha : 2 ≤ acc ∧ acc ≤ 12) : Calls Tryd.prog 64 #[p.v, .int .i64 acc] w fun e w' => e = .returned (.bool (fm acc p)) ∧ Below w.heap.size w w' := by
  have HF := Lib.hid (show fm acc p = decide (FmP acc p) from rfl)
  obtain ⟨kind, day, deb, cre, amt, sub, of⟩ := p
  unfold FmP at HF
  dsimp only at HF
  have CI := Lib.hid rIn_any
  have HA := Lib.hid ha
  have hn : wrap64 (acc - 1) = acc - 1 := by unfold wrap64; omega
  show Calls Tryd.prog 64 #[.agg #[.int .i64 kind, .int .i64 day, .int .i64 deb, .int .i64 cre, .int .i64 amt, .int .i64 sub, .int .i64 of], .int .i64 acc] w _
  obtain ⟨F, hF⟩ : ∃ F, fm acc ⟨kind, day, deb, cre, amt, sub, of⟩ = F := ⟨_, rfl⟩
  rw [hF] at HF ⊢
  clear hF
  go_enter Tryd.func64, Tryd.ntmps64
  go_wp2_with (go_at_call 62; with_reducible refine Calls.mono (CI.out _ _ _ _) ?_; rintro e w' ⟨rfl, rfl⟩)
  all_goals go_ret
  all_goals refine ⟨retv (vbool ?_), by (repeat' first | exact Below.refl _ _ | assumption | (refine below_drewN ?_ _) | (refine Below.drew ?_) | (refine Below.alloc ?_ ?_ _) | (refine Below.setCell ?_ ?_ _) | (simp; done) | (simp; omega) | omega)⟩
  all_goals rw [HF.out]
  all_goals clear CI HF
  all_goals try simp only [beq_iff_eq, bne_iff_ne, ne_eq, beq_eq_false_iff_ne, Bool.not_eq_true', Bool.not_eq_false', decide_eq_true_eq, decide_eq_false_iff_not] at *
  all_goals first
    | (symm; apply decide_eq_false; omega)
    | (symm; apply decide_eq_true; omega)
    | (refine Bool.eq_iff_iff.2 (Iff.trans ?_ decide_eq_true_iff.symm); simp only [Bool.and_eq_true, beq_iff_eq, decide_eq_true_eq]; omega)
end Bk
end Go.Proofs.YtnhlhoijajhcjaaDoor
