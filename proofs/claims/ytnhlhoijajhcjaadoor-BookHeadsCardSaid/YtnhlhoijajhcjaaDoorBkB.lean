/- formed, and what it asks. -/
import Derived.Test.YtnhlhoijajhcjaaDoorBkA
set_option linter.unusedVariables false
set_option linter.unusedSimpArgs false
set_option linter.unnecessarySimpa false
namespace Go.Proofs.YtnhlhoijajhcjaaDoor
open Go.RowKit
namespace Bk
open Sq
theorem isMonth_any (m : Int) (w : World) : Calls Tryd.prog 40 #[.int .i64 m] w fun e w' => e = .returned (.bool (decide (0 ≤ m ∧ m < 12))) ∧ w = w' := by
  by_cases h1 : 0 ≤ m
  · by_cases h2 : m < 12
    · rw [decide_eq_true ⟨h1, h2⟩]
      go_enter Tryd.func40, Tryd.ntmps40
      go_wp2_with fail
      go_ret
      exact ⟨rfl, rfl⟩
    · rw [decide_eq_false (fun h => h2 h.2)]
      go_enter Tryd.func40, Tryd.ntmps40
      go_wp2_with fail
      go_ret
      exact ⟨rfl, rfl⟩
  · rw [decide_eq_false (fun h => h1 h.1)]
    go_enter Tryd.func40, Tryd.ntmps40
    go_wp2_with fail
    go_ret
    exact ⟨rfl, rfl⟩
theorem isSubject_any (m : Int) (w : World) : Calls Tryd.prog 45 #[.int .i64 m] w fun e w' => e = .returned (.bool (decide (0 ≤ m ∧ m ≤ 999))) ∧ w = w' := by
  by_cases h1 : 0 ≤ m
  · by_cases h2 : m ≤ 999
    · rw [decide_eq_true ⟨h1, h2⟩]
      go_enter Tryd.func45, Tryd.ntmps45
      go_wp2_with fail
      go_ret
      exact ⟨rfl, rfl⟩
    · rw [decide_eq_false (fun h => h2 h.2)]
      go_enter Tryd.func45, Tryd.ntmps45
      go_wp2_with fail
      go_ret
      exact ⟨rfl, rfl⟩
  · rw [decide_eq_false (fun h => h1 h.1)]
    go_enter Tryd.func45, Tryd.ntmps45
    go_wp2_with fail
    go_ret
    exact ⟨rfl, rfl⟩
theorem isAcc_any (b : Nat) (n acc : Int) (w : World) (h : Has1 w b (.int .i64 acc)) : Calls Tryd.prog 71 #[.int .i64 n, .pointer (some ⟨b, 0, none⟩)] w fun e w' => e = .returned (.bool (decide (0 ≤ n ∧ n < acc))) ∧ w = w' := by
  obtain ⟨l, c⟩ := h
  by_cases h1 : 0 ≤ n
  · by_cases h2 : n < acc
    · rw [decide_eq_true ⟨h1, h2⟩]
      go_enter Tryd.func71, Tryd.ntmps71
      go_wp2_with fail
      go_ret
      exact ⟨rfl, rfl⟩
    · rw [decide_eq_false (fun h => h2 h.2)]
      go_enter Tryd.func71, Tryd.ntmps71
      go_wp2_with fail
      go_ret
      exact ⟨rfl, rfl⟩
  · rw [decide_eq_false (fun h => h1 h.1)]
    go_enter Tryd.func71, Tryd.ntmps71
    go_wp2_with fail
    go_ret
    exact ⟨rfl, rfl⟩
theorem tdiv30 {n : Int} (h : inI n) : wrap64 (n.tdiv 30) = n.tdiv 30 := by
  obtain ⟨h1, h2⟩ := h
  have h3 : -9223372036854775808 ≤ n.tdiv 30 ∧ n.tdiv 30 ≤ 9223372036854775807 := by
    rcases Int.lt_or_le n 0 with h | h
    · have e : n.tdiv 30 = -((-n).tdiv 30) := by rw [Int.neg_tdiv, Int.neg_neg]
      rw [e, Int.tdiv_eq_ediv_of_nonneg (by omega)]
      omega
    · rw [Int.tdiv_eq_ediv_of_nonneg h]
      omega
  unfold wrap64
  omega
theorem monthOf_any (p : Po) (w : World) (hd : inI p.day) : Calls Tryd.prog 43 #[p.v] w fun e w' => e = .returned (.int .i64 (p.day.tdiv 30)) ∧ Below w.heap.size w w' := by
  obtain ⟨kind, day, deb, cre, amt, sub, of⟩ := p
  have hw := tdiv30 hd
  show Calls Tryd.prog 43 #[.agg #[.int .i64 kind, .int .i64 day, .int .i64 deb, .int .i64 cre, .int .i64 amt, .int .i64 sub, .int .i64 of]] w _
  go_enter Tryd.func43, Tryd.ntmps43
  go_wp2_with fail
  go_ret
  exact ⟨rfl, by (repeat' first | exact Below.refl _ _ | assumption | (refine below_drewN ?_ _) | (refine Below.drew ?_) | (refine Below.alloc ?_ ?_ _) | (refine Below.setCell ?_ ?_ _) | (simp; done) | (simp; omega) | omega)⟩
set_option maxRecDepth 100000 in
set_option maxHeartbeats 8000000 in
theorem formed_any (p : Po) (acc : Int) (w : World) : Calls Tryd.prog 53 #[p.v, .int .i64 acc] w fun e w' => e = .returned (.bool (fm acc p)) ∧ Below w.heap.size w w' := by
  have HF := Lib.hid (show fm acc p = decide (FmP acc p) from rfl)
  obtain ⟨kind, day, deb, cre, amt, sub, of⟩ := p
  unfold FmP at HF
  dsimp only at HF
  have CS := Lib.hid isSubject_any
  have CA := Lib.hid isAcc_any
  show Calls Tryd.prog 53 #[.agg #[.int .i64 kind, .int .i64 day, .int .i64 deb, .int .i64 cre, .int .i64 amt, .int .i64 sub, .int .i64 of], .int .i64 acc] w _
  obtain ⟨F, hF⟩ : ∃ F, fm acc ⟨kind, day, deb, cre, amt, sub, of⟩ = F := ⟨_, rfl⟩
  rw [hF] at HF ⊢
  clear hF
  go_enter Tryd.func53, Tryd.ntmps53
  go_wp2_with (first
    | (go_at_call 71; with_reducible refine Calls.mono (CA.out _ _ acc _ ⟨by simp, by go_simp⟩) ?_; rintro e w' ⟨rfl, rfl⟩)
    | (go_at_call 45; with_reducible refine Calls.mono (CS.out _ _) ?_; rintro e w' ⟨rfl, rfl⟩))
  all_goals go_ret
  all_goals refine ⟨retv (vbool ?_), by (repeat' first | exact Below.refl _ _ | assumption | (refine below_drewN ?_ _) | (refine Below.drew ?_) | (refine Below.alloc ?_ ?_ _) | (refine Below.setCell ?_ ?_ _) | (simp; done) | (simp; omega) | omega)⟩
  all_goals rw [HF.out]
  all_goals clear CS CA HF
  all_goals try simp only [beq_iff_eq, bne_iff_ne, ne_eq, beq_eq_false_iff_ne, decide_eq_true_eq, decide_eq_false_iff_not] at *
  all_goals first
    | (symm; apply decide_eq_false; omega)
    | (symm; apply decide_eq_true; omega)
    | (refine Bool.eq_iff_iff.2 (Iff.trans ?_ decide_eq_true_iff.symm); simp only [Bool.and_eq_true, bne_iff_ne, ne_eq, decide_eq_true_eq]; exact ⟨fun h => ⟨by omega, by omega, by omega, by omega, h.1, by omega, h.2⟩, fun h => ⟨h.2.2.2.2.1, h.2.2.2.2.2.2⟩⟩)
/-- the book's own closure, and All over it -/
theorem allFormed_any (b : Nat) (p : Po) (acc : Int) (w : World) (h : b < w.heap.size ∧ w.cell? ⟨b, 0, none⟩ = some (.int .i64 acc)) : Calls Tryd.prog 52 #[p.v, .pointer (some ⟨b, 0, none⟩)] w fun e w' => e = .returned (.bool (fm acc p)) ∧ Below w.heap.size w w' := by
  obtain ⟨lb, cb⟩ := h
  have CF := Lib.hid (fun W => formed_any p acc W)
  obtain ⟨F, hF⟩ : ∃ F, fm acc p = F := ⟨_, rfl⟩
  rw [hF] at CF ⊢
  clear hF
  obtain ⟨kind, day, deb, cre, amt, sub, of⟩ := p
  unfold Po.v at *
  dsimp only at *
  have hne : w.heap.size ≠ b := by omega
  go_enter Tryd.func52, Tryd.ntmps52
  go_wp2_with fail
  with_reducible refine Calls.mono (CF.out _) ?_
  rintro e w' ⟨rfl, hb⟩
  have HB := Lib.hid hb
  clear hb
  go_wp2_with fail
  go_ret
  exact ⟨rfl, by (repeat' first | exact Below.refl _ _ | assumption | (refine Below.andThen ?_ HB.out) | (exact HB.out.size) | (simpa using HB.out.size) | (refine below_drewN ?_ _) | (refine Below.drew ?_) | (refine Below.alloc ?_ ?_ _) | (refine Below.setCell ?_ ?_ _) | (simp; done) | (simp; omega) | omega)⟩
end Bk
end Go.Proofs.YtnhlhoijajhcjaaDoor
