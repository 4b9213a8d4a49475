/- The tests that find is given: by the day's number, by year and month. -/
import Derived.Test.YtdldokhiefeloaaDoorCalB
namespace Go.Proofs.YtdldokhiefeloaaDoor
open Go.RowKit

theorem lenL_bd (i : Nat) : 0 ≤ lenL.getD i 0 ∧ lenL.getD i 0 ≤ 31 := by
  match i with
  | 0 | 1 | 2 | 3 | 4 | 5 | 6 | 7 | 8 | 9 | 10 | 11 => decide
  | n + 12 => simp [lenL, List.getD]
theorem daysZ_bd (y m : Int) : 0 ≤ daysZ y m ∧ daysZ y m ≤ 31 := by
  unfold daysZ
  split
  · omega
  · split
    · omega
    · exact lenL_bd _

set_option maxRecDepth 100000 in
set_option maxHeartbeats 1000000 in
theorem parts1_any (y m f day : Int) (d : Nat) (w : World) (T : CTab w) (hd : w.cell? ⟨d, 0, none⟩ = some (.int .i64 day)) (hf : -1000000 ≤ f ∧ f ≤ 1000000) :
    Calls Tryd.prog 72 #[.agg #[.int .i64 y, .int .i64 m, .int .i64 f], .pointer (some ⟨d, 0, none⟩)] w fun e w' => e = .returned (.bool (decide (day < f + daysZ y m))) ∧ Below w.heap.size w w' := by
  have hlt := World.block_lt_of_cell? w _ hd
  dsimp only at hlt
  have hlt1 : d < w.heap.size + 1 := by omega
  have hne : w.heap.size ≠ d := by omega
  have HT := Lib.hid (T.next ((Below.refl w.heap.size w).alloc (Nat.le_refl _) (.cells #[.int .i64 y, .int .i64 m, .int .i64 f] 85)))
  have D := Lib.hid (fun w T => days_any y m w T)
  obtain ⟨b0, b1⟩ := daysZ_bd y m
  generalize daysZ y m = v at *
  obtain ⟨hf0, hf1⟩ := hf
  clear T
  go_enter Tryd.func72, Tryd.ntmps72
  go_wp2_with fail
  refine wp_region_kin (by kernel_rfl) (by kernel_rfl) (0) (w.heap.size + 1) (by first | assumption | (simp; done) | (simp; omega) | omega | (have := HS.out; omega)) (fun hk => ?_)
  repeat (go_big_quiet_step ((go_at_call 51; exact Calls.kin_same (D.out _ (HT.out.next (Kin.below _))))))
  refine wpQuiet_nil ?_
  clear hk
  intro W1 hb1
  obtain ⟨hc1, hf1, hz1⟩ := after (B := 0) (w.heap.size + 1) hb1 (by first | assumption | (simp; done) | (simp; omega) | omega | (have := HS.out; omega)); have HB1 := Lib.hid hb1; clear hb1
  go_wp2
  go_ret
  exact ⟨rfl, by (repeat' first | exact Below.refl _ _ | assumption | (refine Below.andThen ?_ HB1.out) | (exact HB1.out.size) | (refine below_drewN ?_ _) | (refine Below.drew ?_) | (refine Below.alloc ?_ ?_ _) | (refine Below.setCell ?_ ?_ _) | (simp; done) | (simp; omega) | omega)⟩

set_option maxRecDepth 100000 in
set_option maxHeartbeats 1000000 in
theorem at1_any (y m f cy cm : Int) (d : Nat) (w : World) (c0 : w.cell? ⟨d, 0, none⟩ = some (.int .i64 cy)) (c1 : w.cell? ⟨d, 1, none⟩ = some (.int .i64 cm)) :
    Calls Tryd.prog 89 #[.agg #[.int .i64 y, .int .i64 m, .int .i64 f], .pointer (some ⟨d, 0, none⟩)] w fun e w' => e = .returned (.bool (y == cy && m == cm)) ∧ Below w.heap.size w w' := by
  have hlt := World.block_lt_of_cell? w _ c0
  dsimp only at hlt
  have hne : w.heap.size ≠ d := by omega
  obtain ⟨b, e1⟩ : ∃ b, (y == cy) = b := ⟨_, rfl⟩
  cases b
  all_goals
    go_enter Tryd.func89, Tryd.ntmps89
    go_wp2
    go_ret
    exact ⟨by simp [e1], (Below.refl _ _).alloc (Nat.le_refl _) _⟩
end Go.Proofs.YtdldokhiefeloaaDoor
