/- The reference's Minute: year by year, month by month. -/
import Derived.Test.YtdldokhiefeloaaDoorCalRE
namespace Go.Proofs.YtdldokhiefeloaaDoor
open Go.RowKit

set_option maxRecDepth 100000 in
set_option maxHeartbeats 8000000 in
theorem refMinute_good (y m d h n wd o D N q1 q2 q3 q4 q5 q6 E : Int) (J I : Nat) (V : Int × Int) (w : World) (hD : ∀ w, Calls Tryd.prog 52 #[.int .i64 y, .int .i64 m] w fun e w' => e = .returned (.int .i64 D) ∧ Below w.heap.size w w')
    (hy : y = 1999 + (J : Int)) (hm : m = (I : Int) + 1) (bJ : J ≤ 201) (bI : I ≤ 11) (bd : 1 ≤ d ∧ d ≤ D) (bD : D ≤ 31) (bh : 0 ≤ h ∧ h ≤ 23) (bn : 0 ≤ n ∧ n ≤ 59) (bo : -840 ≤ o ∧ o ≤ 840)
    (hN : N = (d - 1 + yearsD J + sumD y I - 365) * 1440 + h * 60 + n - o)
    (hP : ∀ w, Calls Tryd.prog 44 #[.int .i64 N, .int .i64 o] w fun r w' => r = .returned (.tuple #[civV q1 q2 q3 q4 q5 q6, .int .i64 E]) ∧ Below w.heap.size w w')
    (hE : (E = 60 ∧ V = (0, 60)) ∨ (E = 0 ∧ V = (N, 0) ∧ q1 = y ∧ q2 = m ∧ q3 = d ∧ q4 = h ∧ q5 = n ∧ q6 = wd) ∨ (E = 0 ∧ V = (0, 60) ∧ q1 = y ∧ q2 = m ∧ q3 = d ∧ q4 = h ∧ q5 = n ∧ (q6 == wd) = false)) :
    Calls Tryd.prog 48 #[civV y m d h n wd, .int .i64 o] w fun e w' => e = .returned (.tuple #[.int .i64 V.1, .int .i64 V.2]) ∧ Below w.heap.size w w' := by
  have HD := Lib.hid hD
  have HP := Lib.hid hP
  have HE := Lib.hid hE
  have HN := Lib.hid hN
  have HYJ := Lib.hid hy
  have HMI := Lib.hid hm
  have y0 : 1999 ≤ y := by omega
  have y1 : y ≤ 2200 := by omega
  have m0 : 1 ≤ m := by omega
  have m1 : m ≤ 12 := by omega
  obtain ⟨bd0, bd1⟩ := bd
  obtain ⟨bh0, bh1⟩ := bh
  obtain ⟨bn0, bn1⟩ := bn
  obtain ⟨bo0, bo1⟩ := bo
  have g1 : decide (y < 1999) = false := by rw [decide_eq_false_iff_not]; omega
  have g2 : decide (2200 < y) = false := by rw [decide_eq_false_iff_not]; omega
  have g3 : decide (m < 1) = false := by rw [decide_eq_false_iff_not]; omega
  have g4 : decide (12 < m) = false := by rw [decide_eq_false_iff_not]; omega
  have g5 : decide (d < 1) = false := by rw [decide_eq_false_iff_not]; omega
  have g6 : decide (D < d) = false := by rw [decide_eq_false_iff_not]; omega
  have g7 : decide (h < 0) = false := by rw [decide_eq_false_iff_not]; omega
  have g8 : decide (23 < h) = false := by rw [decide_eq_false_iff_not]; omega
  have g9 : decide (n < 0) = false := by rw [decide_eq_false_iff_not]; omega
  have g10 : decide (59 < n) = false := by rw [decide_eq_false_iff_not]; omega
  have g11 : decide (o < -840) = false := by rw [decide_eq_false_iff_not]; omega
  have g12 : decide (840 < o) = false := by rw [decide_eq_false_iff_not]; omega
  clear hD hP hE hN hy hm
  go_enter Tryd.func48, Tryd.ntmps48
  go_wp2_with fail
  refine wp_region_kin (by kernel_rfl) (by kernel_rfl) (w.heap.size) 1 (by simp) (fun hk => ?_)
  repeat (go_big_quiet_step ((go_at_call 52; exact Calls.kin (HD.out _))))
  refine wpQuiet_nil ?_
  clear hk
  intro w3 hb
  have R3 : Row w3 w.heap.size 57 [.int .i64 y, .int .i64 m, .int .i64 d, .int .i64 h, .int .i64 n, .int .i64 wd] := (Row.new w 57 [.int .i64 y, .int .i64 m, .int .i64 d, .int .i64 h, .int .i64 n, .int .i64 wd]).next hb
  have B3 : Below w.heap.size w w3 := by have HB := Lib.hid hb; (repeat' first | with_reducible exact Below.refl _ _ | with_reducible assumption | (with_reducible refine below_drewN ?_ _) | (with_reducible refine Below.drew ?_) | (with_reducible refine Below.alloc ?_ ?_ _) | (with_reducible refine Below.setCell ?_ ?_ _) | (with_reducible refine Below.andThen ?_ HB.out) | (with_reducible exact HB.out.size) | omega | (simp; done) | (simp; omega))
  have c2 := R3.cell 2
  simp only [List.getElem?_cons_zero, List.getElem?_cons_succ] at c2
  have A3 := Lib.hid R3
  have Q3 := Lib.hid B3
  clear R3 B3 hb HD g1 g2 g3 g4 g5 g6 g7 g8 g9 g10 g11 g12
  go_wp2_with fail
  go_loopw [6, 7] (fun s t wr => ∃ j : Nat, j ≤ J ∧ s = .int .i64 (d - 1 + yearsD j) ∧ t = .int .i64 (1999 + (j : Int)) ∧ Row wr w.heap.size 57 [.int .i64 y, .int .i64 m, .int .i64 d, .int .i64 h, .int .i64 n, .int .i64 wd] ∧ Below w.heap.size w wr) (fun _ t _ => (2300 - intOf t).toNat)
  case atStart => exact ⟨0, Nat.zero_le _, by simp [yearsD], by simp, A3.out, Q3.out⟩
  case round =>
    obtain ⟨j, hj, rfl, rfl, R, B⟩ := hrel
    clear A3 Q3 c2
    have c0 := R.cell 0
    have c1 := R.cell 1
    simp only [List.getElem?_cons_zero, List.getElem?_cons_succ] at c0 c1
    have yb := yearsD_bd j
    by_cases hlt : j < J
    · have kb : decide (1999 + (j : Int) < y) = true := by rw [decide_eq_true_eq, HYJ.out]; omega
      have YS := Lib.hid (show yearsD (j + 1) = yearsD j + sumD (1999 + (j : Int)) 12 from rfl)
      have A3 := Lib.hid R
      have Q3 := Lib.hid B
      clear R B
      generalize yearsD j = Y at *
      obtain ⟨yb0, yb1⟩ := yb
      go_wp2_with fail
      go_loopw [6, 8] (fun s t w2 => ∃ i : Nat, i ≤ 12 ∧ s = .int .i64 (d - 1 + Y + sumD (1999 + (j : Int)) i) ∧ t = .int .i64 ((i + 1 : Nat) : Int) ∧ Row w2 w.heap.size 57 [.int .i64 y, .int .i64 m, .int .i64 d, .int .i64 h, .int .i64 n, .int .i64 wd] ∧ Below w.heap.size w w2) (fun _ t _ => (13 - intOf t).toNat)
      case atStart => exact ⟨0, Nat.zero_le _, by simp [sumD], rfl, A3.out, Q3.out⟩
      case round =>
        obtain ⟨i, hi, rfl, rfl, R, B⟩ := hrel
        clear A3 Q3 c0 c1
        have A3 := Lib.hid R
        have Q3 := Lib.hid B
        clear R B
        have sb := sumD_bd (1999 + (j : Int)) i
        by_cases hi2 : i < 12
        · have SS := Lib.hid (show sumD (1999 + (j : Int)) (i + 1) = sumD (1999 + (j : Int)) i + daysZ (1999 + (j : Int)) ((i + 1 : Nat) : Int) from rfl)
          have lo := daysZ_bd (1999 + (j : Int)) ((i + 1 : Nat) : Int)
          have HDD := Lib.hid (fun w => refDays_any (1999 + (j : Int)) ((i + 1 : Nat) : Int) w)
          generalize sumD (1999 + (j : Int)) i = S at *
          generalize daysZ (1999 + (j : Int)) ((i + 1 : Nat) : Int) = DD at *
          obtain ⟨M, hM⟩ : ∃ M : Int, M = ((i + 1 : Nat) : Int) := ⟨_, rfl⟩
          have HM := Lib.hid hM
          have M0 : 1 ≤ M := by omega
          have M1 : M ≤ 12 := by omega
          rw [← hM] at HDD ⊢
          clear hM
          obtain ⟨lo0, lo1⟩ := lo
          obtain ⟨sb0, sb1⟩ := sb
          go_wp2_with fail
          refine (HDD.out _).mono ?_
          rintro e w5 ⟨rfl, hb⟩
          have HB := Lib.hid hb
          clear hb
          go_wp2_with fail
          go_roundw
          case rel => exact ⟨i + 1, by omega, by rw [SS.out]; go_num, by have := HM.out; go_num, A3.out.next HB.out, Below.andThen Q3.out HB.out⟩
          case measure => have := HM.out; simp [intOf]; omega
        · obtain rfl : i = 12 := by omega
          have d0 := A3.out.cell 0
          simp only [List.getElem?_cons_zero] at d0
          go_wp2_with fail
          go_roundw
          case rel => exact ⟨j + 1, by omega, by rw [YS.out]; go_num, by go_num, A3.out, Q3.out⟩
          case measure => simp [intOf]; omega
    · obtain rfl : j = J := by omega
      have A3 := Lib.hid R
      have Q3 := Lib.hid B
      clear R B
      have kb : decide (1999 + (j : Int) < y) = false := by rw [decide_eq_false_iff_not, HYJ.out]; omega
      generalize yearsD j = Y at *
      obtain ⟨yb0, yb1⟩ := yb
      go_wp2_with fail
      go_loopw [6, 9] (fun s t w2 => ∃ i : Nat, i ≤ I ∧ s = .int .i64 (d - 1 + Y + sumD y i) ∧ t = .int .i64 ((i + 1 : Nat) : Int) ∧ Row w2 w.heap.size 57 [.int .i64 y, .int .i64 m, .int .i64 d, .int .i64 h, .int .i64 n, .int .i64 wd] ∧ Below w.heap.size w w2) (fun _ t _ => (13 - intOf t).toNat)
      case atStart => exact ⟨0, Nat.zero_le _, by simp [sumD], rfl, A3.out, Q3.out⟩
      case round =>
        obtain ⟨i, hi, rfl, rfl, R, B⟩ := hrel
        clear A3 Q3 c0 c1
        have c0 := R.cell 0
        have c1 := R.cell 1
        have c3 := R.cell 3
        have c4 := R.cell 4
        simp only [List.getElem?_cons_zero, List.getElem?_cons_succ] at c0 c1 c3 c4
        have A3 := Lib.hid R
        have Q3 := Lib.hid B
        clear R B
        have sb := sumD_bd y i
        by_cases hi2 : i < I
        · have SS := Lib.hid (show sumD y (i + 1) = sumD y i + daysZ y ((i + 1 : Nat) : Int) from rfl)
          have lo := daysZ_bd y ((i + 1 : Nat) : Int)
          have HDD := Lib.hid (fun w => refDays_any y ((i + 1 : Nat) : Int) w)
          generalize sumD y i = S at *
          generalize daysZ y ((i + 1 : Nat) : Int) = DD at *
          obtain ⟨M, hM⟩ : ∃ M : Int, M = ((i + 1 : Nat) : Int) := ⟨_, rfl⟩
          have HM := Lib.hid hM
          have M0 : 1 ≤ M := by omega
          have M1 : M ≤ 12 := by omega
          have kb2 : decide (M < m) = true := by rw [decide_eq_true_eq, HMI.out]; omega
          rw [← hM] at HDD ⊢
          clear hM
          obtain ⟨lo0, lo1⟩ := lo
          obtain ⟨sb0, sb1⟩ := sb
          go_wp2_with fail
          refine (HDD.out _).mono ?_
          rintro e w5 ⟨rfl, hb⟩
          have HB := Lib.hid hb
          clear hb
          go_wp2_with fail
          go_roundw
          case rel => exact ⟨i + 1, by omega, by rw [SS.out]; go_num, by have := HM.out; go_num, A3.out.next HB.out, Below.andThen Q3.out HB.out⟩
          case measure => have := HM.out; simp [intOf]; omega
        · obtain rfl : i = I := by omega
          have kb2 : decide (((i + 1 : Nat) : Int) < m) = false := by rw [decide_eq_false_iff_not, HMI.out]; omega
          generalize sumD y i = S at *
          obtain ⟨sb0, sb1⟩ := sb
          obtain ⟨M, hM⟩ : ∃ M : Int, M = ((i + 1 : Nat) : Int) := ⟨_, rfl⟩
          rw [← hM] at kb2 ⊢
          clear hM
          go_wp2_with fail
          rw [← HN.out]
          refine (HP.out _).mono ?_
          rintro e w5 ⟨rfl, hb⟩
          have A5 := Lib.hid (A3.out.next hb)
          have Q5 := Lib.hid (Below.andThen Q3.out hb)
          clear hb c0 c1 c3 c4
          have c0 := A5.out.cell 0
          have c1 := A5.out.cell 1
          have c2 := A5.out.cell 2
          have c3 := A5.out.cell 3
          have c4 := A5.out.cell 4
          have c5 := A5.out.cell 5
          simp only [List.getElem?_cons_zero, List.getElem?_cons_succ] at c0 c1 c2 c3 c4 c5
          have l5 := A5.out.lt
          have ne5 : w5.heap.size ≠ w.heap.size := by omega
          have bb := Q5.out
          rcases HE.out with ⟨rfl, rfl⟩ | ⟨rfl, rfl, rfl, rfl, rfl, rfl, rfl, rfl⟩ | ⟨rfl, rfl, rfl, rfl, rfl, rfl, rfl, hne⟩
          all_goals
            go_wp2
            go_ret2
            refine ⟨rfl, ?_⟩
            (repeat' first | with_reducible exact Below.refl _ _ | with_reducible assumption | (with_reducible refine below_drewN ?_ _) | (with_reducible refine Below.drew ?_) | (with_reducible refine Below.alloc ?_ ?_ _) | (with_reducible refine Below.setCell ?_ ?_ _) | omega | (simp; done) | (simp; omega))
end Go.Proofs.YtdldokhiefeloaaDoor
