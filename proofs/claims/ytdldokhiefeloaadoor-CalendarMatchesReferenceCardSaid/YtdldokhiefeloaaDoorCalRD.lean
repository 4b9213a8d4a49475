/- The reference's Print. -/
import Derived.Test.YtdldokhiefeloaaDoorCalRB
import Derived.Test.YtdldokhiefeloaaDoorCalRC
import Derived.Test.YtdldokhiefeloaaDoorCalOB
namespace Go.Proofs.YtdldokhiefeloaaDoor
open Go.RowKit

theorem refDig2 (n : Int) (w : World) (h : 0 ≤ n ∧ n ≤ 99) : Calls Tryd.prog 76 #[.int .i64 n, .int .i64 2] w fun e w' => e = .returned (.string (padS n)) ∧ Below w.heap.size w w' := by
  have := refDigits_any n 2 w h.1 (by omega) (by omega)
  rw [digS_2 h] at this
  exact this
theorem refDig4 (n : Int) (w : World) (h : 0 ≤ n ∧ n ≤ 9999) : Calls Tryd.prog 76 #[.int .i64 n, .int .i64 4] w fun e w' => e = .returned (.string (padS (n / 100) ++ padS (n % 100))) ∧ Below w.heap.size w w' := by
  have := refDigits_any n 4 w h.1 (by omega) (by omega)
  rw [digS_4 h] at this
  exact this
theorem date_flat (c : Civ) : (padS (c.y / 100) ++ padS (c.y % 100)) ++ ⟨#[45]⟩ ++ padS c.m ++ ⟨#[45]⟩ ++ padS c.d = dateS c := by
  refine Go.WideShapes.bytes_inj ?_
  rw [date_bytes]
  simp only [app_list, List.append_assoc]
  rfl

set_option maxRecDepth 100000 in
set_option maxHeartbeats 4000000 in
theorem refPrint_any (m o : Int) (w : World) :
    Calls Tryd.prog 46 #[.int .i64 m, .int .i64 o] w fun e w' => e = .returned (.tuple #[.string (printR m o).1, .string (printR m o).2.1, .int .i64 (printR m o).2.2]) ∧ Below w.heap.size w w' := by
  have HP := Lib.hid (fun w => refParts_any m o w)
  obtain ⟨V, hV⟩ : ∃ V, V = printR m o := ⟨_, rfl⟩
  rw [← hV]
  unfold printR at hV
  cases hg : (minuteB m && offsetB o)
  · have hE : partsE m o = 60 := by unfold partsE; rw [hg]; rfl
    rw [hE] at HP
    rw [hg] at hV
    simp only [Bool.false_eq_true, if_false] at hV
    subst hV
    clear hE hg
    go_enter Tryd.func46, Tryd.ntmps46
    go_wp2_with fail
    refine (HP.out _).mono ?_
    rintro e w2 ⟨rfl, hb⟩
    obtain ⟨hc2, hf2, hz2⟩ := after (B := w.heap.size) 0 hb (by first | assumption | (simp; done) | (simp; omega) | omega | (have := HS.out; omega)); have HB2 := Lib.hid hb; clear hb
    go_wp2
    go_ret3
    exact ⟨rfl, by (repeat' first | with_reducible exact Below.refl _ _ | with_reducible assumption | (with_reducible refine below_drewN ?_ _) | (with_reducible refine Below.drew ?_) | (with_reducible refine Below.alloc ?_ ?_ _) | (with_reducible refine Below.setCell ?_ ?_ _) | (with_reducible refine Below.andThen ?_ HB2.out) | (with_reducible exact HB2.out.size) | omega | (simp; done) | (simp; omega))⟩
  · have hE : partsE m o = 0 := by unfold partsE; rw [hg]; rfl
    have hin := parts_in hg
    rw [hE] at HP
    rw [hg] at hV
    simp only [if_true] at hV
    clear hE hg
    generalize partsR m o = R at *
    obtain ⟨y, mo, d, h, n, wd⟩ := R
    dsimp only at hV HP hin
    obtain ⟨i0, i1, i2, i3, i4, i5, i6, i7, i8, i9⟩ := hin
    have HV2 := Lib.hid (show V = (((((padS (y / 100) ++ padS (y % 100)) ++ ⟨#[45]⟩) ++ padS mo) ++ ⟨#[45]⟩) ++ padS d, (padS h ++ ⟨#[58]⟩) ++ padS n, 0) by
      rw [hV, ← date_flat ⟨y, mo, d, h, n, wd⟩]
      rfl)
    clear hV
    have HY := (fun w => refDig4 y w (by omega))
    have HMo := (fun w => refDig2 mo w (by omega))
    have HD := (fun w => refDig2 d w (by omega))
    have HH := (fun w => refDig2 h w (by omega))
    have HN := (fun w => refDig2 n w (by omega))
    obtain ⟨P0, hP0, s0⟩ : ∃ P, padS (y / 100) ++ padS (y % 100) = P ∧ P.size = 4 := ⟨_, rfl, by rw [ByteArray.size_append]; rfl⟩
    obtain ⟨P2, hP2, s2⟩ : ∃ P, padS mo = P ∧ P.size = 2 := ⟨_, rfl, rfl⟩
    obtain ⟨P3, hP3, s3⟩ : ∃ P, padS d = P ∧ P.size = 2 := ⟨_, rfl, rfl⟩
    obtain ⟨P4, hP4, s4⟩ : ∃ P, padS h = P ∧ P.size = 2 := ⟨_, rfl, rfl⟩
    obtain ⟨P5, hP5, s5⟩ : ∃ P, padS n = P ∧ P.size = 2 := ⟨_, rfl, rfl⟩
    rw [hP0, hP2, hP3, hP4, hP5] at HV2
    rw [hP0] at HY
    rw [hP2] at HMo
    rw [hP3] at HD
    rw [hP4] at HH
    rw [hP5] at HN
    replace HY := Lib.hid HY
    replace HMo := Lib.hid HMo
    replace HD := Lib.hid HD
    replace HH := Lib.hid HH
    replace HN := Lib.hid HN
    clear hP0 hP2 hP3 hP4 hP5
    have t1 : (P0 ++ ⟨#[45]⟩).size = 5 := by rw [ByteArray.size_append, s0]; rfl
    have t2 : (P0 ++ ⟨#[45]⟩ ++ P2).size = 7 := by rw [ByteArray.size_append, t1, s2]
    have t3 : (P0 ++ ⟨#[45]⟩ ++ P2 ++ ⟨#[45]⟩).size = 8 := by rw [ByteArray.size_append, t2]; rfl
    have t4 : (P4 ++ ⟨#[58]⟩).size = 3 := by rw [ByteArray.size_append, s4]; rfl
    have t5 : (⟨#[45]⟩ : ByteArray).size = 1 := rfl
    have t6 : (⟨#[58]⟩ : ByteArray).size = 1 := rfl
    go_enter Tryd.func46, Tryd.ntmps46
    go_wp2_with fail
    refine (HP.out _).mono ?_
    rintro e w2 ⟨rfl, hb⟩
    obtain ⟨hc2, hf2, hz2⟩ := after (B := w.heap.size) 0 hb (by first | assumption | (simp; done) | (simp; omega) | omega | (have := HS.out; omega)); have HB2 := Lib.hid hb; clear hb
    go_wp2_with fail
    refine wp_region_kin (by kernel_rfl) (by kernel_rfl) (w2.heap.size) 1 (by first | assumption | (simp; done) | (simp; omega) | omega | (have := HS.out; omega)) (fun hk => ?_)
    repeat (go_big_quiet_step ((go_at_call 76; first | with_reducible exact Calls.kin (HY.out _) | with_reducible exact Calls.kin (HMo.out _) | with_reducible exact Calls.kin (HD.out _) | with_reducible exact Calls.kin (HH.out _) | with_reducible exact Calls.kin (HN.out _))))
    refine wpQuiet_nil ?_
    clear hk
    intro W3 hb3
    obtain ⟨hc3, hf3, hz3⟩ := after (B := w2.heap.size) 1 hb3 (by first | assumption | (simp; done) | (simp; omega) | omega | (have := HS.out; omega)); have HB3 := Lib.hid hb3; clear hb3
    go_wp2
    go_ret3
    refine ⟨?_, ?_⟩
    · rw [HV2.out]
      rfl
    · (repeat' first | with_reducible exact Below.refl _ _ | with_reducible assumption | (with_reducible refine below_drewN ?_ _) | (with_reducible refine Below.drew ?_) | (with_reducible refine Below.alloc ?_ ?_ _) | (with_reducible refine Below.setCell ?_ ?_ _) | (with_reducible refine Below.andThen ?_ HB3.out) | (with_reducible exact HB3.out.size) | (with_reducible refine Below.andThen ?_ HB2.out) | (with_reducible exact HB2.out.size) | omega | (simp; done) | (simp; omega))
end Go.Proofs.YtdldokhiefeloaaDoor
