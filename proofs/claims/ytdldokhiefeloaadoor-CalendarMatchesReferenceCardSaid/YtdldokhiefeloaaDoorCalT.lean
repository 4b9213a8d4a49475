/- Print: for all arguments. -/
import Derived.Test.YtdldokhiefeloaaDoorCalQ
import Derived.Test.YtdldokhiefeloaaDoorShelf
import Derived.Shelf.Strings.PiecesUse
namespace Go.Proofs.YtdldokhiefeloaaDoor
open Go.RowKit

def dash : ByteArray := ⟨#[45]⟩
def colon : ByteArray := ⟨#[58]⟩
def dateS (c : Civ) : ByteArray := ⟨(Lib.join ([padS (c.y / 100) ++ padS (c.y % 100), padS c.m, padS c.d].map (·.data.toList)) dash.data.toList).toArray⟩
def clockS (c : Civ) : ByteArray := padS c.h ++ colon ++ padS c.n
def printR (m o : Int) : ByteArray × ByteArray × Int := if (minuteB m && offsetB o) = true then (dateS (partsR m o), clockS (partsR m o), 0) else (⟨#[]⟩, ⟨#[]⟩, 60)
theorem parts_in {m o : Int} (h : (minuteB m && offsetB o) = true) : 1999 ≤ (partsR m o).y ∧ (partsR m o).y ≤ 2099 ∧ 1 ≤ (partsR m o).m ∧ (partsR m o).m ≤ 12 ∧ 1 ≤ (partsR m o).d ∧ (partsR m o).d ≤ 31 ∧ 0 ≤ (partsR m o).h ∧ (partsR m o).h < 24 ∧ 0 ≤ (partsR m o).n ∧ (partsR m o).n < 60 := by
  unfold partsR
  rw [if_pos h]
  rw [Bool.and_eq_true] at h
  have km : 0 ≤ m ∧ m ≤ 50000000 := by have := h.1; unfold minuteB at this; simpa using this
  have ko : -840 ≤ o ∧ o ≤ 840 := by have := h.2; unfold offsetB at this; simpa using this
  obtain ⟨k, hk, a, b, e⟩ := civ_spec (L := m + o) (by omega) (by omega)
  obtain ⟨d0, d1, t0, t1, el⟩ := day_bd (L := m + o) (by omega) (by omega)
  have fs := firstM_succ k
  have db := (daysM_bd k (by omega)).2
  obtain ⟨m1, m2⟩ := stM_ym k
  rw [e]
  dsimp only
  omega

theorem pad_len (n : Int) : (padS n).data.toList.length = 2 := rfl
theorem app_list (a b : ByteArray) : (a ++ b).data.toList = a.data.toList ++ b.data.toList := by simp
theorem date_len (c : Civ) : (Lib.join ([padS (c.y / 100) ++ padS (c.y % 100), padS c.m, padS c.d].map (·.data.toList)) dash.data.toList).length = 10 := by
  rw [List.map_cons, Lib.join_length]
  simp only [List.map_cons, List.map_nil, Lib.lens, List.length_cons, List.length_nil, List.sum_cons, List.sum_nil, app_list, List.length_append, pad_len]
  rfl

set_option maxRecDepth 100000 in
set_option maxHeartbeats 4000000 in
theorem print_any (m o : Int) (w : World) (T : CTab w) :
    Calls Tryd.prog 45 #[.int .i64 m, .int .i64 o] w fun e w' => e = .returned (.tuple #[.string (printR m o).1, .string (printR m o).2.1, .int .i64 (printR m o).2.2]) ∧ Below w.heap.size w w' := by
  have HT := Lib.hid T
  have HP := Lib.hid (fun w T => parts_any m o w T)
  obtain ⟨V, hV⟩ : ∃ V, V = printR m o := ⟨_, rfl⟩
  rw [← hV]
  unfold printR at hV
  clear T
  cases hg : (minuteB m && offsetB o)
  · have hE : partsE m o = 60 := by unfold partsE; rw [hg]; rfl
    rw [hE] at HP
    rw [hg] at hV
    simp only [Bool.false_eq_true, if_false] at hV
    subst hV
    clear hE hg
    go_enter Tryd.func45, Tryd.ntmps45
    go_wp2_with fail
    refine (HP.out _ HT.out).mono ?_
    rintro e w2 ⟨rfl, hb⟩
    obtain ⟨hc2, hf2, hz2⟩ := after (B := w.heap.size) 0 hb (by first | assumption | (simp; done) | (simp; omega) | omega | (have := HS.out; omega)); have HB2 := Lib.hid hb; clear hb
    go_wp2
    go_ret3
    exact ⟨rfl, by (repeat' first | with_reducible exact Below.refl _ _ | with_reducible assumption | (with_reducible refine below_drewN ?_ _) | (with_reducible refine Below.drew ?_) | (with_reducible refine Below.alloc ?_ ?_ _) | (with_reducible refine Below.setCell ?_ ?_ _) | (with_reducible refine Below.andThen ?_ HB2.out) | (with_reducible exact HB2.out.size) | omega | (simp; done) | (simp; omega))⟩
  · have hE : partsE m o = 0 := by unfold partsE; rw [hg]; rfl
    have hin := parts_in hg
    rw [hE] at HP
    rw [hg] at hV
    simp only [if_true] at hV
    clear hE hg
    generalize partsR m o = R at *
    obtain ⟨y, mo, d, h, n, wd⟩ := R
    dsimp only at hV HP hin
    have HV := Lib.hid hV
    clear hV
    obtain ⟨i0, i1, i2, i3, i4, i5, i6, i7, i8, i9⟩ := hin
    have DL := Lib.hid (date_len ⟨y, mo, d, h, n, wd⟩)
    have HV2 := Lib.hid (show V = (⟨(Lib.join ([padS (y / 100) ++ padS (y % 100), padS mo, padS d].map (·.data.toList)) dash.data.toList).toArray⟩, padS h ++ colon ++ padS n, 0) from HV.out)
    clear HV
    have HY := (fun w => padded_any (y / 100) w (by omega) (by omega))
    have HZ := (fun w => padded_any (y % 100) w (by omega) (by omega))
    have HMo := (fun w => padded_any (mo) w (by omega) (by omega))
    have HD := (fun w => padded_any (d) w (by omega) (by omega))
    have HH := (fun w => padded_any (h) w (by omega) (by omega))
    have HN := (fun w => padded_any (n) w (by omega) (by omega))
    dsimp only at DL
    obtain ⟨P0, hP0, s0⟩ : ∃ P, padS (y / 100) = P ∧ P.size = 2 := ⟨_, rfl, rfl⟩
    obtain ⟨P1, hP1, s1⟩ : ∃ P, padS (y % 100) = P ∧ P.size = 2 := ⟨_, rfl, rfl⟩
    obtain ⟨P2, hP2, s2⟩ : ∃ P, padS (mo) = P ∧ P.size = 2 := ⟨_, rfl, rfl⟩
    obtain ⟨P3, hP3, s3⟩ : ∃ P, padS (d) = P ∧ P.size = 2 := ⟨_, rfl, rfl⟩
    obtain ⟨P4, hP4, s4⟩ : ∃ P, padS (h) = P ∧ P.size = 2 := ⟨_, rfl, rfl⟩
    obtain ⟨P5, hP5, s5⟩ : ∃ P, padS (n) = P ∧ P.size = 2 := ⟨_, rfl, rfl⟩
    rw [hP0, hP1, hP2, hP3, hP4, hP5] at HV2
    rw [hP0, hP1, hP2, hP3] at DL
    rw [hP0] at HY
    rw [hP1] at HZ
    rw [hP2] at HMo
    rw [hP3] at HD
    rw [hP4] at HH
    rw [hP5] at HN
    replace HY := Lib.hid HY
    replace HZ := Lib.hid HZ
    replace HMo := Lib.hid HMo
    replace HD := Lib.hid HD
    replace HH := Lib.hid HH
    replace HN := Lib.hid HN
    clear hP0 hP1 hP2 hP3 hP4 hP5
    have s01 : (P0 ++ P1).size = 4 := by rw [ByteArray.size_append]; omega
    have s45 : (P4 ++ ⟨#[58]⟩).size = 3 := by rw [ByteArray.size_append]; show P4.size + 1 = 3; omega
    go_enter Tryd.func45, Tryd.ntmps45
    go_wp2_with fail
    refine (HP.out _ HT.out).mono ?_
    rintro e w2 ⟨rfl, hb⟩
    obtain ⟨hc2, hf2, hz2⟩ := after (B := w.heap.size) 0 hb (by first | assumption | (simp; done) | (simp; omega) | omega | (have := HS.out; omega)); have HB2 := Lib.hid hb; clear hb
    go_wp2_with fail
    have y0 : w2.heap.size < (w2.alloc (.cells #[.int .i64 y, .int .i64 mo, .int .i64 d, .int .i64 h, .int .i64 n, .int .i64 wd] 57)).heap.size := by simp
    refine wp_region_kin_tail 15 (by kernel_rfl) (by kernel_rfl) (w2.heap.size) 1 (by first | assumption | (simp; done) | (simp; omega) | omega | (have := HS.out; omega)) (fun hk => ?_)
    simp only [List.take_succ_cons, List.take_zero, List.drop_succ_cons, List.drop_zero]
    repeat (go_big_quiet_step ((go_at_call 75; first | with_reducible exact Calls.kin (HY.out _) | with_reducible exact Calls.kin (HZ.out _) | with_reducible exact Calls.kin (HMo.out _) | with_reducible exact Calls.kin (HD.out _))))
    refine wpQuiet_nil ?_
    clear hk
    intro W3 hb3
    obtain ⟨hc3, hf3, hz3⟩ := after (B := w2.heap.size) 1 hb3 (by first | assumption | (simp; done) | (simp; omega) | omega | (have := HS.out; omega)); have HB3 := Lib.hid hb3; clear hb3
    go_wp2_with fail
    obtain ⟨J, hJ⟩ : ∃ J : ByteArray, J = ⟨(Lib.join ([P0 ++ P1, P2, P3].map (·.data.toList)) dash.data.toList).toArray⟩ := ⟨_, rfl⟩
    have JC := Tryd.strings_Join W3.heap.size 0 3 [P0 ++ P1, P2, P3] dash (W3.alloc (.cells #[.string (P0 ++ P1), .string P2, .string P3] 9)) (Lib.pieces_cell W3 [P0 ++ P1, P2, P3] 9) (by simp) (by simp) (by simp) (by rw [DL.out]; omega)
    rw [← hJ] at JC HV2
    have sJ : J.size = 10 := by rw [hJ]; exact DL.out
    clear hJ
    refine JC.mono ?_
    rintro e w4 ⟨rfl, hb⟩
    clear JC
    have z3 : w2.heap.size < W3.heap.size := by omega
    have z30 : W3.heap.size ≠ w2.heap.size := by omega
    obtain ⟨hc4, hf4, hz4⟩ := after (B := w2.heap.size) 1 hb (by first | assumption | (simp; done) | (simp; omega) | omega | (have := HS.out; omega)); have HB4 := Lib.hid hb; clear hb
    go_wp2_with fail
    refine wp_region_kin (by kernel_rfl) (by kernel_rfl) (w2.heap.size) 1 (by first | assumption | (simp; done) | (simp; omega) | omega | (have := HS.out; omega)) (fun hk => ?_)
    repeat (go_big_quiet_step ((go_at_call 75; first | with_reducible exact Calls.kin (HH.out _) | with_reducible exact Calls.kin (HN.out _))))
    refine wpQuiet_nil ?_
    clear hk
    intro W5 hb5
    obtain ⟨hc5, hf5, hz5⟩ := after (B := w2.heap.size) 1 hb5 (by first | assumption | (simp; done) | (simp; omega) | omega | (have := HS.out; omega)); have HB5 := Lib.hid hb5; clear hb5
    go_wp2
    go_ret3
    refine ⟨?_, ?_⟩
    · rw [HV2.out]
      rfl
    · (repeat' first | with_reducible exact Below.refl _ _ | with_reducible assumption | (with_reducible refine below_drewN ?_ _) | (with_reducible refine Below.drew ?_) | (with_reducible refine Below.alloc ?_ ?_ _) | (with_reducible refine Below.setCell ?_ ?_ _) | (with_reducible refine Below.andThen ?_ HB5.out) | (with_reducible exact HB5.out.size) | (with_reducible refine Below.andThen ?_ HB4.out) | (with_reducible exact HB4.out.size) | (with_reducible refine Below.andThen ?_ HB3.out) | (with_reducible exact HB3.out.size) | (with_reducible refine Below.andThen ?_ HB2.out) | (with_reducible exact HB2.out.size) | omega | (simp; done) | (simp; omega))
end Go.Proofs.YtdldokhiefeloaaDoor
