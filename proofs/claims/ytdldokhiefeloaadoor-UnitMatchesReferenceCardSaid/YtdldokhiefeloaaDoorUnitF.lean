/- Add, Meet, Coarse, Share, Convert and Contains: what they return, for all amounts. -/
import Derived.Test.YtdldokhiefeloaaDoorUnitE
namespace Go.Proofs.YtdldokhiefeloaaDoor
open Go.RowKit

set_option maxHeartbeats 1000000 in
theorem add_no (a b c x y z : Int) (w : World) (T : Tab w) (hk : (knownB a b c && knownB x y z && (c == z)) = false) :
    Calls Tryd.prog 17 #[.agg #[.int .i64 a, .int .i64 b, .int .i64 c], .agg #[.int .i64 x, .int .i64 y, .int .i64 z]] w fun r w' => r = .returned (.tuple #[.agg #[.int .i64 0, .int .i64 0, .int .i64 0], .int .i64 50]) ∧ Below w.heap.size w w' := by
  have T1 := T.below ((((Below.refl _ _).alloc (Nat.le_refl _) (.cells #[.int .i64 a, .int .i64 b, .int .i64 c] 23)).alloc (by simp) (.cells #[.int .i64 x, .int .i64 y, .int .i64 z] 23)).alloc (by simp; omega) (.cells #[.int .i64 0, .int .i64 0, .int .i64 0] 23)) T.size
  have C := alike_any a b c x y z _ T1
  rw [hk] at C
  have HC := Lib.hid C
  clear C hk
  go_enter Tryd.func17, Tryd.ntmps17
  go_wp2_with fail
  refine HC.out.mono ?_
  rintro e w1 ⟨rfl, hb⟩
  obtain ⟨hc1, hf1, hz1⟩ := after (B := w.heap.size) 3 hb (by first | assumption | (simp; done) | (simp; omega) | omega | (have := HS.out; omega)); have HB1 := Lib.hid hb; clear hb
  go_wp2_with fail
  refine (checked_no _ _ _).mono ?_
  rintro e w2 ⟨rfl, hb⟩
  obtain ⟨hc2, hf2, hz2⟩ := after (B := w.heap.size) 3 hb (by first | assumption | (simp; done) | (simp; omega) | omega | (have := HS.out; omega)); have HB2 := Lib.hid hb; clear hb
  simp only [resV, bad]
  go_wp2
  refine bodyPost_ret (v := _) (by first | (simp [results, Tryd.results17, go_sem]; done) | simp [results, Tryd.results17, go_sem, *]) rfl ⟨rfl, by (repeat' first | exact Below.refl _ _ | assumption | (refine Below.andThen ?_ HB2.out) | (exact HB2.out.size) | (refine Below.andThen ?_ HB1.out) | (exact HB1.out.size) | (refine below_drewN ?_ _) | (refine Below.drew ?_) | (refine Below.alloc ?_ ?_ _) | (refine Below.setCell ?_ ?_ _) | (simp; done) | (simp; omega) | omega)⟩

set_option maxHeartbeats 1000000 in
theorem add_yes (a b c x y z L H U E : Int) (w : World) (T : Tab w) (hk : (knownB a b c && knownB x y z && (c == z)) = true) (hr : checkR (a + x) (b + y) c = ⟨L, H, U, E⟩) :
    Calls Tryd.prog 17 #[.agg #[.int .i64 a, .int .i64 b, .int .i64 c], .agg #[.int .i64 x, .int .i64 y, .int .i64 z]] w fun r w' => r = .returned (.tuple #[.agg #[.int .i64 L, .int .i64 H, .int .i64 U], .int .i64 E]) ∧ Below w.heap.size w w' := by
  have T1 := T.below ((((Below.refl _ _).alloc (Nat.le_refl _) (.cells #[.int .i64 a, .int .i64 b, .int .i64 c] 23)).alloc (by simp) (.cells #[.int .i64 x, .int .i64 y, .int .i64 z] 23)).alloc (by simp; omega) (.cells #[.int .i64 0, .int .i64 0, .int .i64 0] 23)) T.size
  have C := alike_any a b c x y z _ T1
  have hk' := hk
  simp only [Bool.and_eq_true, beq_iff_eq, knownB_iff] at hk'
  rw [hk] at C
  have HC := Lib.hid C
  have HT := Lib.hid T1
  have HK := Lib.hid hk'
  have HR := Lib.hid hr
  clear C hk hk' T1 hr
  go_enter Tryd.func17, Tryd.ntmps17
  go_wp2_with fail
  refine HC.out.mono ?_
  rintro e w1 ⟨rfl, hb⟩
  have T2 := HT.out.next hb
  obtain ⟨hc1, hf1, hz1⟩ := after (B := w.heap.size) 3 hb (by first | assumption | (simp; done) | (simp; omega) | omega | (have := HS.out; omega)); have HB1 := Lib.hid hb; clear hb
  have A1 : Amt w1 w.heap.size a b c := ⟨by rw [hc1 _ _ (by omega)]; go_simp, by rw [hc1 _ _ (by omega)]; go_simp, by rw [hc1 _ _ (by omega)]; go_simp⟩
  have A2 : Amt w1 (w.heap.size + 1) x y z := ⟨by rw [hc1 _ _ (by omega)]; go_simp, by rw [hc1 _ _ (by omega)]; go_simp, by rw [hc1 _ _ (by omega)]; go_simp⟩
  obtain ⟨k1, k2, k3, k4, k5, k6, k7, k8⟩ : 0 ≤ a ∧ a ≤ 999999 ∧ 0 ≤ b ∧ b ≤ 999999 ∧ 0 ≤ x ∧ x ≤ 999999 ∧ 0 ≤ y ∧ y ≤ 999999 := by have := HK.out; omega
  have M := checked_add #[.pointer (some ⟨w.heap.size, 0, none⟩), .pointer (some ⟨w.heap.size + 1, 0, none⟩)] _ _ _ w1 T2 (addC _ _ _ _ _ _ _ _ w1 A1 A2 k1 k2 k3 k4 k5 k6 k7 k8)
  rw [HR.out] at M
  have HM := Lib.hid M
  clear M A1 A2 T2 k1 k2 k3 k4 k5 k6 k7 k8
  go_wp2_with fail
  refine HM.out.mono ?_
  simp only [resV]
  rintro e w2 ⟨rfl, hb⟩
  obtain ⟨hc2, hf2, hz2⟩ := after (B := w.heap.size) 3 hb (by first | assumption | (simp; done) | (simp; omega) | omega | (have := HS.out; omega)); have HB2 := Lib.hid hb; clear hb
  go_wp2
  refine bodyPost_ret (v := _) (by first | (simp [results, Tryd.results17, go_sem]; done) | simp [results, Tryd.results17, go_sem, *]) rfl ⟨rfl, by (repeat' first | exact Below.refl _ _ | assumption | (refine Below.andThen ?_ HB2.out) | (exact HB2.out.size) | (refine Below.andThen ?_ HB1.out) | (exact HB1.out.size) | (refine below_drewN ?_ _) | (refine Below.drew ?_) | (refine Below.alloc ?_ ?_ _) | (refine Below.setCell ?_ ?_ _) | (simp; done) | (simp; omega) | omega)⟩

theorem add_any (a b c x y z : Int) (w : World) (T : Tab w) :
    Calls Tryd.prog 17 #[.agg #[.int .i64 a, .int .i64 b, .int .i64 c], .agg #[.int .i64 x, .int .i64 y, .int .i64 z]] w fun r w' => r = .returned (resV (addR a b c x y z)) ∧ Below w.heap.size w w' := by
  cases hk : knownB a b c && knownB x y z && (c == z)
  · have e : addR a b c x y z = bad := by simp [addR, hk]
    rw [e]
    exact add_no a b c x y z w T hk
  · have e : addR a b c x y z = checkR (a + x) (b + y) c := by simp [addR, hk]
    rw [e]
    exact add_yes a b c x y z _ _ _ _ w T hk rfl

set_option maxHeartbeats 1000000 in
theorem meet_no (a b c x y z : Int) (w : World) (T : Tab w) (hk : (knownB a b c && knownB x y z && (c == z)) = false) :
    Calls Tryd.prog 19 #[.agg #[.int .i64 a, .int .i64 b, .int .i64 c], .agg #[.int .i64 x, .int .i64 y, .int .i64 z]] w fun r w' => r = .returned (.tuple #[.agg #[.int .i64 0, .int .i64 0, .int .i64 0], .int .i64 50]) ∧ Below w.heap.size w w' := by
  have T1 := T.below ((((Below.refl _ _).alloc (Nat.le_refl _) (.cells #[.int .i64 a, .int .i64 b, .int .i64 c] 23)).alloc (by simp) (.cells #[.int .i64 x, .int .i64 y, .int .i64 z] 23)).alloc (by simp; omega) (.cells #[.int .i64 0, .int .i64 0, .int .i64 0] 23)) T.size
  have C := alike_any a b c x y z _ T1
  rw [hk] at C
  have HC := Lib.hid C
  clear C hk
  go_enter Tryd.func19, Tryd.ntmps19
  go_wp2_with fail
  refine HC.out.mono ?_
  rintro e w1 ⟨rfl, hb⟩
  obtain ⟨hc1, hf1, hz1⟩ := after (B := w.heap.size) 3 hb (by first | assumption | (simp; done) | (simp; omega) | omega | (have := HS.out; omega)); have HB1 := Lib.hid hb; clear hb
  go_wp2_with fail
  refine (checked_no _ _ _).mono ?_
  rintro e w2 ⟨rfl, hb⟩
  obtain ⟨hc2, hf2, hz2⟩ := after (B := w.heap.size) 3 hb (by first | assumption | (simp; done) | (simp; omega) | omega | (have := HS.out; omega)); have HB2 := Lib.hid hb; clear hb
  simp only [resV, bad]
  go_wp2
  refine bodyPost_ret (v := _) (by first | (simp [results, Tryd.results19, go_sem]; done) | simp [results, Tryd.results19, go_sem, *]) rfl ⟨rfl, by (repeat' first | exact Below.refl _ _ | assumption | (refine Below.andThen ?_ HB2.out) | (exact HB2.out.size) | (refine Below.andThen ?_ HB1.out) | (exact HB1.out.size) | (refine below_drewN ?_ _) | (refine Below.drew ?_) | (refine Below.alloc ?_ ?_ _) | (refine Below.setCell ?_ ?_ _) | (simp; done) | (simp; omega) | omega)⟩

set_option maxHeartbeats 1000000 in
theorem meet_yes (a b c x y z L H U E : Int) (w : World) (T : Tab w) (hk : (knownB a b c && knownB x y z && (c == z)) = true) (hr : checkR (max a x) (min b y) c = ⟨L, H, U, E⟩) :
    Calls Tryd.prog 19 #[.agg #[.int .i64 a, .int .i64 b, .int .i64 c], .agg #[.int .i64 x, .int .i64 y, .int .i64 z]] w fun r w' => r = .returned (.tuple #[.agg #[.int .i64 L, .int .i64 H, .int .i64 U], .int .i64 E]) ∧ Below w.heap.size w w' := by
  have T1 := T.below ((((Below.refl _ _).alloc (Nat.le_refl _) (.cells #[.int .i64 a, .int .i64 b, .int .i64 c] 23)).alloc (by simp) (.cells #[.int .i64 x, .int .i64 y, .int .i64 z] 23)).alloc (by simp; omega) (.cells #[.int .i64 0, .int .i64 0, .int .i64 0] 23)) T.size
  have C := alike_any a b c x y z _ T1
  have hk' := hk
  simp only [Bool.and_eq_true, beq_iff_eq, knownB_iff] at hk'
  rw [hk] at C
  have HC := Lib.hid C
  have HT := Lib.hid T1
  have HK := Lib.hid hk'
  have HR := Lib.hid hr
  clear C hk hk' T1 hr
  go_enter Tryd.func19, Tryd.ntmps19
  go_wp2_with fail
  refine HC.out.mono ?_
  rintro e w1 ⟨rfl, hb⟩
  have T2 := HT.out.next hb
  obtain ⟨hc1, hf1, hz1⟩ := after (B := w.heap.size) 3 hb (by first | assumption | (simp; done) | (simp; omega) | omega | (have := HS.out; omega)); have HB1 := Lib.hid hb; clear hb
  have A1 : Amt w1 w.heap.size a b c := ⟨by rw [hc1 _ _ (by omega)]; go_simp, by rw [hc1 _ _ (by omega)]; go_simp, by rw [hc1 _ _ (by omega)]; go_simp⟩
  have A2 : Amt w1 (w.heap.size + 1) x y z := ⟨by rw [hc1 _ _ (by omega)]; go_simp, by rw [hc1 _ _ (by omega)]; go_simp, by rw [hc1 _ _ (by omega)]; go_simp⟩
  obtain ⟨k1, k2, k3, k4, k5, k6, k7, k8⟩ : 0 ≤ a ∧ a ≤ 999999 ∧ 0 ≤ b ∧ b ≤ 999999 ∧ 0 ≤ x ∧ x ≤ 999999 ∧ 0 ≤ y ∧ y ≤ 999999 := by have := HK.out; omega
  have M := checked_meet #[.pointer (some ⟨w.heap.size, 0, none⟩), .pointer (some ⟨w.heap.size + 1, 0, none⟩)] _ _ _ w1 T2 (meetC _ _ _ _ _ _ _ _ w1 A1 A2)
  rw [HR.out] at M
  have HM := Lib.hid M
  clear M A1 A2 T2 k1 k2 k3 k4 k5 k6 k7 k8
  go_wp2_with fail
  refine HM.out.mono ?_
  simp only [resV]
  rintro e w2 ⟨rfl, hb⟩
  obtain ⟨hc2, hf2, hz2⟩ := after (B := w.heap.size) 3 hb (by first | assumption | (simp; done) | (simp; omega) | omega | (have := HS.out; omega)); have HB2 := Lib.hid hb; clear hb
  go_wp2
  refine bodyPost_ret (v := _) (by first | (simp [results, Tryd.results19, go_sem]; done) | simp [results, Tryd.results19, go_sem, *]) rfl ⟨rfl, by (repeat' first | exact Below.refl _ _ | assumption | (refine Below.andThen ?_ HB2.out) | (exact HB2.out.size) | (refine Below.andThen ?_ HB1.out) | (exact HB1.out.size) | (refine below_drewN ?_ _) | (refine Below.drew ?_) | (refine Below.alloc ?_ ?_ _) | (refine Below.setCell ?_ ?_ _) | (simp; done) | (simp; omega) | omega)⟩

theorem meet_any (a b c x y z : Int) (w : World) (T : Tab w) :
    Calls Tryd.prog 19 #[.agg #[.int .i64 a, .int .i64 b, .int .i64 c], .agg #[.int .i64 x, .int .i64 y, .int .i64 z]] w fun r w' => r = .returned (resV (meetR a b c x y z)) ∧ Below w.heap.size w w' := by
  cases hk : knownB a b c && knownB x y z && (c == z)
  · have e : meetR a b c x y z = bad := by simp [meetR, hk]
    rw [e]
    exact meet_no a b c x y z w T hk
  · have e : meetR a b c x y z = checkR (max a x) (min b y) c := by simp [meetR, hk]
    rw [e]
    exact meet_yes a b c x y z _ _ _ _ w T hk rfl

end Go.Proofs.YtdldokhiefeloaaDoor
