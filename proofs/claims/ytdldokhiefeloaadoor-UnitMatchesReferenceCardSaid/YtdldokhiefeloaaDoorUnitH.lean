/- Convert: what it returns, for all arguments. -/
import Derived.Test.YtdldokhiefeloaaDoorUnitG
namespace Go.Proofs.YtdldokhiefeloaaDoor
open Go.RowKit

theorem worth_bd (u to c e : Int) (hu : 1 ≤ u ∧ u ≤ 7) (ht : 1 ≤ to ∧ to ≤ 7) (hk : kindZ to = kindZ u) (hc : 1 ≤ c ∧ c ≤ 100000) (he : 1 ≤ e ∧ e ≤ 100000) (hne : u ≠ to) :
    1 ≤ worthN u c e * worthD to c e ∧ worthN u c e * worthD to c e ≤ 100000000 ∧ 1 ≤ worthD u c e * worthN to c e ∧ worthD u c e * worthN to c e ≤ 100000000 := by
  have h : (u = 2 ∧ to = 3) ∨ (u = 3 ∧ to = 2) ∨ (u = 4 ∧ to = 5) ∨ (u = 5 ∧ to = 4) ∨ (u = 6 ∧ to = 7) ∨ (u = 7 ∧ to = 6) := by
    unfold kindZ at hk
    repeat' split at hk
    all_goals omega
  rcases h with ⟨rfl, rfl⟩ | ⟨rfl, rfl⟩ | ⟨rfl, rfl⟩ | ⟨rfl, rfl⟩ | ⟨rfl, rfl⟩ | ⟨rfl, rfl⟩ <;> simp [worthN, worthD] <;> omega

theorem convMakes (ba bt br : Nat) (lo hi u to c e : Int) (w : World) (T : Tab w) (A : Amt w ba lo hi u) (N : w.cell? ⟨bt, 0, none⟩ = some (.int .i64 to)) (R0 : w.cell? ⟨br, 0, none⟩ = some (.int .i64 c)) (R1 : w.cell? ⟨br, 1, none⟩ = some (.int .i64 e))
    (hk : knownB lo hi u = true) (hr : ratesB c e = true) (hkk : kindZ to = kindZ u) :
    ∃ L H U, convR lo hi u to c e = checkR L H U ∧ Makes 61 #[.pointer (some ⟨ba, 0, none⟩), .pointer (some ⟨bt, 0, none⟩), .pointer (some ⟨br, 0, none⟩)] L H U w := by
  have k := (knownB_iff _ _ _).1 hk
  have r := (ratesB_iff _ _).1 hr
  by_cases hne : u = to
  · subst hne
    exact ⟨lo, hi, u, by simp [convR, hk, hr], convC_same _ _ _ _ _ _ w A N⟩
  · have ht : 1 ≤ to ∧ to ≤ 7 := kind_in to (by rw [hkk]; have := kindZ_zero u; omega)
    obtain ⟨p1, p2, p3, p4⟩ := worth_bd u to c e (by omega) ht hkk (by omega) (by omega) hne
    have e0 : 0 ≤ lo * (worthN u c e * worthD to c e) := Int.mul_nonneg (by omega) (by omega)
    have e1 : lo * (worthN u c e * worthD to c e) ≤ 999999 * 100000000 := Int.mul_le_mul (by omega) p2 (by omega) (by omega)
    have f0 : 0 ≤ hi * (worthN u c e * worthD to c e) := Int.mul_nonneg (by omega) (by omega)
    have f1 : hi * (worthN u c e * worthD to c e) ≤ 999999 * 100000000 := Int.mul_le_mul (by omega) p2 (by omega) (by omega)
    have g0 : 0 ≤ lo * (worthN u c e * worthD to c e) / (worthD u c e * worthN to c e) := Int.ediv_nonneg e0 (by omega)
    have g1 : lo * (worthN u c e * worthD to c e) / (worthD u c e * worthN to c e) ≤ lo * (worthN u c e * worthD to c e) := Int.ediv_le_self _ e0
    have i0 : 0 ≤ (hi * (worthN u c e * worthD to c e) + worthD u c e * worthN to c e - 1) / (worthD u c e * worthN to c e) := Int.ediv_nonneg (by omega) (by omega)
    have i1 : (hi * (worthN u c e * worthD to c e) + worthD u c e * worthN to c e - 1) / (worthD u c e * worthN to c e) ≤ hi * (worthN u c e * worthD to c e) + worthD u c e * worthN to c e - 1 := Int.ediv_le_self _ (by omega)
    refine ⟨_, _, to, ?_, convC' ba bt br lo hi u to c e _ _ _ _ _ _ w T A N R0 R1 hne (fun w T => worth_any u c e w T (by omega) (by omega)) (fun w T => worth_any to c e w T ht.1 ht.2) (by omega) p2 (by omega) p4
      (fun w => apply_any lo hi u (worthN u c e * worthD to c e) (worthD u c e * worthN to c e) 1 w e0 (by omega) f0 (by omega) p3 (by omega) (by omega) (by omega) (by omega) (by omega))⟩
    simp [convR, hk, hr, hkk, hne]

set_option maxHeartbeats 1000000 in
theorem convert_any (lo hi u to c e : Int) (w : World) (T : Tab w) :
    Calls Tryd.prog 25 #[.agg #[.int .i64 lo, .int .i64 hi, .int .i64 u], .int .i64 to, .agg #[.int .i64 c, .int .i64 e]] w fun r w' => r = .returned (resV (convR lo hi u to c e)) ∧ Below w.heap.size w w' := by
  have T1 := T.below (((((Below.refl _ _).alloc (Nat.le_refl _) (.cells #[.int .i64 lo, .int .i64 hi, .int .i64 u] 23)).alloc (by simp) (.cells #[.int .i64 to] 3)).alloc (by simp; omega) (.cells #[.int .i64 c, .int .i64 e] 26)).alloc (by simp; omega) (.cells #[.int .i64 0, .int .i64 0, .int .i64 0] 23)) T.size
  have HT := Lib.hid T1
  generalize hR : convR lo hi u to c e = R
  have HR := Lib.hid hR
  clear hR T1
  simp only [resV]
  cases hk : knownB lo hi u
  · have h : R = bad := by rw [← HR.out]; simp [convR, hk]
    have HK := Lib.hid (fun w T => hk ▸ known_any lo hi u w T)
    have HH := Lib.hid h
    clear hk h
    go_enter Tryd.func25, Tryd.ntmps25
    go_wp2_with fail
    refine wp_region_kin (by kernel_rfl) (by kernel_rfl) (w.heap.size) 4 (by first | assumption | (simp; done) | (simp; omega) | omega | (have := HS.out; omega)) (fun hk => ?_)
    repeat (go_big_quiet_step (first | (go_at_call 60; exact Calls.kin (HK.out _ (HT.out.next (Kin.below _))))))
    refine wpQuiet_nil ?_
    clear hk
    intro W1 hb1
    obtain ⟨hc1, hf1, hz1⟩ := after (B := w.heap.size) 4 hb1 (by first | assumption | (simp; done) | (simp; omega) | omega | (have := HS.out; omega)); have HB1 := Lib.hid hb1; clear hb1
    have T2 := HT.out.next HB1.out
    go_wp2_with fail
    refine (checkedB_conv false _ R W1 T2 (by simpa using HH.out)).mono ?_
    rintro e w2 ⟨rfl, hb⟩
    obtain ⟨hc2, hf2, hz2⟩ := after (B := w.heap.size) 4 hb (by first | assumption | (simp; done) | (simp; omega) | omega | (have := HS.out; omega)); have HB2 := Lib.hid hb; clear hb
    go_wp2
    refine bodyPost_ret (v := _) (by first | (simp [results, Tryd.results25, go_sem]; done) | simp [results, Tryd.results25, go_sem, *]) rfl ⟨rfl, by (repeat' first | exact Below.refl _ _ | assumption | (refine Below.andThen ?_ HB2.out) | (exact HB2.out.size) | (refine Below.andThen ?_ HB1.out) | (exact HB1.out.size) | (refine below_drewN ?_ _) | (refine Below.drew ?_) | (refine Below.alloc ?_ ?_ _) | (refine Below.setCell ?_ ?_ _) | (simp; done) | (simp; omega) | omega)⟩
  cases hr : ratesB c e
  · have h : R = bad := by rw [← HR.out]; simp [convR, hr]
    have HK := Lib.hid (fun w T => hk ▸ known_any lo hi u w T)
    have HV := Lib.hid (fun w => hr ▸ rates_any c e w)
    have HH := Lib.hid h
    clear hk h hr
    go_enter Tryd.func25, Tryd.ntmps25
    go_wp2_with fail
    refine wp_region_kin (by kernel_rfl) (by kernel_rfl) (w.heap.size) 4 (by first | assumption | (simp; done) | (simp; omega) | omega | (have := HS.out; omega)) (fun hk => ?_)
    repeat (go_big_quiet_step (first | (go_at_call 60; exact Calls.kin (HK.out _ (HT.out.next (Kin.below _)))) | (go_at_call 27; exact Calls.kin (HV.out _))))
    refine wpQuiet_nil ?_
    clear hk
    intro W1 hb1
    obtain ⟨hc1, hf1, hz1⟩ := after (B := w.heap.size) 4 hb1 (by first | assumption | (simp; done) | (simp; omega) | omega | (have := HS.out; omega)); have HB1 := Lib.hid hb1; clear hb1
    have T2 := HT.out.next HB1.out
    go_wp2_with fail
    refine (checkedB_conv false _ R W1 T2 (by simpa using HH.out)).mono ?_
    rintro e w2 ⟨rfl, hb⟩
    obtain ⟨hc2, hf2, hz2⟩ := after (B := w.heap.size) 4 hb (by first | assumption | (simp; done) | (simp; omega) | omega | (have := HS.out; omega)); have HB2 := Lib.hid hb; clear hb
    go_wp2
    refine bodyPost_ret (v := _) (by first | (simp [results, Tryd.results25, go_sem]; done) | simp [results, Tryd.results25, go_sem, *]) rfl ⟨rfl, by (repeat' first | exact Below.refl _ _ | assumption | (refine Below.andThen ?_ HB2.out) | (exact HB2.out.size) | (refine Below.andThen ?_ HB1.out) | (exact HB1.out.size) | (refine below_drewN ?_ _) | (refine Below.drew ?_) | (refine Below.alloc ?_ ?_ _) | (refine Below.setCell ?_ ?_ _) | (simp; done) | (simp; omega) | omega)⟩
  · have HK := Lib.hid (fun w T => hk ▸ known_any lo hi u w T)
    have HV := Lib.hid (fun w => hr ▸ rates_any c e w)
    have HKK := Lib.hid hk
    have HRR := Lib.hid hr
    clear hk hr
    go_enter Tryd.func25, Tryd.ntmps25
    go_wp2_with fail
    refine wp_region_kin (by kernel_rfl) (by kernel_rfl) (w.heap.size) 4 (by first | assumption | (simp; done) | (simp; omega) | omega | (have := HS.out; omega)) (fun hk => ?_)
    repeat (go_big_quiet_step (first | (go_at_call 60; exact Calls.kin (HK.out _ (HT.out.next (Kin.below _)))) | (go_at_call 27; exact Calls.kin (HV.out _)) | (go_at_call 29; exact Calls.kin_same (kind_any _ _ (HT.out.next (Kin.below _))))))
    refine wpQuiet_nil ?_
    clear hk
    intro W1 hb1
    obtain ⟨hc1, hf1, hz1⟩ := after (B := w.heap.size) 4 hb1 (by first | assumption | (simp; done) | (simp; omega) | omega | (have := HS.out; omega)); have HB1 := Lib.hid hb1; clear hb1
    have T2 := HT.out.next HB1.out
    go_wp2_with fail
    refine (checkedB_conv _ _ R W1 T2 ?_).mono ?_
    · split
      · rename_i hkk
        obtain ⟨L, H, U, h1, h2⟩ := convMakes w.heap.size (w.heap.size + 1) (w.heap.size + 2) lo hi u to c e W1 T2 ⟨by rw [hc1 _ _ (by omega)]; go_simp, by rw [hc1 _ _ (by omega)]; go_simp, by rw [hc1 _ _ (by omega)]; go_simp⟩ (by rw [hc1 _ _ (by omega)]; go_simp) (by rw [hc1 _ _ (by omega)]; go_simp) (by rw [hc1 _ _ (by omega)]; go_simp) HKK.out HRR.out (by simpa using hkk)
        exact ⟨L, H, U, HR.out.symm.trans h1, h2⟩
      · rename_i hkk
        rw [← HR.out]
        simp at hkk
        simp [convR, hkk]
    rintro e w2 ⟨rfl, hb⟩
    obtain ⟨hc2, hf2, hz2⟩ := after (B := w.heap.size) 4 hb (by first | assumption | (simp; done) | (simp; omega) | omega | (have := HS.out; omega)); have HB2 := Lib.hid hb; clear hb
    go_wp2
    refine bodyPost_ret (v := _) (by first | (simp [results, Tryd.results25, go_sem]; done) | simp [results, Tryd.results25, go_sem, *]) rfl ⟨rfl, by (repeat' first | exact Below.refl _ _ | assumption | (refine Below.andThen ?_ HB2.out) | (exact HB2.out.size) | (refine Below.andThen ?_ HB1.out) | (exact HB1.out.size) | (refine below_drewN ?_ _) | (refine Below.drew ?_) | (refine Below.alloc ?_ ?_ _) | (refine Below.setCell ?_ ?_ _) | (simp; done) | (simp; omega) | omega)⟩
end Go.Proofs.YtdldokhiefeloaaDoor
