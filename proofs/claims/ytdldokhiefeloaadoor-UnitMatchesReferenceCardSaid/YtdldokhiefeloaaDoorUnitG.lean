/- Coarse, Share, Convert and Contains: what they return, for all arguments. -/
import Derived.Test.YtdldokhiefeloaaDoorUnitF
namespace Go.Proofs.YtdldokhiefeloaaDoor
open Go.RowKit

/-- .. whatever the test of the arguments said. -/
theorem checkedB_coarse (r : Bool) (cap : Array Value) (R : Res) (w : World) (T : Tab w) (h : if r = true then ∃ L H U, R = checkR L H U ∧ Makes 67 cap L H U w else R = bad) :
    Calls Tryd.prog 55 #[.bool r, .func (.func 67) #[] cap] w fun r w' => r = .returned (.tuple #[.agg #[.int .i64 R.lo, .int .i64 R.hi, .int .i64 R.u], .int .i64 R.e]) ∧ Below w.heap.size w w' := by
  cases r
  · simp only [Bool.false_eq_true, if_false] at h
    subst h
    exact checked_no _ _ _
  · simp only [if_true] at h
    obtain ⟨L, H, U, rfl, hM⟩ := h
    exact checked_coarse cap L H U w T hM

/-- .. whatever the test of the arguments said. -/
theorem checkedB_share (r : Bool) (cap : Array Value) (R : Res) (w : World) (T : Tab w) (h : if r = true then ∃ L H U, R = checkR L H U ∧ Makes 68 cap L H U w else R = bad) :
    Calls Tryd.prog 55 #[.bool r, .func (.func 68) #[] cap] w fun r w' => r = .returned (.tuple #[.agg #[.int .i64 R.lo, .int .i64 R.hi, .int .i64 R.u], .int .i64 R.e]) ∧ Below w.heap.size w w' := by
  cases r
  · simp only [Bool.false_eq_true, if_false] at h
    subst h
    exact checked_no _ _ _
  · simp only [if_true] at h
    obtain ⟨L, H, U, rfl, hM⟩ := h
    exact checked_share cap L H U w T hM

/-- .. whatever the test of the arguments said. -/
theorem checkedB_conv (r : Bool) (cap : Array Value) (R : Res) (w : World) (T : Tab w) (h : if r = true then ∃ L H U, R = checkR L H U ∧ Makes 61 cap L H U w else R = bad) :
    Calls Tryd.prog 55 #[.bool r, .func (.func 61) #[] cap] w fun r w' => r = .returned (.tuple #[.agg #[.int .i64 R.lo, .int .i64 R.hi, .int .i64 R.u], .int .i64 R.e]) ∧ Below w.heap.size w w' := by
  cases r
  · simp only [Bool.false_eq_true, if_false] at h
    subst h
    exact checked_no _ _ _
  · simp only [if_true] at h
    obtain ⟨L, H, U, rfl, hM⟩ := h
    exact checked_conv cap L H U w T hM

set_option maxHeartbeats 1000000 in
theorem coarse_any (lo hi u s : Int) (w : World) (T : Tab w) :
    Calls Tryd.prog 32 #[.agg #[.int .i64 lo, .int .i64 hi, .int .i64 u], .int .i64 s] w fun r w' => r = .returned (resV (coarseR lo hi u s)) ∧ Below w.heap.size w w' := by
  have T1 := T.below ((((Below.refl _ _).alloc (Nat.le_refl _) (.cells #[.int .i64 lo, .int .i64 hi, .int .i64 u] 23)).alloc (by simp) (.cells #[.int .i64 s] 3)).alloc (by simp; omega) (.cells #[.int .i64 0, .int .i64 0, .int .i64 0] 23)) T.size
  have HT := Lib.hid T1
  generalize hR : coarseR lo hi u s = R
  have HR := Lib.hid hR
  clear hR T1
  simp only [resV]
  go_enter Tryd.func32, Tryd.ntmps32
  go_wp2_with (first
    | (go_at_call 60; refine (known_any _ _ _ _ HT.out).mono ?_; rintro e w1 ⟨rfl, hb⟩; have HT1 := Lib.hid (HT.out.next hb); obtain ⟨hc1, hf1, hz1⟩ := after (B := w.heap.size) 3 hb (by first | assumption | (simp; done) | (simp; omega) | omega | (have := HS.out; omega)); have HB1 := Lib.hid hb; clear hb)
    | (go_at_call 66; refine (isStep_any _ _).mono ?_; rintro e w2 ⟨rfl, rfl⟩))
  · have hk : knownB lo hi u = true := by assumption
    have HK := Lib.hid hk
    clear hk
    have h : if stepB s = true then ∃ L H U, R = checkR L H U ∧ Makes 67 #[.pointer (some ⟨w.heap.size, 0, none⟩), .pointer (some ⟨w.heap.size + 1, 0, none⟩)] L H U w1 else R = bad := by
      split
      · rename_i hs
        refine ⟨lo * 1 / s * s, (hi * 1 + s - 1) / s * s, u, ?_, ?_⟩
        · rw [← HR.out]; simp [coarseR, HK.out, hs]
        · have hk := (knownB_iff _ _ _).1 HK.out
          have hss : s = 1 ∨ s = 10 ∨ s = 100 ∨ s = 1000 ∨ s = 10000 := by simpa [stepB, or_assoc] using hs
          exact coarseC _ _ _ _ _ _ w1 ⟨by rw [hc1 _ _ (by omega)]; go_simp, by rw [hc1 _ _ (by omega)]; go_simp, by rw [hc1 _ _ (by omega)]; go_simp⟩ (by rw [hc1 _ _ (by omega)]; go_simp) (by omega) (by omega) (by omega) (by omega) (by omega) (by omega)
      · rename_i hs
        rw [← HR.out]; simp [coarseR, hs]
    refine (checkedB_coarse _ _ R w1 HT1.out h).mono ?_
    clear h
    rintro e w2 ⟨rfl, hb⟩
    obtain ⟨hc2, hf2, hz2⟩ := after (B := w.heap.size) 3 hb (by first | assumption | (simp; done) | (simp; omega) | omega | (have := HS.out; omega)); have HB2 := Lib.hid hb; clear hb
    go_wp2
    refine bodyPost_ret (v := _) (by first | (simp [results, Tryd.results32, go_sem]; done) | simp [results, Tryd.results32, go_sem, *]) rfl ⟨rfl, by (repeat' first | exact Below.refl _ _ | assumption | (refine Below.andThen ?_ HB2.out) | (exact HB2.out.size) | (refine Below.andThen ?_ HB1.out) | (exact HB1.out.size) | (refine below_drewN ?_ _) | (refine Below.drew ?_) | (refine Below.alloc ?_ ?_ _) | (refine Below.setCell ?_ ?_ _) | (simp; done) | (simp; omega) | omega)⟩
  · have hk : ¬ knownB lo hi u = true := by assumption
    have h : R = bad := by rw [← HR.out]; simp [coarseR, hk]
    clear hk
    refine (checkedB_coarse false _ R w1 HT1.out (by simpa using h)).mono ?_
    clear h
    rintro e w2 ⟨rfl, hb⟩
    obtain ⟨hc2, hf2, hz2⟩ := after (B := w.heap.size) 3 hb (by first | assumption | (simp; done) | (simp; omega) | omega | (have := HS.out; omega)); have HB2 := Lib.hid hb; clear hb
    go_wp2
    refine bodyPost_ret (v := _) (by first | (simp [results, Tryd.results32, go_sem]; done) | simp [results, Tryd.results32, go_sem, *]) rfl ⟨rfl, by (repeat' first | exact Below.refl _ _ | assumption | (refine Below.andThen ?_ HB2.out) | (exact HB2.out.size) | (refine Below.andThen ?_ HB1.out) | (exact HB1.out.size) | (refine below_drewN ?_ _) | (refine Below.drew ?_) | (refine Below.alloc ?_ ?_ _) | (refine Below.setCell ?_ ?_ _) | (simp; done) | (simp; omega) | omega)⟩

set_option maxHeartbeats 1000000 in
theorem contains_any (a b c x y z : Int) (w : World) (T : Tab w) :
    Calls Tryd.prog 21 #[.agg #[.int .i64 a, .int .i64 b, .int .i64 c], .agg #[.int .i64 x, .int .i64 y, .int .i64 z]] w fun r w' => r = .returned (.bool (containsB a b c x y z)) ∧ Below w.heap.size w w' := by
  have T1 := T.below (((Below.refl _ _).alloc (Nat.le_refl _) (.cells #[.int .i64 a, .int .i64 b, .int .i64 c] 23)).alloc (by simp) (.cells #[.int .i64 x, .int .i64 y, .int .i64 z] 23)) T.size
  have HT := Lib.hid T1
  clear T1
  go_enter Tryd.func21, Tryd.ntmps21
  go_wp2_with fail
  refine (valid_any _ _ _ _ HT.out).mono ?_
  rintro e w1 ⟨rfl, hb⟩
  have T2 := HT.out.next hb
  obtain ⟨hc1, hf1, hz1⟩ := after (B := w.heap.size) 2 hb (by first | assumption | (simp; done) | (simp; omega) | omega | (have := HS.out; omega)); have HB1 := Lib.hid hb; clear hb
  go_wp2_with (go_at_call 36; refine (valid_any _ _ _ _ T2).mono ?_; rintro e w2 ⟨rfl, hb⟩; obtain ⟨hc2, hf2, hz2⟩ := after (B := w.heap.size) 2 hb (by first | assumption | (simp; done) | (simp; omega) | omega | (have := HS.out; omega)); have HB2 := Lib.hid hb; clear hb)
  all_goals
    go_ret
    refine ⟨retv (vbool ?_), ?_⟩
    · first | (simp [containsB, *]; done) | (simp [containsB, *]; omega) | (have h1 : validB a b c = true := (by assumption); have h2 : c = z := (by assumption); clear hc1 hf1 hc2 hf2; subst h2; simp [containsB, *])
    · first
        | exact (by (repeat' first | exact Below.refl _ _ | assumption | (refine Below.andThen ?_ HB2.out) | (exact HB2.out.size) | (refine Below.andThen ?_ HB1.out) | (exact HB1.out.size) | (refine below_drewN ?_ _) | (refine Below.drew ?_) | (refine Below.alloc ?_ ?_ _) | (refine Below.setCell ?_ ?_ _) | (simp; done) | (simp; omega) | omega))
        | exact (by (repeat' first | exact Below.refl _ _ | assumption | (refine Below.andThen ?_ HB1.out) | (exact HB1.out.size) | (refine below_drewN ?_ _) | (refine Below.drew ?_) | (refine Below.alloc ?_ ?_ _) | (refine Below.setCell ?_ ?_ _) | (simp; done) | (simp; omega) | omega))

theorem kind_in (u : Int) (h : kindZ u ≠ 0) : 1 ≤ u ∧ u ≤ 7 := by
  have := kindZ_zero u
  omega

set_option maxHeartbeats 1000000 in
theorem share_any (lo hi u n d : Int) (w : World) (T : Tab w) :
    Calls Tryd.prog 34 #[.agg #[.int .i64 lo, .int .i64 hi, .int .i64 u], .int .i64 n, .int .i64 d] w fun r w' => r = .returned (resV (shareR lo hi u n d)) ∧ Below w.heap.size w w' := by
  have T1 := T.below (((((Below.refl _ _).alloc (Nat.le_refl _) (.cells #[.int .i64 lo, .int .i64 hi, .int .i64 u] 23)).alloc (by simp) (.cells #[.int .i64 n] 3)).alloc (by simp; omega) (.cells #[.int .i64 d] 3)).alloc (by simp; omega) (.cells #[.int .i64 0, .int .i64 0, .int .i64 0] 23)) T.size
  have HT := Lib.hid T1
  generalize hR : shareR lo hi u n d = R
  have HR := Lib.hid hR
  clear hR T1
  simp only [resV]
  go_enter Tryd.func34, Tryd.ntmps34
  go_wp2_with (go_at_call 60; refine (known_any _ _ _ _ HT.out).mono ?_; rintro e w1 ⟨rfl, hb⟩; have HT1 := Lib.hid (HT.out.next hb); obtain ⟨hc1, hf1, hz1⟩ := after (B := w.heap.size) 4 hb (by first | assumption | (simp; done) | (simp; omega) | omega | (have := HS.out; omega)); have HB1 := Lib.hid hb; clear hb)
  all_goals
    refine (checkedB_share _ _ R w1 HT1.out ?_).mono ?_
    · split
      · refine ⟨lo * n / d * 1, (hi * n + d - 1) / d * 1, u, ?_, ?_⟩
        · rw [← HR.out]
          have hs : shareB n d = true := by first | (simp [shareB, *] at *; done) | (simp [shareB, *] at *; omega)
          have hk : knownB lo hi u = true := by simp [*] at *
          simp [shareR, hs, hk]
        · have hs : shareB n d = true := by first | (simp [shareB, *] at *; done) | (simp [shareB, *] at *; omega)
          have hk : knownB lo hi u = true := by simp [*] at *
          have hk' := (knownB_iff _ _ _).1 hk
          have hs' : 0 ≤ n ∧ n ≤ 1000000 ∧ 1 ≤ d ∧ d ≤ 1000000 := by simpa [shareB, and_assoc] using hs
          exact shareC _ _ _ _ _ _ _ _ w1 ⟨by rw [hc1 _ _ (by omega)]; go_simp, by rw [hc1 _ _ (by omega)]; go_simp, by rw [hc1 _ _ (by omega)]; go_simp⟩ (by rw [hc1 _ _ (by omega)]; go_simp) (by rw [hc1 _ _ (by omega)]; go_simp) (by omega) (by omega) (by omega) (by omega) (by omega) (by omega) (by omega) (by omega)
      · rw [← HR.out]
        first | (simp [shareR, shareB, *] at *; done) | (simp [shareR, shareB, *] at *; omega)
    · rintro e w2 ⟨rfl, hb⟩
      obtain ⟨hc2, hf2, hz2⟩ := after (B := w.heap.size) 4 hb (by first | assumption | (simp; done) | (simp; omega) | omega | (have := HS.out; omega)); have HB2 := Lib.hid hb; clear hb
      go_wp2
      refine bodyPost_ret (v := _) (by first | (simp [results, Tryd.results34, go_sem]; done) | simp [results, Tryd.results34, go_sem, *]) rfl ⟨rfl, by (repeat' first | exact Below.refl _ _ | assumption | (refine Below.andThen ?_ HB2.out) | (exact HB2.out.size) | (refine Below.andThen ?_ HB1.out) | (exact HB1.out.size) | (refine below_drewN ?_ _) | (refine Below.drew ?_) | (refine Below.alloc ?_ ?_ _) | (refine Below.setCell ?_ ?_ _) | (simp; done) | (simp; omega) | omega)⟩
end Go.Proofs.YtdldokhiefeloaaDoor
