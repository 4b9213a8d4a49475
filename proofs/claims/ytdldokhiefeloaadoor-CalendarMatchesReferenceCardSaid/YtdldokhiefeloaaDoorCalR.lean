/- at: the minute of a date and time, for all arguments. -/
import Derived.Test.YtdldokhiefeloaaDoorCalQ
namespace Go.Proofs.YtdldokhiefeloaaDoor
open Go.RowKit

def atR (c : Civ) (o : Int) : Int × Bool := if dateB c = true then (wrap64 (locOf c - o), minuteB (wrap64 (locOf c - o))) else (0, false)
theorem atR_bad {c : Civ} {o : Int} (h : ¬ ((1 ≤ c.m ∧ c.m ≤ 12 ∧ 0 ≤ kOf c.y c.m ∧ kOf c.y c.m ≤ 1200) ∧ (1 ≤ c.d ∧ c.d ≤ daysZ c.y c.m ∧ 0 ≤ c.h ∧ c.h < 24 ∧ 0 ≤ c.n ∧ c.n < 60))) : atR c o = (0, false) := by
  unfold atR
  rw [if_neg]
  unfold dateB
  rw [Bool.and_eq_true, decide_eq_true_eq, decide_eq_true_eq]
  exact h
theorem atR_good {c : Civ} {o : Int} (h : ((1 ≤ c.m ∧ c.m ≤ 12 ∧ 0 ≤ kOf c.y c.m ∧ kOf c.y c.m ≤ 1200) ∧ (1 ≤ c.d ∧ c.d ≤ daysZ c.y c.m ∧ 0 ≤ c.h ∧ c.h < 24 ∧ 0 ≤ c.n ∧ c.n < 60))) : atR c o = (wrap64 (locOf c - o), minuteB (wrap64 (locOf c - o))) := by
  unfold atR
  rw [if_pos]
  unfold dateB
  rw [Bool.and_eq_true, decide_eq_true_eq, decide_eq_true_eq]
  exact h

set_option maxRecDepth 100000 in
theorem findYM_any (y m : Int) (d : Nat) (w : World) (T : CTab w) (c0 : w.cell? ⟨d, 0, none⟩ = some (.int .i64 y)) (c1 : w.cell? ⟨d, 1, none⟩ = some (.int .i64 m)) :
    Calls Tryd.prog 71 #[.func (.func 89) #[] #[.pointer (some ⟨d, 0, none⟩)]] w fun e w' =>
      e = .returned (.tuple #[.agg #[.int .i64 (foundR (fun k => (stM k).1 == y && (stM k).2.1 == m)).1.1, .int .i64 (foundR (fun k => (stM k).1 == y && (stM k).2.1 == m)).1.2.1, .int .i64 (foundR (fun k => (stM k).1 == y && (stM k).2.1 == m)).1.2.2], .bool (foundR (fun k => (stM k).1 == y && (stM k).2.1 == m)).2]) ∧ Below w.heap.size w w' := by
  have hlt := World.block_lt_of_cell? w _ c0
  dsimp only at hlt
  exact find_any 89 #[.pointer (some ⟨d, 0, none⟩)] (fun k => (stM k).1 == y && (stM k).2.1 == m) w T (fun args w => enters_of Tryd.func89 (by kernel_rfl) rfl args w) (fun k W hk hb =>
    at1_any (stM k).1 (stM k).2.1 (stM k).2.2 y m d W ((hb.cell (p := ⟨d, 0, none⟩) hlt).trans c0) ((hb.cell (p := ⟨d, 1, none⟩) hlt).trans c1))

set_option maxRecDepth 100000 in
set_option maxHeartbeats 4000000 in
theorem at_walk (y m d h n wd o Y M F D : Int) (ok : Bool) (V : Int × Bool) (w : World) (T : CTab w)
    (hF' : (∀ b w, CTab w → w.cell? ⟨b, 0, none⟩ = some (.int .i64 y) → w.cell? ⟨b, 1, none⟩ = some (.int .i64 m) → Calls Tryd.prog 71 #[.func (.func 89) #[] #[.pointer (some ⟨b, 0, none⟩)]] w fun e w' => e = .returned (.tuple #[.agg #[.int .i64 Y, .int .i64 M, .int .i64 F], .bool ok]) ∧ Below w.heap.size w w'))
    (hD' : (∀ w, CTab w → Calls Tryd.prog 51 #[.int .i64 y, .int .i64 m] w fun e w' => e = .returned (.int .i64 D) ∧ w = w')) (hF : -31 ≤ F ∧ F ≤ 40000) (hD : 0 ≤ D ∧ D ≤ 31)
    (hV' : (V = if ok = true ∧ 1 ≤ d ∧ d ≤ D ∧ 0 ≤ h ∧ h < 24 ∧ 0 ≤ n ∧ n < 60 then (wrap64 ((F + d - 1) * 1440 + h * 60 + n - o), minuteB (wrap64 ((F + d - 1) * 1440 + h * 60 + n - o))) else (0, false))) :
    Calls Tryd.prog 77 #[civV y m d h n wd, .int .i64 o] w fun e w' => e = .returned (.tuple #[.int .i64 V.1, .bool V.2]) ∧ Below w.heap.size w w' := by
  have HT := Lib.hid T
  have HF := Lib.hid hF'
  have HD := Lib.hid hD'
  have hV := Lib.hid hV'
  clear T hF' hD' hV'
  obtain ⟨hF0, hF1⟩ := hF
  obtain ⟨hD0, hD1⟩ := hD
  have goodcase : ¬ (ok = true ∧ 1 ≤ d ∧ d ≤ D ∧ 0 ≤ h ∧ h < 24 ∧ 0 ≤ n ∧ n < 60) ∨ (ok = true ∧ 1 ≤ d ∧ d ≤ D ∧ 0 ≤ h ∧ h < 24 ∧ 0 ≤ n ∧ n < 60) := (Classical.em _).symm
  rcases goodcase with hbad | hgood
  · have ev := hV.out
    rw [if_neg hbad] at ev
    subst ev
    clear hV
    cases ok
    · clear hbad
      go_enter Tryd.func77, Tryd.ntmps77
      go_wp2_with fail
      refine (HF.out _ _ (HT.out.next (by (repeat' first | with_reducible exact Below.refl _ _ | with_reducible assumption | (with_reducible refine below_drewN ?_ _) | (with_reducible refine Below.drew ?_) | (with_reducible refine Below.alloc ?_ ?_ _) | (with_reducible refine Below.setCell ?_ ?_ _) | omega | (simp; done) | (simp; omega)))) (by go_simp) (by go_simp)).mono ?_
      rintro e w2 ⟨rfl, hb⟩
      obtain ⟨hc2, hf2, hz2⟩ := after (B := w.heap.size) 1 hb (by first | assumption | (simp; done) | (simp; omega) | omega | (have := HS.out; omega)); have HB2 := Lib.hid hb; clear hb
      have z0 : w2.heap.size ≠ w.heap.size := by omega
      have y0 : w.heap.size < w2.heap.size := by omega
      go_wp2_with fail
      refine wp_region_kin (by kernel_rfl) (by kernel_rfl) (w2.heap.size) 1 (by first | assumption | (simp; done) | (simp; omega) | omega | (have := HS.out; omega)) (fun hk => ?_)
      repeat (go_big_quiet_step (fail))
      refine wpQuiet_nil ?_
      clear hk
      intro W3 hb3
      obtain ⟨hc3, hf3, hz3⟩ := after (B := w2.heap.size) 1 hb3 (by first | assumption | (simp; done) | (simp; omega) | omega | (have := HS.out; omega)); have HB3 := Lib.hid hb3; clear hb3
      go_wp2
      go_ret2
      refine ⟨rfl, ?_⟩
      (repeat' first | with_reducible exact Below.refl _ _ | with_reducible assumption | (with_reducible refine below_drewN ?_ _) | (with_reducible refine Below.drew ?_) | (with_reducible refine Below.alloc ?_ ?_ _) | (with_reducible refine Below.setCell ?_ ?_ _) | (with_reducible refine Below.andThen ?_ HB3.out) | (with_reducible exact HB3.out.size) | (with_reducible refine Below.andThen ?_ HB2.out) | (with_reducible exact HB2.out.size) | omega | (simp; done) | (simp; omega))
    · have key : (decide (d < 1) = true) ∨ (decide (d < 1) = false ∧ decide (D < d) = true) ∨ (decide (d < 1) = false ∧ decide (D < d) = false ∧ decide (h < 0) = true) ∨ (decide (d < 1) = false ∧ decide (D < d) = false ∧ decide (h < 0) = false ∧ decide (24 ≤ h) = true) ∨
          (decide (d < 1) = false ∧ decide (D < d) = false ∧ decide (h < 0) = false ∧ decide (24 ≤ h) = false ∧ decide (n < 0) = true) ∨ (decide (d < 1) = false ∧ decide (D < d) = false ∧ decide (h < 0) = false ∧ decide (24 ≤ h) = false ∧ decide (n < 0) = false ∧ decide (60 ≤ n) = true) := by
        simp only [decide_eq_true_eq, decide_eq_false_iff_not]
        simp only [true_and] at hbad
        omega
      clear hbad
      rcases key with g1 | ⟨g1, g2⟩ | ⟨g1, g2, g3⟩ | ⟨g1, g2, g3, g4⟩ | ⟨g1, g2, g3, g4, g5⟩ | ⟨g1, g2, g3, g4, g5, g6⟩
      all_goals
        go_enter Tryd.func77, Tryd.ntmps77
        go_wp2_with fail
        refine (HF.out _ _ (HT.out.next (by (repeat' first | with_reducible exact Below.refl _ _ | with_reducible assumption | (with_reducible refine below_drewN ?_ _) | (with_reducible refine Below.drew ?_) | (with_reducible refine Below.alloc ?_ ?_ _) | (with_reducible refine Below.setCell ?_ ?_ _) | omega | (simp; done) | (simp; omega)))) (by go_simp) (by go_simp)).mono ?_
        rintro e w2 ⟨rfl, hb⟩
        obtain ⟨hc2, hf2, hz2⟩ := after (B := w.heap.size) 1 hb (by first | assumption | (simp; done) | (simp; omega) | omega | (have := HS.out; omega)); have HB2 := Lib.hid hb; clear hb
        have z0 : w2.heap.size ≠ w.heap.size := by omega
        have y0 : w.heap.size < w2.heap.size := by omega
        have HT2 := Lib.hid (HT.out.next (show Below w.heap.size w (w2.alloc (.cells #[.int .i64 Y, .int .i64 M, .int .i64 F] 85)) by (repeat' first | with_reducible exact Below.refl _ _ | with_reducible assumption | (with_reducible refine below_drewN ?_ _) | (with_reducible refine Below.drew ?_) | (with_reducible refine Below.alloc ?_ ?_ _) | (with_reducible refine Below.setCell ?_ ?_ _) | (with_reducible refine Below.andThen ?_ HB2.out) | (with_reducible exact HB2.out.size) | omega | (simp; done) | (simp; omega))))
        go_wp2_with fail
        refine wp_region_kin (by kernel_rfl) (by kernel_rfl) (w2.heap.size) 1 (by first | assumption | (simp; done) | (simp; omega) | omega | (have := HS.out; omega)) (fun hk => ?_)
        repeat (go_big_quiet_step ((go_at_call 51; exact Calls.kin_same (HD.out _ (HT2.out.next (Kin.below _))))))
        refine wpQuiet_nil ?_
        clear hk
        intro W3 hb3
        obtain ⟨hc3, hf3, hz3⟩ := after (B := w2.heap.size) 1 hb3 (by first | assumption | (simp; done) | (simp; omega) | omega | (have := HS.out; omega)); have HB3 := Lib.hid hb3; clear hb3
        go_wp2
        go_ret2
        refine ⟨rfl, ?_⟩
        (repeat' first | with_reducible exact Below.refl _ _ | with_reducible assumption | (with_reducible refine below_drewN ?_ _) | (with_reducible refine Below.drew ?_) | (with_reducible refine Below.alloc ?_ ?_ _) | (with_reducible refine Below.setCell ?_ ?_ _) | (with_reducible refine Below.andThen ?_ HB3.out) | (with_reducible exact HB3.out.size) | (with_reducible refine Below.andThen ?_ HB2.out) | (with_reducible exact HB2.out.size) | omega | (simp; done) | (simp; omega))
  · have ev := hV.out
    rw [if_pos hgood] at ev
    clear hV
    obtain ⟨rfl, k1, k2, k3, k4, k5, k6⟩ := hgood
    have g1 : decide (d < 1) = false := by rw [decide_eq_false_iff_not]; omega
    have g2 : decide (D < d) = false := by rw [decide_eq_false_iff_not]; omega
    have g3 : decide (h < 0) = false := by rw [decide_eq_false_iff_not]; omega
    have g4 : decide (24 ≤ h) = false := by rw [decide_eq_false_iff_not]; omega
    have g5 : decide (n < 0) = false := by rw [decide_eq_false_iff_not]; omega
    have g6 : decide (60 ≤ n) = false := by rw [decide_eq_false_iff_not]; omega
    have HV := Lib.hid ev
    clear ev
    have HM := Lib.hid (fun w => isMinute_any (wrap64 ((F + d - 1) * 1440 + h * 60 + n - o)) w)
    go_enter Tryd.func77, Tryd.ntmps77
    go_wp2_with fail
    refine (HF.out _ _ (HT.out.next (by (repeat' first | with_reducible exact Below.refl _ _ | with_reducible assumption | (with_reducible refine below_drewN ?_ _) | (with_reducible refine Below.drew ?_) | (with_reducible refine Below.alloc ?_ ?_ _) | (with_reducible refine Below.setCell ?_ ?_ _) | omega | (simp; done) | (simp; omega)))) (by go_simp) (by go_simp)).mono ?_
    rintro e w2 ⟨rfl, hb⟩
    obtain ⟨hc2, hf2, hz2⟩ := after (B := w.heap.size) 1 hb (by first | assumption | (simp; done) | (simp; omega) | omega | (have := HS.out; omega)); have HB2 := Lib.hid hb; clear hb
    have z0 : w2.heap.size ≠ w.heap.size := by omega
    have y0 : w.heap.size < w2.heap.size := by omega
    have HT2 := Lib.hid (HT.out.next (show Below w.heap.size w (w2.alloc (.cells #[.int .i64 Y, .int .i64 M, .int .i64 F] 85)) by (repeat' first | with_reducible exact Below.refl _ _ | with_reducible assumption | (with_reducible refine below_drewN ?_ _) | (with_reducible refine Below.drew ?_) | (with_reducible refine Below.alloc ?_ ?_ _) | (with_reducible refine Below.setCell ?_ ?_ _) | (with_reducible refine Below.andThen ?_ HB2.out) | (with_reducible exact HB2.out.size) | omega | (simp; done) | (simp; omega))))
    go_wp2_with fail
    refine wp_region_kin (by kernel_rfl) (by kernel_rfl) (w2.heap.size) 1 (by first | assumption | (simp; done) | (simp; omega) | omega | (have := HS.out; omega)) (fun hk => ?_)
    repeat (go_big_quiet_step ((go_at_call 51; exact Calls.kin_same (HD.out _ (HT2.out.next (Kin.below _))))))
    refine wpQuiet_nil ?_
    clear hk
    intro W3 hb3
    obtain ⟨hc3, hf3, hz3⟩ := after (B := w2.heap.size) 1 hb3 (by first | assumption | (simp; done) | (simp; omega) | omega | (have := HS.out; omega)); have HB3 := Lib.hid hb3; clear hb3
    go_wp2_with (refine Calls.mono (HM.out _) ?_; rintro e w' ⟨rfl, rfl⟩)
    go_ret2
    refine ⟨?_, ?_⟩
    · rw [HV.out]
      rfl
    · (repeat' first | with_reducible exact Below.refl _ _ | with_reducible assumption | (with_reducible refine below_drewN ?_ _) | (with_reducible refine Below.drew ?_) | (with_reducible refine Below.alloc ?_ ?_ _) | (with_reducible refine Below.setCell ?_ ?_ _) | (with_reducible refine Below.andThen ?_ HB3.out) | (with_reducible exact HB3.out.size) | (with_reducible refine Below.andThen ?_ HB2.out) | (with_reducible exact HB2.out.size) | omega | (simp; done) | (simp; omega))

theorem at_any (c : Civ) (o : Int) (w : World) (T : CTab w) :
    Calls Tryd.prog 77 #[civA c, .int .i64 o] w fun e w' => e = .returned (.tuple #[.int .i64 (atR c o).1, .bool (atR c o).2]) ∧ Below w.heap.size w w' := by
  have hD := daysZ_bd c.y c.m
  by_cases hA : 1 ≤ c.m ∧ c.m ≤ 12 ∧ 0 ≤ kOf c.y c.m ∧ kOf c.y c.m ≤ 1200
  · have hF := firstM_bd (kOf c.y c.m).toNat (by omega)
    refine at_walk c.y c.m c.d c.h c.n c.w o (stM (kOf c.y c.m).toNat).1 (stM (kOf c.y c.m).toNat).2.1 (firstM (kOf c.y c.m).toNat) (daysZ c.y c.m) true (atR c o) w T
      (fun b w T c0 c1 => by have := findYM_any c.y c.m b w T c0 c1; rw [find_ym, if_pos hA] at this; exact this) (fun w T => days_any _ _ w T) (by omega) hD ?_
    by_cases hB : 1 ≤ c.d ∧ c.d ≤ daysZ c.y c.m ∧ 0 ≤ c.h ∧ c.h < 24 ∧ 0 ≤ c.n ∧ c.n < 60
    · rw [if_pos ⟨rfl, hB⟩, atR_good ⟨hA, hB⟩]
      rfl
    · rw [if_neg (fun h => hB h.2), atR_bad (fun h => hB h.2)]
  · refine at_walk c.y c.m c.d c.h c.n c.w o 0 0 0 (daysZ c.y c.m) false (atR c o) w T
      (fun b w T c0 c1 => by have := findYM_any c.y c.m b w T c0 c1; rw [find_ym, if_neg hA] at this; exact this) (fun w T => days_any _ _ w T) (by omega) hD ?_
    rw [if_neg (fun h => by cases h.1), atR_bad (fun h => hA h.1)]
end Go.Proofs.YtdldokhiefeloaaDoor
