/- Dates and times of local minutes, there and back, the next minute and the next day: plain mathematics. -/
import Derived.Test.YtdldokhiefeloaaDoorCalY
namespace Go.Proofs.YtdldokhiefeloaaDoor
open Go.RowKit

/-- a date and a time -/
structure Civ where
  y : Int
  m : Int
  d : Int
  h : Int
  n : Int
  w : Int
theorem Civ.ext' {a b : Civ} (h1 : a.y = b.y) (h2 : a.m = b.m) (h3 : a.d = b.d) (h4 : a.h = b.h) (h5 : a.n = b.n) (h6 : a.w = b.w) : a = b := by
  cases a; cases b; simp_all
def noCiv : Civ := ⟨0, 0, 0, 0, 0, 0⟩
def dayOf (L : Int) : Int := (L + 1440) / 1440 - 1
def timeOf (L : Int) : Int := (L + 1440) % 1440
/-- the date and time of a local minute -/
def civOf (L : Int) : Civ := ⟨(stM (mIdx (dayOf L))).1, (stM (mIdx (dayOf L))).2.1, dayOf L - firstM (mIdx (dayOf L)) + 1, timeOf L / 60, timeOf L % 60, (dayOf L + 12) % 7⟩
def partsR (m o : Int) : Civ := if (minuteB m && offsetB o) = true then civOf (m + o) else noCiv
def partsE (m o : Int) : Int := if (minuteB m && offsetB o) = true then 0 else 60
def dateB (c : Civ) : Bool := decide (1 ≤ c.m ∧ c.m ≤ 12 ∧ 0 ≤ kOf c.y c.m ∧ kOf c.y c.m ≤ 1200) && decide (1 ≤ c.d ∧ c.d ≤ daysZ c.y c.m ∧ 0 ≤ c.h ∧ c.h < 24 ∧ 0 ≤ c.n ∧ c.n < 60)
def locOf (c : Civ) : Int := (firstM (kOf c.y c.m).toNat + c.d - 1) * 1440 + c.h * 60 + c.n
theorem day_bd {L : Int} (h : -1440 ≤ L) (h2 : L ≤ 50001440) : -1 ≤ dayOf L ∧ dayOf L ≤ 34723 ∧ 0 ≤ timeOf L ∧ timeOf L < 1440 ∧ L = dayOf L * 1440 + timeOf L := by
  unfold dayOf timeOf
  omega
theorem civ_spec {L : Int} (h : -1440 ≤ L) (h2 : L ≤ 50001440) : ∃ k : Nat, k < 1201 ∧ firstM k ≤ dayOf L ∧ dayOf L < firstM (k + 1) ∧ civOf L = ⟨(stM k).1, (stM k).2.1, dayOf L - firstM k + 1, timeOf L / 60, timeOf L % 60, (dayOf L + 12) % 7⟩ := by
  obtain ⟨a, b, _⟩ := day_bd h h2
  obtain ⟨h1, h3, h4, _⟩ := mIdx_spec (day := dayOf L) (by omega) (by omega)
  exact ⟨_, h1, h3, h4, rfl⟩
theorem civ_of_k {L : Int} {k : Nat} (hk : k < 1201) (h1 : firstM k ≤ dayOf L) (h2 : dayOf L < firstM (k + 1)) : civOf L = ⟨(stM k).1, (stM k).2.1, dayOf L - firstM k + 1, timeOf L / 60, timeOf L % 60, (dayOf L + 12) % 7⟩ := by
  unfold civOf
  rw [mIdx_eq hk h1 h2]
/-- where a date and time was, it is found again -/
theorem civ_back {L : Int} (h : -1440 ≤ L) (h2 : L ≤ 50001440) : dateB (civOf L) = true ∧ locOf (civOf L) = L := by
  obtain ⟨k, hk, a, b, e⟩ := civ_spec h h2
  obtain ⟨d0, d1, t0, t1, el⟩ := day_bd h h2
  have fs := firstM_succ k
  have hk2 := kOf_st k
  obtain ⟨m1, m2⟩ := stM_ym k
  rw [e]
  unfold dateB locOf
  dsimp only
  rw [hk2]
  refine ⟨?_, ?_⟩
  · rw [Bool.and_eq_true, decide_eq_true_eq, decide_eq_true_eq]
    omega
  · rw [show ((k : Int)).toNat = k from rfl]
    omega
theorem loc_civ {c : Civ} (h : dateB c = true) : civOf (locOf c) = { c with w := (firstM (kOf c.y c.m).toNat + c.d + 11) % 7 } ∧ -44640 ≤ locOf c ∧ locOf c ≤ 53000000 := by
  unfold dateB at h
  rw [Bool.and_eq_true, decide_eq_true_eq, decide_eq_true_eq] at h
  obtain ⟨⟨a1, a2, a3, a4⟩, b1, b2, b3, b4, b5, b6⟩ := h
  obtain ⟨k, hk⟩ : ∃ k : Nat, kOf c.y c.m = k := ⟨_, (Int.toNat_of_nonneg a3).symm⟩
  have hk1 : k ≤ 1200 := by omega
  obtain ⟨m1, m2⟩ := stM_ym k
  have ey : (stM k).1 = c.y := by rw [m1]; unfold kOf at hk; omega
  have em : (stM k).2.1 = c.m := by rw [m2]; unfold kOf at hk; omega
  have fs := firstM_succ k
  rw [ey, em] at fs
  have f0 := firstM_mono (i := 0) (n := k) (by omega) (by omega)
  have f1 := firstM_mono (i := k + 1) (n := 1201) (by omega) (by omega)
  rw [firstM_end] at f1
  rw [show firstM 0 = -31 from rfl] at f0
  have ed : dayOf (locOf c) = firstM k + c.d - 1 := by unfold dayOf locOf; rw [hk]; simp only [Int.toNat_natCast]; omega
  have et : timeOf (locOf c) = c.h * 60 + c.n := by unfold timeOf locOf; rw [hk]; simp only [Int.toNat_natCast]; omega
  refine ⟨?_, ?_, ?_⟩
  · rw [civ_of_k (k := k) (by omega) (by rw [ed]; omega) (by rw [ed]; omega), ed, et, ey, em, hk]
    refine Civ.ext' rfl rfl ?_ ?_ ?_ ?_ <;> dsimp only <;> first | omega | (simp only [Int.toNat_natCast]; congr 1; omega)
  · unfold locOf; rw [hk]; simp only [Int.toNat_natCast]; omega
  · unfold locOf; rw [hk]; simp only [Int.toNat_natCast]; omega
/-- the next day, the next minute -/
def dayNext (a : Civ) : Civ :=
  let d : Civ := { a with d := if a.d = daysZ a.y a.m then 1 else a.d + 1, w := (a.w + 1) % 7, m := if a.d = daysZ a.y a.m then a.m + 1 else a.m }
  { d with m := if d.m = 13 then 1 else d.m, y := if d.m = 13 then d.y + 1 else d.y }
theorem civ_day {L : Int} (h : -1440 ≤ L) (h2 : L ≤ 50000000) : civOf (L + 1440) = dayNext (civOf L) := by
  obtain ⟨k, hk, a, b, e⟩ := civ_spec h (by omega)
  obtain ⟨d0, d1, t0, t1, el⟩ := day_bd h (by omega)
  have fs := firstM_succ k
  obtain ⟨m1, m2⟩ := stM_ym k
  obtain ⟨n1, n2⟩ := stM_ym (k + 1)
  have ed : dayOf (L + 1440) = dayOf L + 1 := by unfold dayOf; omega
  have et : timeOf (L + 1440) = timeOf L := by unfold timeOf; omega
  have hk2 : k + 1 < 1201 := by
    apply Nat.lt_of_not_le
    intro hc
    obtain rfl : k = 1200 := by omega
    have := firstM_year 99 (by omega)
    rw [show 12 * 99 + 1 = 1189 from rfl] at this
    have f := firstM_mono (i := 1189) (n := 1200) (by omega) (by omega)
    omega
  rw [e]
  unfold dayNext
  dsimp only
  by_cases hc : dayOf L + 1 < firstM (k + 1)
  · have c1 : ¬ (dayOf L - firstM k + 1 = daysZ (stM k).1 (stM k).2.1) := by omega
    rw [civ_of_k hk (by rw [ed]; omega) (by rw [ed]; omega), ed, et, if_neg c1, if_neg c1, if_neg (by omega), if_neg (by omega)]
    refine Civ.ext' rfl rfl ?_ rfl rfl ?_ <;> dsimp only <;> omega
  · have c1 : dayOf L - firstM k + 1 = daysZ (stM k).1 (stM k).2.1 := by omega
    have fs2 := firstM_succ (k + 1)
    have d28 := (daysM_bd (k + 1) (by omega)).1
    rw [civ_of_k hk2 (by rw [ed]; omega) (by rw [ed]; omega), ed, et, if_pos c1, if_pos c1]
    by_cases hm : (stM k).2.1 + 1 = 13
    · rw [if_pos hm, if_pos hm]
      refine Civ.ext' ?_ ?_ ?_ rfl rfl ?_ <;> dsimp only <;> omega
    · rw [if_neg hm, if_neg hm]
      refine Civ.ext' ?_ ?_ ?_ rfl rfl ?_ <;> dsimp only <;> omega
theorem civ_next {L : Int} (h : -1440 ≤ L) (h2 : L ≤ 50000000) : civOf (L + 1) = (if (civOf L).n + 1 = 60 then (if (civOf L).h + 1 = 24 then { dayNext (civOf L) with h := 0, n := 0 } else { civOf L with h := (civOf L).h + 1, n := 0 }) else { civOf L with n := (civOf L).n + 1 }) := by
  obtain ⟨k, hk, a, b, e⟩ := civ_spec h (by omega)
  obtain ⟨d0, d1, t0, t1, el⟩ := day_bd h (by omega)
  by_cases ht : timeOf L = 1439
  · have hd := civ_day h h2
    rw [e] at hd ⊢
    dsimp only at hd ⊢
    rw [if_pos (by omega), if_pos (by omega), ← hd]
    have ed : dayOf (L + 1440) = dayOf (L + 1) := by unfold dayOf timeOf at *; omega
    have et : timeOf (L + 1) = 0 := by unfold dayOf timeOf at *; omega
    unfold civOf
    rw [ed, et]
    refine Civ.ext' ?_ ?_ ?_ ?_ ?_ ?_ <;> dsimp only
    all_goals omega
  · have ed : dayOf (L + 1) = dayOf L := by unfold dayOf timeOf at *; omega
    have et : timeOf (L + 1) = timeOf L + 1 := by unfold dayOf timeOf at *; omega
    rw [civ_of_k hk (by rw [ed]; omega) (by rw [ed]; omega), e, ed, et]
    dsimp only
    by_cases hn : timeOf L % 60 + 1 = 60
    · rw [if_pos hn, if_neg (by omega)]
      refine Civ.ext' rfl rfl rfl ?_ ?_ rfl <;> dsimp only <;> omega
    · rw [if_neg hn]
      refine Civ.ext' rfl rfl rfl ?_ ?_ rfl <;> dsimp only <;> omega
theorem civ_week {L : Int} : (civOf (L + 10080)).w = (civOf L).w ∧ (civOf (L + 10080)).h = (civOf L).h ∧ (civOf (L + 10080)).n = (civOf L).n := by
  unfold civOf dayOf timeOf
  dsimp only
  omega
end Go.Proofs.YtdldokhiefeloaaDoor
