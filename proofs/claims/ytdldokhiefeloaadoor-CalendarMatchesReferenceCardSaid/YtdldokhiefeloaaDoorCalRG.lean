/- The reference's Minute is Minute. -/
import Derived.Test.YtdldokhiefeloaaDoorCalRF
import Derived.Test.YtdldokhiefeloaaDoorCalTB
namespace Go.Proofs.YtdldokhiefeloaaDoor
open Go.RowKit

theorem preD_in (J : Nat) : ∀ i, i ≤ 12 → preD (12 * J + i) = preD (12 * J) + sumD (1999 + (J : Int)) i
  | 0, _ => by simp [sumD]
  | i + 1, h => by
    have ih := preD_in J i (by omega)
    rw [show 12 * J + (i + 1) = (12 * J + i) + 1 by omega]
    rw [show preD (12 * J + i + 1) = preD (12 * J + i) + daysZ ((1999 + (12 * J + i) / 12 : Nat) : Int) (((12 * J + i) % 12 + 1 : Nat) : Int) from rfl, show sumD (1999 + (J : Int)) (i + 1) = sumD (1999 + (J : Int)) i + daysZ (1999 + (J : Int)) ((i + 1 : Nat) : Int) from rfl, ih, show (12 * J + i) / 12 = J by omega, show (12 * J + i) % 12 = i by omega, show ((1999 + J : Nat) : Int) = 1999 + (J : Int) by omega]
    omega
theorem preD_years (J : Nat) : preD (12 * J) = yearsD J := by
  induction J with
  | zero => rfl
  | succ J ih =>
    rw [show 12 * (J + 1) = 12 * J + 12 by omega, preD_in J 12 (Nat.le_refl _), ih]
    rfl
theorem minute_none {c : Civ} {o : Int} (h : ¬ (offsetB o = true ∧ dateB c = true ∧ minuteB (locOf c - o) = true)) : minuteR c o = (0, 60) := by
  unfold minuteR
  rw [if_neg]
  rintro ⟨h1, h2, _⟩
  obtain ⟨d1, _, d3, d4⟩ := at_ok (off_in h1) h2
  exact h ⟨h1, d1, by unfold minuteB; simp; omega⟩
theorem minute_some {c : Civ} {o : Int} (h1 : offsetB o = true) (h2 : dateB c = true) (h3 : minuteB (locOf c - o) = true) :
    minuteR c o = if ((firstM (kOf c.y c.m).toNat + c.d + 11) % 7 == c.w) = true then (locOf c - o, 0) else (0, 60) := by
  have ho := off_in h1
  have hm : 0 ≤ locOf c - o ∧ locOf c - o ≤ 50000000 := by unfold minuteB at h3; simpa using h3
  have ha : atR c o = (locOf c - o, true) := by
    unfold atR
    rw [if_pos h2, wrap_in (by omega), h3]
  obtain ⟨_, p1, _⟩ := parts_ok hm ho
  unfold minuteR
  rw [ha, p1, show locOf c - o + o = locOf c by omega, (loc_civ h2).1]
  dsimp only
  by_cases hw : (firstM (kOf c.y c.m).toNat + c.d + 11) % 7 = c.w
  · rw [if_pos ⟨h1, rfl, by rw [hw]; exact bne_self_eq_false _⟩, if_pos (by rw [beq_iff_eq]; exact hw)]
  · rw [if_neg (fun h => hw (bne_eq_false_iff_eq.1 h.2.2)), if_neg (fun h => hw (beq_iff_eq.1 h))]

set_option maxHeartbeats 1000000 in
theorem refMinute_any (c : Civ) (o : Int) (w : World) :
    Calls Tryd.prog 48 #[civA c, .int .i64 o] w fun e w' => e = .returned (.tuple #[.int .i64 (minuteR c o).1, .int .i64 (minuteR c o).2]) ∧ Below w.heap.size w w' := by
  obtain ⟨D, hD⟩ : ∃ D, D = daysZ c.y c.m := ⟨_, rfl⟩
  have HD := fun w => refDays_any c.y c.m w
  rw [← hD] at HD
  by_cases hok : (1999 ≤ c.y ∧ c.y ≤ 2200) ∧ (1 ≤ c.m ∧ c.m ≤ 12) ∧ (1 ≤ c.d ∧ c.d ≤ D) ∧ (0 ≤ c.h ∧ c.h ≤ 23) ∧ (0 ≤ c.n ∧ c.n ≤ 59) ∧ (-840 ≤ o ∧ o ≤ 840)
  · obtain ⟨⟨y0, y1⟩, ⟨m0, m1⟩, ⟨d0, d1⟩, ⟨h0, h1⟩, ⟨n0, n1⟩, o0, o1⟩ := hok
    have bD := (daysZ_bd c.y c.m).2
    rw [← hD] at bD
    obtain ⟨J, hJ⟩ : ∃ J : Nat, c.y = 1999 + (J : Int) := ⟨(c.y - 1999).toNat, by omega⟩
    obtain ⟨I, hI⟩ : ∃ I : Nat, c.m = (I : Int) + 1 := ⟨(c.m - 1).toNat, by omega⟩
    have hoff : offsetB o = true := by unfold offsetB; simp; omega
    have hPD : yearsD J + sumD c.y I = preD (12 * J + I) := by rw [preD_in J I (by omega), preD_years, hJ]
    obtain ⟨N, hN⟩ : ∃ N, N = (c.d - 1 + yearsD J + sumD c.y I - 365) * 1440 + c.h * 60 + c.n - o := ⟨_, rfl⟩
    have hN2 : N = (c.d - 1 + preD (12 * J + I) - 365) * 1440 + c.h * 60 + c.n - o := by rw [hN, ← hPD, Int.add_assoc (c.d - 1)]
    have dn : D = daysZ ((1999 + (12 * J + I) / 12 : Nat) : Int) (((12 * J + I) % 12 + 1 : Nat) : Int) := by
      rw [hD, hJ, hI, show (12 * J + I) / 12 = J by omega, show (12 * J + I) % 12 = I by omega]
      congr 1
    have ps : preD (12 * J + I + 1) = preD (12 * J + I) + D := by rw [dn]; rfl
    have go : ∀ q1 q2 q3 q4 q5 q6 E V, partsR N o = ⟨q1, q2, q3, q4, q5, q6⟩ → partsE N o = E → ((E = 60 ∧ V = (0, 60)) ∨ (E = 0 ∧ V = (N, 0) ∧ q1 = c.y ∧ q2 = c.m ∧ q3 = c.d ∧ q4 = c.h ∧ q5 = c.n ∧ q6 = c.w) ∨ (E = 0 ∧ V = (0, 60) ∧ q1 = c.y ∧ q2 = c.m ∧ q3 = c.d ∧ q4 = c.h ∧ q5 = c.n ∧ (q6 == c.w) = false)) → minuteR c o = V →
        Calls Tryd.prog 48 #[civA c, .int .i64 o] w fun e w' => e = .returned (.tuple #[.int .i64 (minuteR c o).1, .int .i64 (minuteR c o).2]) ∧ Below w.heap.size w w' := by
      intro q1 q2 q3 q4 q5 q6 E V h1' h2' h3' h4'
      rw [h4']
      refine refMinute_good c.y c.m c.d c.h c.n c.w o D N q1 q2 q3 q4 q5 q6 E J I V w HD hJ hI (by omega) (by omega) ⟨d0, d1⟩ bD ⟨h0, h1⟩ ⟨n0, n1⟩ ⟨o0, o1⟩ hN (fun w => ?_) h3'
      have := refParts_any N o w
      rw [h1', h2'] at this
      exact this
    have out : minuteB N = false → minuteR c o = (0, 60) → Calls Tryd.prog 48 #[civA c, .int .i64 o] w fun e w' => e = .returned (.tuple #[.int .i64 (minuteR c o).1, .int .i64 (minuteR c o).2]) ∧ Below w.heap.size w w' := by
      intro hb hr
      exact go 0 0 0 0 0 0 60 (0, 60) (by unfold partsR; rw [hb]; rfl) (by unfold partsE; rw [hb]; rfl) (.inl ⟨rfl, rfl⟩) hr
    by_cases hk : 0 ≤ kOf c.y c.m ∧ kOf c.y c.m ≤ 1200
    · have hdb : dateB c = true := by
        unfold dateB
        rw [Bool.and_eq_true, decide_eq_true_eq, decide_eq_true_eq, ← hD]
        omega
      obtain ⟨k, hkk⟩ : ∃ k : Nat, kOf c.y c.m = k := ⟨(kOf c.y c.m).toNat, by omega⟩
      have hJk : 12 * J + I = k + 11 := by unfold kOf at hkk; omega
      have hloc : N = locOf c - o := by
        rw [hN2, hJk, preD_first]
        unfold locOf
        rw [hkk, Int.toNat_natCast]
        omega
      cases hmb : minuteB N
      · exact out hmb (minute_none (fun h => by rw [← hloc, hmb] at h; cases h.2.2))
      · have hms := minute_some hoff hdb (by rw [← hloc]; exact hmb)
        have hm : 0 ≤ N ∧ N ≤ 50000000 := by unfold minuteB at hmb; simpa using hmb
        obtain ⟨_, p1, p2⟩ := parts_ok (m := N) (o := o) hm ⟨o0, o1⟩
        rw [show N + o = locOf c by omega, (loc_civ hdb).1] at p1
        by_cases hw : ((firstM (kOf c.y c.m).toNat + c.d + 11) % 7 == c.w) = true
        · rw [if_pos hw, ← hloc] at hms
          exact go _ _ _ _ _ _ 0 (N, 0) p1 p2 (.inr (.inl ⟨rfl, rfl, rfl, rfl, rfl, rfl, rfl, beq_iff_eq.1 hw⟩)) hms
        · rw [if_neg hw] at hms
          exact go _ _ _ _ _ _ 0 (0, 60) p1 p2 (.inr (.inr ⟨rfl, rfl, rfl, rfl, rfl, rfl, rfl, Bool.eq_false_iff.2 hw⟩)) hms
    · have hmb : minuteB N = false := by
        unfold kOf at hk
        unfold minuteB
        by_cases hlow : 12 * J + I < 11
        · have a := preD_mono (i := 12 * J + I + 1) (j := 11) (by omega)
          rw [show preD 11 = 334 by decide] at a
          simp
          omega
        · have a := preD_mono (i := 1212) (j := 12 * J + I) (by omega)
          rw [show (1212 : Nat) = 1201 + 11 from rfl, preD_first, firstM_end] at a
          simp
          omega
      refine out hmb (minute_none (fun h => ?_))
      have := h.2.1
      unfold dateB at this
      rw [Bool.and_eq_true, decide_eq_true_eq] at this
      exact hk ⟨this.1.2.2.1, this.1.2.2.2⟩
  · have hr : minuteR c o = (0, 60) := minute_none (fun h => by
      have o' := off_in h.1
      have := h.2.1
      unfold dateB at this
      rw [Bool.and_eq_true, decide_eq_true_eq, decide_eq_true_eq, ← hD] at this
      unfold kOf at this
      omega)
    rw [hr]
    refine refMinute_bad c.y c.m c.d c.h c.n c.w o D w HD ?_
    by_cases k0 : c.y < 1999
    · exact (.inl (decide_eq_true k0))
    by_cases k1 : 2200 < c.y
    · exact (.inr (.inl ⟨decide_eq_false k0, decide_eq_true k1⟩))
    by_cases k2 : c.m < 1
    · exact (.inr (.inr (.inl ⟨decide_eq_false k0, decide_eq_false k1, decide_eq_true k2⟩)))
    by_cases k3 : 12 < c.m
    · exact (.inr (.inr (.inr (.inl ⟨decide_eq_false k0, decide_eq_false k1, decide_eq_false k2, decide_eq_true k3⟩))))
    by_cases k4 : c.d < 1
    · exact (.inr (.inr (.inr (.inr (.inl ⟨decide_eq_false k0, decide_eq_false k1, decide_eq_false k2, decide_eq_false k3, decide_eq_true k4⟩)))))
    by_cases k5 : D < c.d
    · exact (.inr (.inr (.inr (.inr (.inr (.inl ⟨decide_eq_false k0, decide_eq_false k1, decide_eq_false k2, decide_eq_false k3, decide_eq_false k4, decide_eq_true k5⟩))))))
    by_cases k6 : c.h < 0
    · exact (.inr (.inr (.inr (.inr (.inr (.inr (.inl ⟨decide_eq_false k0, decide_eq_false k1, decide_eq_false k2, decide_eq_false k3, decide_eq_false k4, decide_eq_false k5, decide_eq_true k6⟩)))))))
    by_cases k7 : 23 < c.h
    · exact (.inr (.inr (.inr (.inr (.inr (.inr (.inr (.inl ⟨decide_eq_false k0, decide_eq_false k1, decide_eq_false k2, decide_eq_false k3, decide_eq_false k4, decide_eq_false k5, decide_eq_false k6, decide_eq_true k7⟩))))))))
    by_cases k8 : c.n < 0
    · exact (.inr (.inr (.inr (.inr (.inr (.inr (.inr (.inr (.inl ⟨decide_eq_false k0, decide_eq_false k1, decide_eq_false k2, decide_eq_false k3, decide_eq_false k4, decide_eq_false k5, decide_eq_false k6, decide_eq_false k7, decide_eq_true k8⟩)))))))))
    by_cases k9 : 59 < c.n
    · exact (.inr (.inr (.inr (.inr (.inr (.inr (.inr (.inr (.inr (.inl ⟨decide_eq_false k0, decide_eq_false k1, decide_eq_false k2, decide_eq_false k3, decide_eq_false k4, decide_eq_false k5, decide_eq_false k6, decide_eq_false k7, decide_eq_false k8, decide_eq_true k9⟩))))))))))
    by_cases k10 : o < -840
    · exact (.inr (.inr (.inr (.inr (.inr (.inr (.inr (.inr (.inr (.inr (.inl ⟨decide_eq_false k0, decide_eq_false k1, decide_eq_false k2, decide_eq_false k3, decide_eq_false k4, decide_eq_false k5, decide_eq_false k6, decide_eq_false k7, decide_eq_false k8, decide_eq_false k9, decide_eq_true k10⟩)))))))))))
    by_cases k11 : 840 < o
    · exact (.inr (.inr (.inr (.inr (.inr (.inr (.inr (.inr (.inr (.inr (.inr ⟨decide_eq_false k0, decide_eq_false k1, decide_eq_false k2, decide_eq_false k3, decide_eq_false k4, decide_eq_false k5, decide_eq_false k6, decide_eq_false k7, decide_eq_false k8, decide_eq_false k9, decide_eq_false k10, decide_eq_true k11⟩)))))))))))
    exact absurd ⟨⟨by omega, by omega⟩, ⟨by omega, by omega⟩, ⟨by omega, by omega⟩, ⟨by omega, by omega⟩, ⟨by omega, by omega⟩, by omega, by omega⟩ hok
end Go.Proofs.YtdldokhiefeloaaDoor
