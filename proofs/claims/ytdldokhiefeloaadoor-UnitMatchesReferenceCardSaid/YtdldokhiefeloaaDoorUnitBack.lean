/- UnitBack: what is converted, and converted back, contains what it was, and is not far from it. -/
import Derived.Test.YtdldokhiefeloaaDoorUnitL
namespace Go.Proofs.YtdldokhiefeloaaDoor
open Go.RowKit

/-! ### Plain mathematics -/
theorem checkR_e (a b c : Int) : (checkR a b c).e = 0 ∨ (checkR a b c).e = 50 := by unfold checkR; split <;> simp [bad]
theorem convR_e (a b c t x y : Int) : (convR a b c t x y).e = 0 ∨ (convR a b c t x y).e = 50 := by unfold convR; (repeat' split) <;> first | exact checkR_e _ _ _ | simp [bad]
theorem checkR_ok {a b c : Int} (h : (checkR a b c).e = 0) : checkR a b c = ⟨a, b, c, 0⟩ ∧ validB a b c = true := by
  unfold checkR at *
  split at h
  · rename_i hv; rw [if_pos hv]; exact ⟨rfl, hv⟩
  · cases h

def partnerZ (u : Int) (o : Bool) : Int := if o = false ∨ u = 1 then u else if u % 2 = 0 then u + 1 else u - 1
theorem partnerZ_ok (u : Int) (o : Bool) (h : 1 ≤ u ∧ u ≤ 7) : 1 ≤ partnerZ u o ∧ partnerZ u o ≤ 7 ∧ kindZ (partnerZ u o) = kindZ u := by
  unfold partnerZ
  split
  · exact ⟨h.1, h.2, rfl⟩
  · have hu : u = 2 ∨ u = 3 ∨ u = 4 ∨ u = 5 ∨ u = 6 ∨ u = 7 := by omega
    rcases hu with rfl | rfl | rfl | rfl | rfl | rfl <;> decide
theorem partnerZ_back (u c e : Int) (h : 1 ≤ u ∧ u ≤ 7) : worthRN (partnerZ u true) u c e = worthN (partnerZ u true) c e * worthD u c e ∧ worthRD (partnerZ u true) u c e = worthD (partnerZ u true) c e * worthN u c e := by
  have hu : u = 1 ∨ u = 2 ∨ u = 3 ∨ u = 4 ∨ u = 5 ∨ u = 6 ∨ u = 7 := by omega
  rcases hu with rfl | rfl | rfl | rfl | rfl | rfl | rfl <;> simp [partnerZ, worthRN, worthRD, worthN, worthD]

/-- rounding down there and back -/
theorem down_back (x n d : Int) (hn : 1 ≤ n) (hd : 1 ≤ d) : x * n / d * d / n ≤ x ∧ x - x * n / d * d / n ≤ 1 + (d + n - 1) / n := by
  have a1 := Int.ediv_mul_le (x * n) (show d ≠ 0 by omega)
  have a2 := Int.lt_ediv_add_one_mul_self (x * n) (show 0 < d by omega)
  generalize x * n / d = q at *
  have b1 := Int.ediv_mul_le (q * d) (show n ≠ 0 by omega)
  have b2 := Int.lt_ediv_add_one_mul_self (q * d) (show 0 < n by omega)
  generalize q * d / n = r at *
  have c2 := Int.lt_ediv_add_one_mul_self (d + n - 1) (show 0 < n by omega)
  generalize (d + n - 1) / n = F at *
  rw [Int.add_mul, Int.one_mul] at a2 b2 c2
  constructor
  · exact Int.le_of_mul_le_mul_right (show r * n ≤ x * n by omega) (by omega)
  · apply Int.not_lt.1
    intro h
    have := Int.mul_le_mul_of_nonneg_right (show F + 2 ≤ x - r by omega) (show 0 ≤ n by omega)
    rw [Int.add_mul, Int.sub_mul] at this
    omega
/-- rounding up there and back -/
theorem up_back (x n d : Int) (hn : 1 ≤ n) (hd : 1 ≤ d) : x ≤ ((x * n + d - 1) / d * d + n - 1) / n ∧ ((x * n + d - 1) / d * d + n - 1) / n - x ≤ 1 + (d + n - 1) / n := by
  have a1 := Int.ediv_mul_le (x * n + d - 1) (show d ≠ 0 by omega)
  have a2 := Int.lt_ediv_add_one_mul_self (x * n + d - 1) (show 0 < d by omega)
  generalize (x * n + d - 1) / d = q at *
  have b1 := Int.ediv_mul_le (q * d + n - 1) (show n ≠ 0 by omega)
  have b2 := Int.lt_ediv_add_one_mul_self (q * d + n - 1) (show 0 < n by omega)
  generalize (q * d + n - 1) / n = r at *
  have c2 := Int.lt_ediv_add_one_mul_self (d + n - 1) (show 0 < n by omega)
  generalize (d + n - 1) / n = F at *
  rw [Int.add_mul, Int.one_mul] at a2 b2 c2
  constructor
  · exact Int.le_of_mul_le_mul_right (show x * n ≤ r * n by omega) (by omega)
  · apply Int.not_lt.1
    intro h
    have := Int.mul_le_mul_of_nonneg_right (show F + 2 ≤ r - x by omega) (show 0 ≤ n by omega)
    rw [Int.add_mul, Int.sub_mul] at this
    omega

theorem convR_bad (t c e : Int) : convR 0 0 0 t c e = bad := by simp [convR, knownB, kindZ]

theorem convR_same {lo hi u c e : Int} (hk : knownB lo hi u = true) (hr : ratesB c e = true) : convR lo hi u u c e = ⟨lo, hi, u, 0⟩ := by
  have hv : validB lo hi u = true := (validB_iff _ _ _).2 (Or.inr hk)
  simp [convR, hk, hr, checkR, hv]

theorem back_math {lo hi u c e : Int} (hk : knownB lo hi u = true) (hr : ratesB c e = true) {R1 R2 : Res} (h1 : convR lo hi u (partnerZ u true) c e = R1) (h2 : convR R1.lo R1.hi R1.u u c e = R2) :
    (R1.e = 50 ∧ R2.e = 50) ∨ (R1.e = 0 ∧ R2.e = 50) ∨
    (R1.e = 0 ∧ R2.e = 0 ∧ containsB R2.lo R2.hi R2.u lo hi u = true ∧ 0 ≤ R2.lo ∧ R2.lo ≤ R2.hi ∧ R2.hi ≤ 999999 ∧
      1 ≤ worthRN (partnerZ u true) u c e ∧ worthRN (partnerZ u true) u c e ≤ 100000000 ∧ 1 ≤ worthRD (partnerZ u true) u c e ∧ worthRD (partnerZ u true) u c e ≤ 100000000 ∧
      lo - R2.lo ≤ 1 + (worthRN (partnerZ u true) u c e + worthRD (partnerZ u true) u c e - 1) / worthRD (partnerZ u true) u c e ∧
      R2.hi - hi ≤ 1 + (worthRN (partnerZ u true) u c e + worthRD (partnerZ u true) u c e - 1) / worthRD (partnerZ u true) u c e) := by
  have k := (knownB_iff _ _ _).1 hk
  have r := (ratesB_iff _ _).1 hr
  have hv : validB lo hi u = true := (validB_iff _ _ _).2 (Or.inr hk)
  obtain ⟨t1, t2, t3⟩ := partnerZ_ok u true ⟨k.1, k.2.1⟩
  obtain ⟨q1, q2⟩ := partnerZ_back u c e ⟨k.1, k.2.1⟩
  by_cases hu : u = partnerZ u true
  · have hu1 : u = 1 := by
      have : u = 1 ∨ u = 2 ∨ u = 3 ∨ u = 4 ∨ u = 5 ∨ u = 6 ∨ u = 7 := by omega
      rcases this with rfl | rfl | rfl | rfl | rfl | rfl | rfl <;> first | rfl | exact absurd hu (by decide)
    subst hu1
    rw [← hu, convR_same hk hr] at h1
    subst h1
    rw [convR_same hk hr] at h2
    subst h2
    refine .inr (.inr ⟨rfl, rfl, ?_, k.2.2.1, k.2.2.2.1, k.2.2.2.2, ?_⟩)
    · simp [containsB, hv]
    · have e1 : worthRN (partnerZ 1 true) 1 c e = 1 := by simp [partnerZ, worthRN]
      have e2 : worthRD (partnerZ 1 true) 1 c e = 1 := by simp [partnerZ, worthRD]
      rw [e1, e2]
      dsimp only
      omega
  · obtain ⟨p1, p2, p3, p4⟩ := worth_bd u (partnerZ u true) c e ⟨k.1, k.2.1⟩ ⟨t1, t2⟩ t3 ⟨r.1, r.2.1⟩ ⟨r.2.2.1, r.2.2.2⟩ hu
    generalize hto : partnerZ u true = to at *
    have hc1 : convR lo hi u to c e = checkR (lo * (worthN u c e * worthD to c e) / (worthD u c e * worthN to c e)) ((hi * (worthN u c e * worthD to c e) + worthD u c e * worthN to c e - 1) / (worthD u c e * worthN to c e)) to := by
      simp [convR, hk, hr, t3, hu]
    rw [hc1] at h1
    rcases checkR_e (lo * (worthN u c e * worthD to c e) / (worthD u c e * worthN to c e)) ((hi * (worthN u c e * worthD to c e) + worthD u c e * worthN to c e - 1) / (worthD u c e * worthN to c e)) to with h0 | h0
    · obtain ⟨g1, g2⟩ := checkR_ok h0
      rw [g1] at h1
      subst h1
      dsimp only at h2 ⊢
      have hk2 : knownB (lo * (worthN u c e * worthD to c e) / (worthD u c e * worthN to c e)) ((hi * (worthN u c e * worthD to c e) + worthD u c e * worthN to c e - 1) / (worthD u c e * worthN to c e)) to = true := by
        rcases (validB_iff _ _ _).1 g2 with g | g
        · omega
        · exact g
      have hc2 : convR (lo * (worthN u c e * worthD to c e) / (worthD u c e * worthN to c e)) ((hi * (worthN u c e * worthD to c e) + worthD u c e * worthN to c e - 1) / (worthD u c e * worthN to c e)) to u c e =
          checkR (lo * (worthN u c e * worthD to c e) / (worthD u c e * worthN to c e) * (worthD u c e * worthN to c e) / (worthN u c e * worthD to c e))
            (((hi * (worthN u c e * worthD to c e) + worthD u c e * worthN to c e - 1) / (worthD u c e * worthN to c e) * (worthD u c e * worthN to c e) + worthN u c e * worthD to c e - 1) / (worthN u c e * worthD to c e)) u := by
        simp [convR, hk2, hr, t3, Ne.symm hu, Int.mul_comm (worthN to c e) (worthD u c e), Int.mul_comm (worthD to c e) (worthN u c e)]
      rw [hc2] at h2
      rw [Int.mul_comm] at q1
      rw [Int.mul_comm] at q2
      rw [q1, q2]
      generalize hn : worthN u c e * worthD to c e = n at *
      generalize hd : worthD u c e * worthN to c e = d at *
      obtain ⟨s1, s2⟩ := down_back lo n d p1 p3
      obtain ⟨s3, s4⟩ := up_back hi n d p1 p3
      rcases checkR_e (lo * n / d * d / n) (((hi * n + d - 1) / d * d + n - 1) / n) u with h0' | h0'
      · obtain ⟨g3, g4⟩ := checkR_ok h0'
        rw [g3] at h2
        subst h2
        have hk3 : knownB (lo * n / d * d / n) (((hi * n + d - 1) / d * d + n - 1) / n) u = true := by
          rcases (validB_iff _ _ _).1 g4 with g | g
          · omega
          · exact g
        have k3 := (knownB_iff _ _ _).1 hk3
        exact .inr (.inr ⟨rfl, rfl, by simp [containsB, g4, hv, s1, s3], k3.2.2.1, k3.2.2.2.1, k3.2.2.2.2, p3, p4, p1, p2, s2, s4⟩)
      · exact .inr (.inl ⟨rfl, by rw [← h2]; exact h0'⟩)
    · have hb : R1 = bad := by
        rw [← h1]
        unfold checkR at h0 ⊢
        split at h0
        · cases h0
        · rename_i hv; rw [if_neg hv]
      subst hb
      exact .inl ⟨rfl, by rw [← h2]; show (convR 0 0 0 u c e).e = 50; rw [convR_bad]; rfl⟩

/-! ### The walk -/
theorem same_below {f : FuncId} {args : Array Value} {w : World} {v : Value} (hc : Calls Tryd.prog f args w fun r w' => r = .returned v ∧ w = w') : Calls Tryd.prog f args w fun r w' => r = .returned v ∧ Below w.heap.size w w' :=
  hc.mono fun e w' h => ⟨h.1, by rw [← h.2]; exact Below.refl _ _⟩

set_option maxRecDepth 100000 in
set_option maxHeartbeats 2000000 in
theorem back_walk (x0 x1 x2 z0 z1 lo hi u c e to l1 h1 u1 e1 l2 h2 u2 e2 num den : Int) (w : World) (T : Tab w)
    (hM : ∀ w, Calls Tryd.prog 16 #[.agg #[.int .i64 x0, .int .i64 x1, .int .i64 x2]] w fun r w' => r = .returned (.agg #[.int .i64 lo, .int .i64 hi, .int .i64 u]) ∧ Below w.heap.size w w')
    (hR : ∀ w, Calls Tryd.prog 23 #[.agg #[.int .i64 z0, .int .i64 z1]] w fun r w' => r = .returned (.agg #[.int .i64 c, .int .i64 e]) ∧ Below w.heap.size w w')
    (hP : ∀ w, Calls Tryd.prog 38 #[.int .i64 u, .bool true] w fun r w' => r = .returned (.int .i64 to) ∧ w = w')
    (hC1 : ∀ w, Tab w → Calls Tryd.prog 25 #[.agg #[.int .i64 lo, .int .i64 hi, .int .i64 u], .int .i64 to, .agg #[.int .i64 c, .int .i64 e]] w fun r w' => r = .returned (.tuple #[.agg #[.int .i64 l1, .int .i64 h1, .int .i64 u1], .int .i64 e1]) ∧ Below w.heap.size w w')
    (hC2 : ∀ w, Tab w → Calls Tryd.prog 25 #[.agg #[.int .i64 l1, .int .i64 h1, .int .i64 u1], .int .i64 u, .agg #[.int .i64 c, .int .i64 e]] w fun r w' => r = .returned (.tuple #[.agg #[.int .i64 l2, .int .i64 h2, .int .i64 u2], .int .i64 e2]) ∧ Below w.heap.size w w')
    (hW : ∀ w, Calls Tryd.prog 39 #[.int .i64 to, .int .i64 u, .agg #[.int .i64 c, .int .i64 e]] w fun r w' => r = .returned (.tuple #[.int .i64 num, .int .i64 den]) ∧ Below w.heap.size w w')
    (hmath : (e1 = 50 ∧ e2 = 50) ∨ (e1 = 0 ∧ e2 = 50) ∨ (e1 = 0 ∧ e2 = 0 ∧ (∀ w, Tab w → Calls Tryd.prog 21 #[.agg #[.int .i64 l2, .int .i64 h2, .int .i64 u2], .agg #[.int .i64 lo, .int .i64 hi, .int .i64 u]] w fun r w' => r = .returned (.bool true) ∧ Below w.heap.size w w') ∧
      0 ≤ l2 ∧ l2 ≤ h2 ∧ h2 ≤ 999999 ∧ 1 ≤ num ∧ num ≤ 100000000 ∧ 1 ≤ den ∧ den ≤ 100000000 ∧ lo - l2 ≤ 1 + (num + den - 1) / den ∧ h2 - hi ≤ 1 + (num + den - 1) / den))
    (b0 : 0 ≤ lo) (b1 : lo ≤ hi) (b2 : hi ≤ 999999) :
    Calls Tryd.prog 5 #[.agg #[.int .i64 x0, .int .i64 x1, .int .i64 x2], .agg #[.int .i64 z0, .int .i64 z1]] w fun r w' => r = .returned (.bool true) ∧ Below w.heap.size w w' := by
  have HM := Lib.hid hM
  have HR := Lib.hid hR
  have HP := Lib.hid hP
  have HC1 := Lib.hid hC1
  have HC2 := Lib.hid hC2
  have HW := Lib.hid hW
  have HT := Lib.hid T
  have BB := Lib.hid (Below.refl w.heap.size w)
  clear hM hR hP hC1 hC2 hW T
  rcases hmath with ⟨rfl, rfl⟩ | ⟨rfl, rfl⟩ | ⟨rfl, rfl, hCC, m1, m2, m3, m4, m5, m6, m7, m8, m9⟩
  · go_enter Tryd.func5, Tryd.ntmps5
    go_wp2_with fail
    refine (sane_any _ (HT.out.next (by (repeat' first | exact Below.refl _ _ | assumption | (refine below_drewN ?_ _) | (refine Below.drew ?_) | (refine Below.alloc ?_ ?_ _) | (refine Below.setCell ?_ ?_ _) | (simp; done) | (simp; omega) | omega)))).mono ?_
    rintro e w1 ⟨rfl, hb⟩
    have HB := Lib.hid hb
    have hW : Below w.heap.size w w1 := by (repeat' first | exact Below.refl _ _ | assumption | (refine Below.andThen ?_ HB.out) | (exact HB.out.size) | (refine below_drewN ?_ _) | (refine Below.drew ?_) | (refine Below.alloc ?_ ?_ _) | (refine Below.setCell ?_ ?_ _) | (simp; done) | (simp; omega) | omega)
    have F0 : Has3 w1 (w.heap.size) (.int .i64 x0) (.int .i64 x1) (.int .i64 x2) := has3 ⟨(by first | (simp; done) | (simp; omega)), by go_simp, by go_simp, by go_simp⟩ hb
    have F1 : Has2 w1 (w.heap.size + 1) (.int .i64 z0) (.int .i64 z1) := has2 ⟨(by first | (simp; done) | (simp; omega)), by go_simp, by go_simp⟩ hb
    replace BB := Lib.hid (Below.andThen BB.out hW)
    replace HT := Lib.hid (HT.out.next hW)
    clear hb hW HB
    go_wp2_with fail
    refine (HM.out _).mono ?_
    rintro e w2 ⟨rfl, hb⟩
    have HB := Lib.hid hb
    have hW : Below w1.heap.size w1 w2 := by (repeat' first | exact Below.refl _ _ | assumption | (refine Below.andThen ?_ HB.out) | (exact HB.out.size) | (refine below_drewN ?_ _) | (refine Below.drew ?_) | (refine Below.alloc ?_ ?_ _) | (refine Below.setCell ?_ ?_ _) | (simp; done) | (simp; omega) | omega)
    replace F0 := has3 F0 hW
    replace F1 := has2 F1 hW
    replace BB := Lib.hid (Below.andThen BB.out hW)
    replace HT := Lib.hid (HT.out.next hW)
    clear hb hW HB
    go_wp2_with fail
    refine (HR.out _).mono ?_
    rintro e w3 ⟨rfl, hb⟩
    have HB := Lib.hid hb
    have hW : Below w2.heap.size w2 w3 := by (repeat' first | exact Below.refl _ _ | assumption | (refine Below.andThen ?_ HB.out) | (exact HB.out.size) | (refine below_drewN ?_ _) | (refine Below.drew ?_) | (refine Below.alloc ?_ ?_ _) | (refine Below.setCell ?_ ?_ _) | (simp; done) | (simp; omega) | omega)
    replace F1 := has2 F1 hW
    have F2 : Has3 w3 (w2.heap.size) (.int .i64 lo) (.int .i64 hi) (.int .i64 u) := has3 ⟨(by first | (simp; done) | (simp; omega)), by go_simp, by go_simp, by go_simp⟩ hb
    replace BB := Lib.hid (Below.andThen BB.out hW)
    replace HT := Lib.hid (HT.out.next hW)
    clear hb hW HB
    go_wp2_with fail
    refine (same_below (HP.out _)).mono ?_
    rintro e w4 ⟨rfl, hb⟩
    have HB := Lib.hid hb
    have hW : Below w3.heap.size w3 w4 := by (repeat' first | exact Below.refl _ _ | assumption | (refine Below.andThen ?_ HB.out) | (exact HB.out.size) | (refine below_drewN ?_ _) | (refine Below.drew ?_) | (refine Below.alloc ?_ ?_ _) | (refine Below.setCell ?_ ?_ _) | (simp; done) | (simp; omega) | omega)
    replace F2 := has3 F2 hW
    have F3 : Has2 w4 (w3.heap.size) (.int .i64 c) (.int .i64 e) := has2 ⟨(by first | (simp; done) | (simp; omega)), by go_simp, by go_simp⟩ hb
    replace BB := Lib.hid (Below.andThen BB.out hW)
    replace HT := Lib.hid (HT.out.next hW)
    clear hb hW HB
    go_wp2_with fail
    refine (HC1.out _ HT.out).mono ?_
    rintro e w5 ⟨rfl, hb⟩
    have HB := Lib.hid hb
    have hW : Below w4.heap.size w4 w5 := by (repeat' first | exact Below.refl _ _ | assumption | (refine Below.andThen ?_ HB.out) | (exact HB.out.size) | (refine below_drewN ?_ _) | (refine Below.drew ?_) | (refine Below.alloc ?_ ?_ _) | (refine Below.setCell ?_ ?_ _) | (simp; done) | (simp; omega) | omega)
    replace F2 := has3 F2 hW
    replace F3 := has2 F3 hW
    replace BB := Lib.hid (Below.andThen BB.out hW)
    replace HT := Lib.hid (HT.out.next hW)
    clear hb hW HB
    go_wp2_with fail
    refine (HC2.out _ (HT.out.next (by (repeat' first | exact Below.refl _ _ | assumption | (refine below_drewN ?_ _) | (refine Below.drew ?_) | (refine Below.alloc ?_ ?_ _) | (refine Below.setCell ?_ ?_ _) | (simp; done) | (simp; omega) | omega)))).mono ?_
    rintro e w6 ⟨rfl, hb⟩
    have HB := Lib.hid hb
    have hW : Below w5.heap.size w5 w6 := by (repeat' first | exact Below.refl _ _ | assumption | (refine Below.andThen ?_ HB.out) | (exact HB.out.size) | (refine below_drewN ?_ _) | (refine Below.drew ?_) | (refine Below.alloc ?_ ?_ _) | (refine Below.setCell ?_ ?_ _) | (simp; done) | (simp; omega) | omega)
    replace F2 := has3 F2 hW
    replace F3 := has2 F3 hW
    replace BB := Lib.hid (Below.andThen BB.out hW)
    replace HT := Lib.hid (HT.out.next hW)
    clear hb hW HB
    go_wp2
    go_ret
    exact ⟨rfl, by (repeat' first | exact Below.refl _ _ | assumption | (refine Below.andThen ?_ BB.out) | (exact BB.out.size) | (refine below_drewN ?_ _) | (refine Below.drew ?_) | (refine Below.alloc ?_ ?_ _) | (refine Below.setCell ?_ ?_ _) | (simp; done) | (simp; omega) | omega)⟩
  · go_enter Tryd.func5, Tryd.ntmps5
    go_wp2_with fail
    refine (sane_any _ (HT.out.next (by (repeat' first | exact Below.refl _ _ | assumption | (refine below_drewN ?_ _) | (refine Below.drew ?_) | (refine Below.alloc ?_ ?_ _) | (refine Below.setCell ?_ ?_ _) | (simp; done) | (simp; omega) | omega)))).mono ?_
    rintro e w1 ⟨rfl, hb⟩
    have HB := Lib.hid hb
    have hW : Below w.heap.size w w1 := by (repeat' first | exact Below.refl _ _ | assumption | (refine Below.andThen ?_ HB.out) | (exact HB.out.size) | (refine below_drewN ?_ _) | (refine Below.drew ?_) | (refine Below.alloc ?_ ?_ _) | (refine Below.setCell ?_ ?_ _) | (simp; done) | (simp; omega) | omega)
    have F0 : Has3 w1 (w.heap.size) (.int .i64 x0) (.int .i64 x1) (.int .i64 x2) := has3 ⟨(by first | (simp; done) | (simp; omega)), by go_simp, by go_simp, by go_simp⟩ hb
    have F1 : Has2 w1 (w.heap.size + 1) (.int .i64 z0) (.int .i64 z1) := has2 ⟨(by first | (simp; done) | (simp; omega)), by go_simp, by go_simp⟩ hb
    replace BB := Lib.hid (Below.andThen BB.out hW)
    replace HT := Lib.hid (HT.out.next hW)
    clear hb hW HB
    go_wp2_with fail
    refine (HM.out _).mono ?_
    rintro e w2 ⟨rfl, hb⟩
    have HB := Lib.hid hb
    have hW : Below w1.heap.size w1 w2 := by (repeat' first | exact Below.refl _ _ | assumption | (refine Below.andThen ?_ HB.out) | (exact HB.out.size) | (refine below_drewN ?_ _) | (refine Below.drew ?_) | (refine Below.alloc ?_ ?_ _) | (refine Below.setCell ?_ ?_ _) | (simp; done) | (simp; omega) | omega)
    replace F0 := has3 F0 hW
    replace F1 := has2 F1 hW
    replace BB := Lib.hid (Below.andThen BB.out hW)
    replace HT := Lib.hid (HT.out.next hW)
    clear hb hW HB
    go_wp2_with fail
    refine (HR.out _).mono ?_
    rintro e w3 ⟨rfl, hb⟩
    have HB := Lib.hid hb
    have hW : Below w2.heap.size w2 w3 := by (repeat' first | exact Below.refl _ _ | assumption | (refine Below.andThen ?_ HB.out) | (exact HB.out.size) | (refine below_drewN ?_ _) | (refine Below.drew ?_) | (refine Below.alloc ?_ ?_ _) | (refine Below.setCell ?_ ?_ _) | (simp; done) | (simp; omega) | omega)
    replace F1 := has2 F1 hW
    have F2 : Has3 w3 (w2.heap.size) (.int .i64 lo) (.int .i64 hi) (.int .i64 u) := has3 ⟨(by first | (simp; done) | (simp; omega)), by go_simp, by go_simp, by go_simp⟩ hb
    replace BB := Lib.hid (Below.andThen BB.out hW)
    replace HT := Lib.hid (HT.out.next hW)
    clear hb hW HB
    go_wp2_with fail
    refine (same_below (HP.out _)).mono ?_
    rintro e w4 ⟨rfl, hb⟩
    have HB := Lib.hid hb
    have hW : Below w3.heap.size w3 w4 := by (repeat' first | exact Below.refl _ _ | assumption | (refine Below.andThen ?_ HB.out) | (exact HB.out.size) | (refine below_drewN ?_ _) | (refine Below.drew ?_) | (refine Below.alloc ?_ ?_ _) | (refine Below.setCell ?_ ?_ _) | (simp; done) | (simp; omega) | omega)
    replace F2 := has3 F2 hW
    have F3 : Has2 w4 (w3.heap.size) (.int .i64 c) (.int .i64 e) := has2 ⟨(by first | (simp; done) | (simp; omega)), by go_simp, by go_simp⟩ hb
    replace BB := Lib.hid (Below.andThen BB.out hW)
    replace HT := Lib.hid (HT.out.next hW)
    clear hb hW HB
    go_wp2_with fail
    refine (HC1.out _ HT.out).mono ?_
    rintro e w5 ⟨rfl, hb⟩
    have HB := Lib.hid hb
    have hW : Below w4.heap.size w4 w5 := by (repeat' first | exact Below.refl _ _ | assumption | (refine Below.andThen ?_ HB.out) | (exact HB.out.size) | (refine below_drewN ?_ _) | (refine Below.drew ?_) | (refine Below.alloc ?_ ?_ _) | (refine Below.setCell ?_ ?_ _) | (simp; done) | (simp; omega) | omega)
    replace F2 := has3 F2 hW
    replace F3 := has2 F3 hW
    replace BB := Lib.hid (Below.andThen BB.out hW)
    replace HT := Lib.hid (HT.out.next hW)
    clear hb hW HB
    go_wp2_with fail
    refine (HC2.out _ (HT.out.next (by (repeat' first | exact Below.refl _ _ | assumption | (refine below_drewN ?_ _) | (refine Below.drew ?_) | (refine Below.alloc ?_ ?_ _) | (refine Below.setCell ?_ ?_ _) | (simp; done) | (simp; omega) | omega)))).mono ?_
    rintro e w6 ⟨rfl, hb⟩
    have HB := Lib.hid hb
    have hW : Below w5.heap.size w5 w6 := by (repeat' first | exact Below.refl _ _ | assumption | (refine Below.andThen ?_ HB.out) | (exact HB.out.size) | (refine below_drewN ?_ _) | (refine Below.drew ?_) | (refine Below.alloc ?_ ?_ _) | (refine Below.setCell ?_ ?_ _) | (simp; done) | (simp; omega) | omega)
    replace F2 := has3 F2 hW
    replace F3 := has2 F3 hW
    replace BB := Lib.hid (Below.andThen BB.out hW)
    replace HT := Lib.hid (HT.out.next hW)
    clear hb hW HB
    go_wp2
    go_ret
    exact ⟨rfl, by (repeat' first | exact Below.refl _ _ | assumption | (refine Below.andThen ?_ BB.out) | (exact BB.out.size) | (refine below_drewN ?_ _) | (refine Below.drew ?_) | (refine Below.alloc ?_ ?_ _) | (refine Below.setCell ?_ ?_ _) | (simp; done) | (simp; omega) | omega)⟩
  · go_enter Tryd.func5, Tryd.ntmps5
    go_wp2_with fail
    refine (sane_any _ (HT.out.next (by (repeat' first | exact Below.refl _ _ | assumption | (refine below_drewN ?_ _) | (refine Below.drew ?_) | (refine Below.alloc ?_ ?_ _) | (refine Below.setCell ?_ ?_ _) | (simp; done) | (simp; omega) | omega)))).mono ?_
    rintro e w1 ⟨rfl, hb⟩
    have HB := Lib.hid hb
    have hW : Below w.heap.size w w1 := by (repeat' first | exact Below.refl _ _ | assumption | (refine Below.andThen ?_ HB.out) | (exact HB.out.size) | (refine below_drewN ?_ _) | (refine Below.drew ?_) | (refine Below.alloc ?_ ?_ _) | (refine Below.setCell ?_ ?_ _) | (simp; done) | (simp; omega) | omega)
    have F0 : Has3 w1 (w.heap.size) (.int .i64 x0) (.int .i64 x1) (.int .i64 x2) := has3 ⟨(by first | (simp; done) | (simp; omega)), by go_simp, by go_simp, by go_simp⟩ hb
    have F1 : Has2 w1 (w.heap.size + 1) (.int .i64 z0) (.int .i64 z1) := has2 ⟨(by first | (simp; done) | (simp; omega)), by go_simp, by go_simp⟩ hb
    replace BB := Lib.hid (Below.andThen BB.out hW)
    replace HT := Lib.hid (HT.out.next hW)
    clear hb hW HB
    go_wp2_with fail
    refine (HM.out _).mono ?_
    rintro e w2 ⟨rfl, hb⟩
    have HB := Lib.hid hb
    have hW : Below w1.heap.size w1 w2 := by (repeat' first | exact Below.refl _ _ | assumption | (refine Below.andThen ?_ HB.out) | (exact HB.out.size) | (refine below_drewN ?_ _) | (refine Below.drew ?_) | (refine Below.alloc ?_ ?_ _) | (refine Below.setCell ?_ ?_ _) | (simp; done) | (simp; omega) | omega)
    replace F0 := has3 F0 hW
    replace F1 := has2 F1 hW
    replace BB := Lib.hid (Below.andThen BB.out hW)
    replace HT := Lib.hid (HT.out.next hW)
    clear hb hW HB
    go_wp2_with fail
    refine (HR.out _).mono ?_
    rintro e w3 ⟨rfl, hb⟩
    have HB := Lib.hid hb
    have hW : Below w2.heap.size w2 w3 := by (repeat' first | exact Below.refl _ _ | assumption | (refine Below.andThen ?_ HB.out) | (exact HB.out.size) | (refine below_drewN ?_ _) | (refine Below.drew ?_) | (refine Below.alloc ?_ ?_ _) | (refine Below.setCell ?_ ?_ _) | (simp; done) | (simp; omega) | omega)
    replace F1 := has2 F1 hW
    have F2 : Has3 w3 (w2.heap.size) (.int .i64 lo) (.int .i64 hi) (.int .i64 u) := has3 ⟨(by first | (simp; done) | (simp; omega)), by go_simp, by go_simp, by go_simp⟩ hb
    replace BB := Lib.hid (Below.andThen BB.out hW)
    replace HT := Lib.hid (HT.out.next hW)
    clear hb hW HB
    go_wp2_with fail
    refine (same_below (HP.out _)).mono ?_
    rintro e w4 ⟨rfl, hb⟩
    have HB := Lib.hid hb
    have hW : Below w3.heap.size w3 w4 := by (repeat' first | exact Below.refl _ _ | assumption | (refine Below.andThen ?_ HB.out) | (exact HB.out.size) | (refine below_drewN ?_ _) | (refine Below.drew ?_) | (refine Below.alloc ?_ ?_ _) | (refine Below.setCell ?_ ?_ _) | (simp; done) | (simp; omega) | omega)
    replace F2 := has3 F2 hW
    have F3 : Has2 w4 (w3.heap.size) (.int .i64 c) (.int .i64 e) := has2 ⟨(by first | (simp; done) | (simp; omega)), by go_simp, by go_simp⟩ hb
    replace BB := Lib.hid (Below.andThen BB.out hW)
    replace HT := Lib.hid (HT.out.next hW)
    clear hb hW HB
    go_wp2_with fail
    refine (HC1.out _ HT.out).mono ?_
    rintro e w5 ⟨rfl, hb⟩
    have HB := Lib.hid hb
    have hW : Below w4.heap.size w4 w5 := by (repeat' first | exact Below.refl _ _ | assumption | (refine Below.andThen ?_ HB.out) | (exact HB.out.size) | (refine below_drewN ?_ _) | (refine Below.drew ?_) | (refine Below.alloc ?_ ?_ _) | (refine Below.setCell ?_ ?_ _) | (simp; done) | (simp; omega) | omega)
    replace F2 := has3 F2 hW
    replace F3 := has2 F3 hW
    replace BB := Lib.hid (Below.andThen BB.out hW)
    replace HT := Lib.hid (HT.out.next hW)
    clear hb hW HB
    go_wp2_with fail
    refine (HC2.out _ (HT.out.next (by (repeat' first | exact Below.refl _ _ | assumption | (refine below_drewN ?_ _) | (refine Below.drew ?_) | (refine Below.alloc ?_ ?_ _) | (refine Below.setCell ?_ ?_ _) | (simp; done) | (simp; omega) | omega)))).mono ?_
    rintro e w6 ⟨rfl, hb⟩
    have HB := Lib.hid hb
    have hW : Below w5.heap.size w5 w6 := by (repeat' first | exact Below.refl _ _ | assumption | (refine Below.andThen ?_ HB.out) | (exact HB.out.size) | (refine below_drewN ?_ _) | (refine Below.drew ?_) | (refine Below.alloc ?_ ?_ _) | (refine Below.setCell ?_ ?_ _) | (simp; done) | (simp; omega) | omega)
    replace F2 := has3 F2 hW
    replace F3 := has2 F3 hW
    replace BB := Lib.hid (Below.andThen BB.out hW)
    replace HT := Lib.hid (HT.out.next hW)
    clear hb hW HB
    go_wp2_with fail
    refine (HW.out _).mono ?_
    rintro e w7 ⟨rfl, hb⟩
    have HB := Lib.hid hb
    have hW : Below w6.heap.size w6 w7 := by (repeat' first | exact Below.refl _ _ | assumption | (refine Below.andThen ?_ HB.out) | (exact HB.out.size) | (refine below_drewN ?_ _) | (refine Below.drew ?_) | (refine Below.alloc ?_ ?_ _) | (refine Below.setCell ?_ ?_ _) | (simp; done) | (simp; omega) | omega)
    replace F2 := has3 F2 hW
    replace F3 := has2 F3 hW
    have F4 : Has3 w7 (w6.heap.size) (.int .i64 l2) (.int .i64 h2) (.int .i64 u2) := has3 ⟨(by first | (simp; done) | (simp; omega)), by go_simp, by go_simp, by go_simp⟩ hb
    replace BB := Lib.hid (Below.andThen BB.out hW)
    replace HT := Lib.hid (HT.out.next hW)
    clear hb hW HB
    have f0 : 0 ≤ (num + den - 1) / den := Int.ediv_nonneg (by omega) (by omega)
    have f1 : (num + den - 1) / den ≤ num + den - 1 := Int.ediv_le_self _ (by omega)
    have HCC := Lib.hid hCC
    clear hCC
    go_wp2_with fail
    refine (HCC.out _ HT.out).mono ?_
    rintro e w8 ⟨rfl, hb⟩
    have HB := Lib.hid hb
    have hW : Below w7.heap.size w7 w8 := by (repeat' first | exact Below.refl _ _ | assumption | (refine Below.andThen ?_ HB.out) | (exact HB.out.size) | (refine below_drewN ?_ _) | (refine Below.drew ?_) | (refine Below.alloc ?_ ?_ _) | (refine Below.setCell ?_ ?_ _) | (simp; done) | (simp; omega) | omega)
    replace F2 := has3 F2 hW
    replace F4 := has3 F4 hW
    replace BB := Lib.hid (Below.andThen BB.out hW)
    replace HT := Lib.hid (HT.out.next hW)
    clear hb hW HB
    go_wp2
    go_ret
    exact ⟨rfl, by (repeat' first | exact Below.refl _ _ | assumption | (refine Below.andThen ?_ BB.out) | (exact BB.out.size) | (refine below_drewN ?_ _) | (refine Below.drew ?_) | (refine Below.alloc ?_ ?_ _) | (refine Below.setCell ?_ ?_ _) | (simp; done) | (simp; omega) | omega)⟩
end Go.Proofs.YtdldokhiefeloaaDoor
