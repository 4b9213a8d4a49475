/- UnitCoarser: greater steps contain lesser ones, the same step twice changes nothing, and two shares contain the whole. -/
import Derived.Test.YtdldokhiefeloaaDoorUnitBack
namespace Go.Proofs.YtdldokhiefeloaaDoor
open Go.RowKit

/-! ### Plain mathematics -/
theorem known_checkR {lo hi u : Int} (h1 : 1 ≤ u) (h2 : u ≤ 7) (h3 : 0 ≤ lo) (h4 : lo ≤ hi) (h5 : hi ≤ 999999) : checkR lo hi u = ⟨lo, hi, u, 0⟩ := by
  have : validB lo hi u = true := (validB_iff _ _ _).2 (Or.inr ((knownB_iff _ _ _).2 ⟨h1, h2, h3, h4, h5⟩))
  simp [checkR, this]
theorem big_checkR {lo hi u : Int} (_h1 : 1 ≤ u) (h5 : 999999 < hi) : checkR lo hi u = bad := by
  have : validB lo hi u = false := by
    rw [Bool.eq_false_iff]
    intro h
    rcases (validB_iff _ _ _).1 h with h | h
    · omega
    · have := (knownB_iff _ _ _).1 h; omega
  simp [checkR, this]
theorem contains_of {a b c x y : Int} (h1 : validB a b c = true) (h2 : validB x y c = true) (h3 : a ≤ x) (h4 : y ≤ b) : containsB a b c x y c = true := by
  simp [containsB, *]
theorem valid_of {a b c : Int} (h1 : 1 ≤ c) (h2 : c ≤ 7) (h3 : 0 ≤ a) (h4 : a ≤ b) (h5 : b ≤ 999999) : validB a b c = true := (validB_iff _ _ _).2 (Or.inr ((knownB_iff _ _ _).2 ⟨h1, h2, h3, h4, h5⟩))

def dn (x s : Int) : Int := x / s * s
def up (x s : Int) : Int := (x + s - 1) / s * s
theorem dn_up (x s : Int) (hs : s = 1 ∨ s = 10 ∨ s = 100 ∨ s = 1000 ∨ s = 10000) (h : 0 ≤ x) : 0 ≤ dn x s ∧ dn x s ≤ x ∧ x ≤ up x s ∧ up x s ≤ x + s - 1 ∧ dn (dn x s) s = dn x s ∧ up (up x s) s = up x s := by
  unfold dn up
  rcases hs with rfl | rfl | rfl | rfl | rfl <;> omega
theorem dn_up2 (x s t : Int) (hs : s = 1 ∨ s = 10 ∨ s = 100 ∨ s = 1000 ∨ s = 10000) (ht : t = 1 ∨ t = 10 ∨ t = 100 ∨ t = 1000 ∨ t = 10000) (hst : s ≤ t) (_h : 0 ≤ x) : dn x t ≤ dn x s ∧ up x s ≤ up x t := by
  unfold dn up
  rcases hs with rfl | rfl | rfl | rfl | rfl <;> rcases ht with rfl | rfl | rfl | rfl | rfl <;> omega

theorem coarse_eq {lo hi u s : Int} (hk : knownB lo hi u = true) (hs : stepB s = true) : coarseR lo hi u s = checkR (dn lo s) (up hi s) u := by simp [coarseR, hk, hs, dn, up]

theorem coarse_math {lo hi u s t : Int} (hk : knownB lo hi u = true) (hs : s = 1 ∨ s = 10 ∨ s = 100 ∨ s = 1000 ∨ s = 10000) (ht : t = 1 ∨ t = 10 ∨ t = 100 ∨ t = 1000 ∨ t = 10000) (hst : s ≤ t) :
    (coarseR lo hi u t).e = 50 ∨ ((coarseR lo hi u t).e = 0 ∧ (coarseR lo hi u s).e = 0 ∧ coarseR (coarseR lo hi u t).lo (coarseR lo hi u t).hi (coarseR lo hi u t).u t = coarseR lo hi u t ∧
      containsB (coarseR lo hi u t).lo (coarseR lo hi u t).hi (coarseR lo hi u t).u (coarseR lo hi u s).lo (coarseR lo hi u s).hi (coarseR lo hi u s).u = true ∧ containsB (coarseR lo hi u s).lo (coarseR lo hi u s).hi (coarseR lo hi u s).u lo hi u = true) := by
  have k := (knownB_iff _ _ _).1 hk
  have hs' : stepB s = true := by rcases hs with rfl | rfl | rfl | rfl | rfl <;> rfl
  have ht' : stepB t = true := by rcases ht with rfl | rfl | rfl | rfl | rfl <;> rfl
  have a1 := dn_up lo s hs k.2.2.1
  have a2 := dn_up hi s hs (by omega)
  have a3 := dn_up lo t ht k.2.2.1
  have a4 := dn_up hi t ht (by omega)
  have a5 := dn_up2 lo s t hs ht hst k.2.2.1
  have a6 := dn_up2 hi s t hs ht hst (by omega)
  rw [coarse_eq hk hs', coarse_eq hk ht']
  by_cases hb : up hi t ≤ 999999
  · rw [known_checkR k.1 k.2.1 a3.1 (by omega) hb, known_checkR k.1 k.2.1 a1.1 (by omega) (by omega)]
    refine .inr ⟨rfl, rfl, ?_, ?_, ?_⟩
    · dsimp only
      rw [coarse_eq ((knownB_iff _ _ _).2 ⟨k.1, k.2.1, a3.1, by omega, hb⟩) ht', a3.2.2.2.2.1, a4.2.2.2.2.2, known_checkR k.1 k.2.1 a3.1 (by omega) hb]
    · dsimp only
      exact contains_of (valid_of k.1 k.2.1 a3.1 (by omega) hb) (valid_of k.1 k.2.1 a1.1 (by omega) (by omega)) (by omega) (by omega)
    · dsimp only
      exact contains_of (valid_of k.1 k.2.1 a1.1 (by omega) (by omega)) (valid_of k.1 k.2.1 k.2.2.1 k.2.2.2.1 k.2.2.2.2) (by omega) (by omega)
  · rw [big_checkR k.1 (show 999999 < up hi t by omega)]
    exact .inl rfl

/-- a share's bounds -/
theorem share_dn (x p q : Int) (hx : 0 ≤ x) (hp : 0 ≤ p) (hpq : p ≤ q) (hq : 1 ≤ q) : 0 ≤ x * p / q ∧ x * p / q ≤ x ∧ x * p / q * q ≤ x * p := by
  have h0 : 0 ≤ x * p := Int.mul_nonneg hx hp
  have h1 := Int.ediv_mul_le (x * p) (show q ≠ 0 by omega)
  have h2 : x * p ≤ x * q := Int.mul_le_mul_of_nonneg_left hpq hx
  exact ⟨Int.ediv_nonneg h0 (by omega), Int.le_of_mul_le_mul_right (show x * p / q * q ≤ x * q by omega) (by omega), h1⟩
theorem share_up (x p q : Int) (hx : 0 ≤ x) (hp : 0 ≤ p) (hpq : p ≤ q) (hq : 1 ≤ q) : 0 ≤ (x * p + q - 1) / q ∧ (x * p + q - 1) / q ≤ x ∧ x * p ≤ (x * p + q - 1) / q * q := by
  have h0 : 0 ≤ x * p := Int.mul_nonneg hx hp
  have h1 := Int.lt_ediv_add_one_mul_self (x * p + q - 1) (show 0 < q by omega)
  have h2 : x * p ≤ x * q := Int.mul_le_mul_of_nonneg_left hpq hx
  rw [Int.add_mul, Int.one_mul] at h1
  refine ⟨Int.ediv_nonneg (by omega) (by omega), ?_, by omega⟩
  have : (x * p + q - 1) / q < x + 1 := Int.ediv_lt_of_lt_mul (by omega) (by rw [Int.add_mul, Int.one_mul]; omega)
  omega
theorem share_le (x y p q : Int) (hxy : x ≤ y) (hp : 0 ≤ p) (hq : 1 ≤ q) : x * p / q ≤ (y * p + q - 1) / q := by
  have h2 : x * p ≤ y * p := Int.mul_le_mul_of_nonneg_right hxy hp
  exact Int.ediv_le_ediv (by omega) (by omega)

theorem share_math {lo hi u p q : Int} (hk : knownB lo hi u = true) (hp : 0 ≤ p) (hpq : p ≤ q) (hq1 : 1 ≤ q) (hq2 : q ≤ 1000) :
    (shareR lo hi u p q).e = 0 ∧ (shareR lo hi u (q - p) q).e = 0 ∧ (shareR lo hi u p q).hi + (shareR lo hi u (q - p) q).hi ≤ 2000000 ∧ 0 ≤ (shareR lo hi u p q).hi + (shareR lo hi u (q - p) q).hi ∧
      0 ≤ (shareR lo hi u p q).hi ∧ (shareR lo hi u p q).hi ≤ 999999 ∧ 0 ≤ (shareR lo hi u (q - p) q).hi ∧ (shareR lo hi u (q - p) q).hi ≤ 999999 ∧
      ∀ R, addR (shareR lo hi u p q).lo (shareR lo hi u p q).hi (shareR lo hi u p q).u (shareR lo hi u (q - p) q).lo (shareR lo hi u (q - p) q).hi (shareR lo hi u (q - p) q).u = R →
        (R.e = 50 ∧ 999999 < (shareR lo hi u p q).hi + (shareR lo hi u (q - p) q).hi) ∨ (R.e = 0 ∧ containsB R.lo R.hi R.u lo hi u = true) := by
  have k := (knownB_iff _ _ _).1 hk
  have s1 : shareB p q = true := by simp [shareB]; omega
  have s2 : shareB (q - p) q = true := by simp [shareB]; omega
  have a1 := share_dn lo p q k.2.2.1 hp hpq hq1
  have a2 := share_dn lo (q - p) q k.2.2.1 (by omega) (by omega) hq1
  have a3 := share_up hi p q (by omega) hp hpq hq1
  have a4 := share_up hi (q - p) q (by omega) (by omega) (by omega) hq1
  have a5 := share_le lo hi p q k.2.2.2.1 hp hq1
  have a6 := share_le lo hi (q - p) q k.2.2.2.1 (by omega) hq1
  have e1 : shareR lo hi u p q = ⟨lo * p / q, (hi * p + q - 1) / q, u, 0⟩ := by
    simp only [shareR, hk, s1, Bool.and_self, if_true]
    exact known_checkR k.1 k.2.1 a1.1 a5 (by omega)
  have e2 : shareR lo hi u (q - p) q = ⟨lo * (q - p) / q, (hi * (q - p) + q - 1) / q, u, 0⟩ := by
    simp only [shareR, hk, s2, Bool.and_self, if_true]
    exact known_checkR k.1 k.2.1 a2.1 a6 (by omega)
  rw [e1, e2]
  dsimp only
  refine ⟨rfl, rfl, by omega, by omega, by omega, by omega, by omega, by omega, ?_⟩
  intro R hR
  have k1 : knownB (lo * p / q) ((hi * p + q - 1) / q) u = true := (knownB_iff _ _ _).2 ⟨k.1, k.2.1, a1.1, a5, by omega⟩
  have k2 : knownB (lo * (q - p) / q) ((hi * (q - p) + q - 1) / q) u = true := (knownB_iff _ _ _).2 ⟨k.1, k.2.1, a2.1, a6, by omega⟩
  have e3 : addR (lo * p / q) ((hi * p + q - 1) / q) u (lo * (q - p) / q) ((hi * (q - p) + q - 1) / q) u = checkR (lo * p / q + lo * (q - p) / q) ((hi * p + q - 1) / q + (hi * (q - p) + q - 1) / q) u := by
    simp [addR, k1, k2]
  rw [e3] at hR
  have l1 : lo * p / q + lo * (q - p) / q ≤ lo := by
    have : (lo * p / q + lo * (q - p) / q) * q ≤ lo * q := by
      rw [Int.add_mul]
      have : lo * p + lo * (q - p) = lo * q := by rw [← Int.mul_add]; congr 1; omega
      omega
    exact Int.le_of_mul_le_mul_right this (by omega)
  have l2 : hi ≤ (hi * p + q - 1) / q + (hi * (q - p) + q - 1) / q := by
    have : hi * q ≤ ((hi * p + q - 1) / q + (hi * (q - p) + q - 1) / q) * q := by
      rw [Int.add_mul]
      have : hi * p + hi * (q - p) = hi * q := by rw [← Int.mul_add]; congr 1; omega
      omega
    exact Int.le_of_mul_le_mul_right this (by omega)
  by_cases hb : (hi * p + q - 1) / q + (hi * (q - p) + q - 1) / q ≤ 999999
  · rw [known_checkR k.1 k.2.1 (by omega) (by omega) hb] at hR
    subst hR
    exact .inr ⟨rfl, show containsB (lo * p / q + lo * (q - p) / q) ((hi * p + q - 1) / q + (hi * (q - p) + q - 1) / q) u lo hi u = true from contains_of (valid_of k.1 k.2.1 (by omega) (by omega) hb) (valid_of k.1 k.2.1 k.2.2.1 k.2.2.2.1 k.2.2.2.2) l1 l2⟩
  · rw [big_checkR k.1 (by omega)] at hR
    subst hR
    exact .inl ⟨rfl, by omega⟩

/-! ### The walk -/
set_option maxRecDepth 100000 in
set_option maxHeartbeats 4000000 in
theorem coarser_lt (x0 x1 x2 o1 o2 nn dd lo hi u s t q0 p0 lb hb' ub eb lc hc uc ec ld hd ud lg hg ug lw hw uw ew : Int) (w : World) (T : Tab w) (_hst : s < t)
    (hM : ∀ w, Calls Tryd.prog 16 #[.agg #[.int .i64 x0, .int .i64 x1, .int .i64 x2]] w fun r w' => r = .returned (.agg #[.int .i64 lo, .int .i64 hi, .int .i64 u]) ∧ Below w.heap.size w w')
    (hS1 : ∀ w, Calls Tryd.prog 31 #[.int .i64 o1] w fun r w' => r = .returned (.int .i64 s) ∧ Below w.heap.size w w')
    (hS2 : ∀ w, Calls Tryd.prog 31 #[.int .i64 o2] w fun r w' => r = .returned (.int .i64 t) ∧ Below w.heap.size w w')
    (hB : ∀ w, Tab w → Calls Tryd.prog 32 #[.agg #[.int .i64 lo, .int .i64 hi, .int .i64 u], .int .i64 s] w fun r w' => r = .returned (.tuple #[.agg #[.int .i64 lb, .int .i64 hb', .int .i64 ub], .int .i64 eb]) ∧ Below w.heap.size w w')
    (hC : ∀ w, Tab w → Calls Tryd.prog 32 #[.agg #[.int .i64 lo, .int .i64 hi, .int .i64 u], .int .i64 t] w fun r w' => r = .returned (.tuple #[.agg #[.int .i64 lc, .int .i64 hc, .int .i64 uc], .int .i64 ec]) ∧ Below w.heap.size w w')
    (hA : ec = 50 ∨ (ec = 0 ∧ eb = 0 ∧ (∀ w, Tab w → Calls Tryd.prog 32 #[.agg #[.int .i64 lc, .int .i64 hc, .int .i64 uc], .int .i64 t] w fun r w' => r = .returned (.tuple #[.agg #[.int .i64 lc, .int .i64 hc, .int .i64 uc], .int .i64 0]) ∧ Below w.heap.size w w') ∧
      (∀ w, Tab w → Calls Tryd.prog 21 #[.agg #[.int .i64 lc, .int .i64 hc, .int .i64 uc], .agg #[.int .i64 lb, .int .i64 hb', .int .i64 ub]] w fun r w' => r = .returned (.bool true) ∧ Below w.heap.size w w') ∧
      (∀ w, Tab w → Calls Tryd.prog 21 #[.agg #[.int .i64 lb, .int .i64 hb', .int .i64 ub], .agg #[.int .i64 lo, .int .i64 hi, .int .i64 u]] w fun r w' => r = .returned (.bool true) ∧ Below w.heap.size w w')))
    (hQ : ∀ w, Calls Tryd.prog 24 #[.int .i64 dd, .int .i64 1000] w fun r w' => r = .returned (.int .i64 q0) ∧ w = w') (q1 : 0 ≤ q0) (q2 : q0 ≤ 999)
    (hP : ∀ w, Calls Tryd.prog 24 #[.int .i64 nn, .int .i64 (1 + q0 + 1)] w fun r w' => r = .returned (.int .i64 p0) ∧ w = w') (p1 : 0 ≤ p0) (p2 : p0 ≤ 1 + q0)
    (hD : ∀ w, Tab w → Calls Tryd.prog 34 #[.agg #[.int .i64 lo, .int .i64 hi, .int .i64 u], .int .i64 p0, .int .i64 (1 + q0)] w fun r w' => r = .returned (.tuple #[.agg #[.int .i64 ld, .int .i64 hd, .int .i64 ud], .int .i64 0]) ∧ Below w.heap.size w w')
    (hG : ∀ w, Tab w → Calls Tryd.prog 34 #[.agg #[.int .i64 lo, .int .i64 hi, .int .i64 u], .int .i64 (1 + q0 - p0), .int .i64 (1 + q0)] w fun r w' => r = .returned (.tuple #[.agg #[.int .i64 lg, .int .i64 hg, .int .i64 ug], .int .i64 0]) ∧ Below w.heap.size w w')
    (d1 : 0 ≤ hd) (d2 : hd ≤ 999999) (g1 : 0 ≤ hg) (g2 : hg ≤ 999999)
    (hW : ∀ w, Tab w → Calls Tryd.prog 17 #[.agg #[.int .i64 ld, .int .i64 hd, .int .i64 ud], .agg #[.int .i64 lg, .int .i64 hg, .int .i64 ug]] w fun r w' => r = .returned (.tuple #[.agg #[.int .i64 lw, .int .i64 hw, .int .i64 uw], .int .i64 ew]) ∧ Below w.heap.size w w')
    (hK : (ew = 50 ∧ 999999 < hd + hg) ∨ (ew = 0 ∧ (∀ w, Tab w → Calls Tryd.prog 21 #[.agg #[.int .i64 lw, .int .i64 hw, .int .i64 uw], .agg #[.int .i64 lo, .int .i64 hi, .int .i64 u]] w fun r w' => r = .returned (.bool true) ∧ Below w.heap.size w w'))) :
    Calls Tryd.prog 8 #[.agg #[.int .i64 x0, .int .i64 x1, .int .i64 x2], .int .i64 o1, .int .i64 o2, .int .i64 nn, .int .i64 dd] w fun r w' => r = .returned (.bool true) ∧ Below w.heap.size w w' := by
  have HM := Lib.hid hM
  have HS1 := Lib.hid hS1
  have HS2 := Lib.hid hS2
  have HB1 := Lib.hid hB
  have HC1 := Lib.hid hC
  have HQ := Lib.hid hQ
  have HP := Lib.hid hP
  have HD := Lib.hid hD
  have HG := Lib.hid hG
  have HW := Lib.hid hW
  have HK := Lib.hid hK
  have HA := Lib.hid hA
  have HT := Lib.hid T
  have BB := Lib.hid (Below.refl w.heap.size w)
  clear hM hS1 hS2 hB hC hQ hP hD hG hW hK hA T
  go_enter Tryd.func8, Tryd.ntmps8
  go_wp2_with fail
  refine (sane_any _ (HT.out.next (by (repeat' first | exact Below.refl _ _ | assumption | (refine below_drewN ?_ _) | (refine Below.drew ?_) | (refine Below.alloc ?_ ?_ _) | (refine Below.setCell ?_ ?_ _) | (simp; done) | (simp; omega) | omega)))).mono ?_
  rintro e w1 ⟨rfl, hb⟩
  have HB := Lib.hid hb
  have hW : Below w.heap.size w w1 := by (repeat' first | exact Below.refl _ _ | assumption | (refine Below.andThen ?_ HB.out) | (exact HB.out.size) | (refine below_drewN ?_ _) | (refine Below.drew ?_) | (refine Below.alloc ?_ ?_ _) | (refine Below.setCell ?_ ?_ _) | (simp; done) | (simp; omega) | omega)
  have F0 : Has3 w1 (w.heap.size) (.int .i64 x0) (.int .i64 x1) (.int .i64 x2) := has3 ⟨(by first | (simp; done) | (simp; omega)), by go_simp, by go_simp, by go_simp⟩ hb
  replace BB := Lib.hid (Below.andThen BB.out hW)
  replace HT := Lib.hid (HT.out.next hW)
  clear hb hW HB
  go_wp2_with fail
  refine (HM.out _).mono ?_
  rintro e w2 ⟨rfl, hb⟩
  have HB := Lib.hid hb
  have hW : Below w1.heap.size w1 w2 := by (repeat' first | exact Below.refl _ _ | assumption | (refine Below.andThen ?_ HB.out) | (exact HB.out.size) | (refine below_drewN ?_ _) | (refine Below.drew ?_) | (refine Below.alloc ?_ ?_ _) | (refine Below.setCell ?_ ?_ _) | (simp; done) | (simp; omega) | omega)
  replace BB := Lib.hid (Below.andThen BB.out hW)
  replace HT := Lib.hid (HT.out.next hW)
  clear hb hW HB
  go_wp2_with fail
  refine (HS1.out _).mono ?_
  rintro e w3 ⟨rfl, hb⟩
  have HB := Lib.hid hb
  have hW : Below w2.heap.size w2 w3 := by (repeat' first | exact Below.refl _ _ | assumption | (refine Below.andThen ?_ HB.out) | (exact HB.out.size) | (refine below_drewN ?_ _) | (refine Below.drew ?_) | (refine Below.alloc ?_ ?_ _) | (refine Below.setCell ?_ ?_ _) | (simp; done) | (simp; omega) | omega)
  have F1 : Has3 w3 (w2.heap.size) (.int .i64 lo) (.int .i64 hi) (.int .i64 u) := has3 ⟨(by first | (simp; done) | (simp; omega)), by go_simp, by go_simp, by go_simp⟩ hb
  replace BB := Lib.hid (Below.andThen BB.out hW)
  replace HT := Lib.hid (HT.out.next hW)
  clear hb hW HB
  go_wp2_with fail
  refine (HS2.out _).mono ?_
  rintro e w4 ⟨rfl, hb⟩
  have HB := Lib.hid hb
  have hW : Below w3.heap.size w3 w4 := by (repeat' first | exact Below.refl _ _ | assumption | (refine Below.andThen ?_ HB.out) | (exact HB.out.size) | (refine below_drewN ?_ _) | (refine Below.drew ?_) | (refine Below.alloc ?_ ?_ _) | (refine Below.setCell ?_ ?_ _) | (simp; done) | (simp; omega) | omega)
  replace F1 := has3 F1 hW
  replace BB := Lib.hid (Below.andThen BB.out hW)
  replace HT := Lib.hid (HT.out.next hW)
  clear hb hW HB
  go_wp2_with fail
  refine (HS1.out _).mono ?_
  rintro e w5 ⟨rfl, hb⟩
  have HB := Lib.hid hb
  have hW : Below w4.heap.size w4 w5 := by (repeat' first | exact Below.refl _ _ | assumption | (refine Below.andThen ?_ HB.out) | (exact HB.out.size) | (refine below_drewN ?_ _) | (refine Below.drew ?_) | (refine Below.alloc ?_ ?_ _) | (refine Below.setCell ?_ ?_ _) | (simp; done) | (simp; omega) | omega)
  replace F1 := has3 F1 hW
  replace BB := Lib.hid (Below.andThen BB.out hW)
  replace HT := Lib.hid (HT.out.next hW)
  clear hb hW HB
  go_wp2_with fail
  refine (HS2.out _).mono ?_
  rintro e w6 ⟨rfl, hb⟩
  have HB := Lib.hid hb
  have hW : Below w5.heap.size w5 w6 := by (repeat' first | exact Below.refl _ _ | assumption | (refine Below.andThen ?_ HB.out) | (exact HB.out.size) | (refine below_drewN ?_ _) | (refine Below.drew ?_) | (refine Below.alloc ?_ ?_ _) | (refine Below.setCell ?_ ?_ _) | (simp; done) | (simp; omega) | omega)
  replace F1 := has3 F1 hW
  replace BB := Lib.hid (Below.andThen BB.out hW)
  replace HT := Lib.hid (HT.out.next hW)
  clear hb hW HB
  go_wp2_with fail
  refine (HB1.out _ HT.out).mono ?_
  rintro e w7 ⟨rfl, hb⟩
  have HB := Lib.hid hb
  have hW : Below w6.heap.size w6 w7 := by (repeat' first | exact Below.refl _ _ | assumption | (refine Below.andThen ?_ HB.out) | (exact HB.out.size) | (refine below_drewN ?_ _) | (refine Below.drew ?_) | (refine Below.alloc ?_ ?_ _) | (refine Below.setCell ?_ ?_ _) | (simp; done) | (simp; omega) | omega)
  replace F1 := has3 F1 hW
  replace BB := Lib.hid (Below.andThen BB.out hW)
  replace HT := Lib.hid (HT.out.next hW)
  clear hb hW HB
  go_wp2_with fail
  refine (HC1.out _ (HT.out.next (by (repeat' first | exact Below.refl _ _ | assumption | (refine below_drewN ?_ _) | (refine Below.drew ?_) | (refine Below.alloc ?_ ?_ _) | (refine Below.setCell ?_ ?_ _) | (simp; done) | (simp; omega) | omega)))).mono ?_
  rintro e w8 ⟨rfl, hb⟩
  have HB := Lib.hid hb
  have hW : Below w7.heap.size w7 w8 := by (repeat' first | exact Below.refl _ _ | assumption | (refine Below.andThen ?_ HB.out) | (exact HB.out.size) | (refine below_drewN ?_ _) | (refine Below.drew ?_) | (refine Below.alloc ?_ ?_ _) | (refine Below.setCell ?_ ?_ _) | (simp; done) | (simp; omega) | omega)
  replace F1 := has3 F1 hW
  have F2 : Has3 w8 (w7.heap.size) (.int .i64 lb) (.int .i64 hb') (.int .i64 ub) := has3 ⟨(by first | (simp; done) | (simp; omega)), by go_simp, by go_simp, by go_simp⟩ hb
  replace BB := Lib.hid (Below.andThen BB.out hW)
  replace HT := Lib.hid (HT.out.next hW)
  clear hb hW HB
  rcases HA.out with rfl | ⟨rfl, rfl, hA1, hA2, hA3⟩
  · go_wp2_with fail
    refine (same_below (HQ.out _)).mono ?_
    rintro e w9 ⟨rfl, hb⟩
    have HB := Lib.hid hb
    have hW : Below w8.heap.size w8 w9 := by (repeat' first | exact Below.refl _ _ | assumption | (refine Below.andThen ?_ HB.out) | (exact HB.out.size) | (refine below_drewN ?_ _) | (refine Below.drew ?_) | (refine Below.alloc ?_ ?_ _) | (refine Below.setCell ?_ ?_ _) | (simp; done) | (simp; omega) | omega)
    replace F1 := has3 F1 hW
    replace BB := Lib.hid (Below.andThen BB.out hW)
    replace HT := Lib.hid (HT.out.next hW)
    clear hb hW HB
    go_wp2_with fail
    refine (same_below (HP.out _)).mono ?_
    rintro e w10 ⟨rfl, hb⟩
    have HB := Lib.hid hb
    have hW : Below w9.heap.size w9 w10 := by (repeat' first | exact Below.refl _ _ | assumption | (refine Below.andThen ?_ HB.out) | (exact HB.out.size) | (refine below_drewN ?_ _) | (refine Below.drew ?_) | (refine Below.alloc ?_ ?_ _) | (refine Below.setCell ?_ ?_ _) | (simp; done) | (simp; omega) | omega)
    replace F1 := has3 F1 hW
    replace BB := Lib.hid (Below.andThen BB.out hW)
    replace HT := Lib.hid (HT.out.next hW)
    clear hb hW HB
    go_wp2_with fail
    refine (HD.out _ HT.out).mono ?_
    rintro e w11 ⟨rfl, hb⟩
    have HB := Lib.hid hb
    have hW : Below w10.heap.size w10 w11 := by (repeat' first | exact Below.refl _ _ | assumption | (refine Below.andThen ?_ HB.out) | (exact HB.out.size) | (refine below_drewN ?_ _) | (refine Below.drew ?_) | (refine Below.alloc ?_ ?_ _) | (refine Below.setCell ?_ ?_ _) | (simp; done) | (simp; omega) | omega)
    replace F1 := has3 F1 hW
    replace BB := Lib.hid (Below.andThen BB.out hW)
    replace HT := Lib.hid (HT.out.next hW)
    clear hb hW HB
    go_wp2_with fail
    refine (HG.out _ (HT.out.next (by (repeat' first | exact Below.refl _ _ | assumption | (refine below_drewN ?_ _) | (refine Below.drew ?_) | (refine Below.alloc ?_ ?_ _) | (refine Below.setCell ?_ ?_ _) | (simp; done) | (simp; omega) | omega)))).mono ?_
    rintro e w12 ⟨rfl, hb⟩
    have HB := Lib.hid hb
    have hW : Below w11.heap.size w11 w12 := by (repeat' first | exact Below.refl _ _ | assumption | (refine Below.andThen ?_ HB.out) | (exact HB.out.size) | (refine below_drewN ?_ _) | (refine Below.drew ?_) | (refine Below.alloc ?_ ?_ _) | (refine Below.setCell ?_ ?_ _) | (simp; done) | (simp; omega) | omega)
    replace F1 := has3 F1 hW
    have F5 : Has3 w12 (w11.heap.size) (.int .i64 ld) (.int .i64 hd) (.int .i64 ud) := has3 ⟨(by first | (simp; done) | (simp; omega)), by go_simp, by go_simp, by go_simp⟩ hb
    replace BB := Lib.hid (Below.andThen BB.out hW)
    replace HT := Lib.hid (HT.out.next hW)
    clear hb hW HB
    go_wp2_with fail
    refine (HW.out _ (HT.out.next (by (repeat' first | exact Below.refl _ _ | assumption | (refine below_drewN ?_ _) | (refine Below.drew ?_) | (refine Below.alloc ?_ ?_ _) | (refine Below.setCell ?_ ?_ _) | (simp; done) | (simp; omega) | omega)))).mono ?_
    rintro e w13 ⟨rfl, hb⟩
    have HB := Lib.hid hb
    have hW : Below w12.heap.size w12 w13 := by (repeat' first | exact Below.refl _ _ | assumption | (refine Below.andThen ?_ HB.out) | (exact HB.out.size) | (refine below_drewN ?_ _) | (refine Below.drew ?_) | (refine Below.alloc ?_ ?_ _) | (refine Below.setCell ?_ ?_ _) | (simp; done) | (simp; omega) | omega)
    replace F1 := has3 F1 hW
    replace F5 := has3 F5 hW
    have F6 : Has3 w13 (w12.heap.size) (.int .i64 lg) (.int .i64 hg) (.int .i64 ug) := has3 ⟨(by first | (simp; done) | (simp; omega)), by go_simp, by go_simp, by go_simp⟩ hb
    replace BB := Lib.hid (Below.andThen BB.out hW)
    replace HT := Lib.hid (HT.out.next hW)
    clear hb hW HB
    rcases HK.out with ⟨rfl, hbig⟩ | ⟨rfl, hW1⟩
    · go_wp2
      go_ret
      exact ⟨rfl, by (repeat' first | exact Below.refl _ _ | assumption | (refine Below.andThen ?_ BB.out) | (exact BB.out.size) | (refine below_drewN ?_ _) | (refine Below.drew ?_) | (refine Below.alloc ?_ ?_ _) | (refine Below.setCell ?_ ?_ _) | (simp; done) | (simp; omega) | omega)⟩
    · have HW1 := Lib.hid hW1
      clear hW1
      go_wp2_with fail
      refine (HW1.out _ (HT.out.next (by (repeat' first | exact Below.refl _ _ | assumption | (refine below_drewN ?_ _) | (refine Below.drew ?_) | (refine Below.alloc ?_ ?_ _) | (refine Below.setCell ?_ ?_ _) | (simp; done) | (simp; omega) | omega)))).mono ?_
      rintro e w14 ⟨rfl, hb⟩
      have HB := Lib.hid hb
      have hW : Below w13.heap.size w13 w14 := by (repeat' first | exact Below.refl _ _ | assumption | (refine Below.andThen ?_ HB.out) | (exact HB.out.size) | (refine below_drewN ?_ _) | (refine Below.drew ?_) | (refine Below.alloc ?_ ?_ _) | (refine Below.setCell ?_ ?_ _) | (simp; done) | (simp; omega) | omega)
      replace BB := Lib.hid (Below.andThen BB.out hW)
      replace HT := Lib.hid (HT.out.next hW)
      clear hb hW HB
      go_wp2
      go_ret
      exact ⟨rfl, by (repeat' first | exact Below.refl _ _ | assumption | (refine Below.andThen ?_ BB.out) | (exact BB.out.size) | (refine below_drewN ?_ _) | (refine Below.drew ?_) | (refine Below.alloc ?_ ?_ _) | (refine Below.setCell ?_ ?_ _) | (simp; done) | (simp; omega) | omega)⟩
  · have HA1 := Lib.hid hA1
    have HA2 := Lib.hid hA2
    have HA3 := Lib.hid hA3
    clear hA1 hA2 hA3
    go_wp2_with fail
    refine (HA1.out _ (HT.out.next (by (repeat' first | exact Below.refl _ _ | assumption | (refine below_drewN ?_ _) | (refine Below.drew ?_) | (refine Below.alloc ?_ ?_ _) | (refine Below.setCell ?_ ?_ _) | (simp; done) | (simp; omega) | omega)))).mono ?_
    rintro e w9 ⟨rfl, hb⟩
    have HB := Lib.hid hb
    have hW : Below w8.heap.size w8 w9 := by (repeat' first | exact Below.refl _ _ | assumption | (refine Below.andThen ?_ HB.out) | (exact HB.out.size) | (refine below_drewN ?_ _) | (refine Below.drew ?_) | (refine Below.alloc ?_ ?_ _) | (refine Below.setCell ?_ ?_ _) | (simp; done) | (simp; omega) | omega)
    replace F1 := has3 F1 hW
    replace F2 := has3 F2 hW
    have F3 : Has3 w9 (w8.heap.size) (.int .i64 lc) (.int .i64 hc) (.int .i64 uc) := has3 ⟨(by first | (simp; done) | (simp; omega)), by go_simp, by go_simp, by go_simp⟩ hb
    replace BB := Lib.hid (Below.andThen BB.out hW)
    replace HT := Lib.hid (HT.out.next hW)
    clear hb hW HB
    go_wp2_with fail
    refine (HA2.out _ (HT.out.next (by (repeat' first | exact Below.refl _ _ | assumption | (refine below_drewN ?_ _) | (refine Below.drew ?_) | (refine Below.alloc ?_ ?_ _) | (refine Below.setCell ?_ ?_ _) | (simp; done) | (simp; omega) | omega)))).mono ?_
    rintro e w10 ⟨rfl, hb⟩
    have HB := Lib.hid hb
    have hW : Below w9.heap.size w9 w10 := by (repeat' first | exact Below.refl _ _ | assumption | (refine Below.andThen ?_ HB.out) | (exact HB.out.size) | (refine below_drewN ?_ _) | (refine Below.drew ?_) | (refine Below.alloc ?_ ?_ _) | (refine Below.setCell ?_ ?_ _) | (simp; done) | (simp; omega) | omega)
    replace F1 := has3 F1 hW
    replace F2 := has3 F2 hW
    replace BB := Lib.hid (Below.andThen BB.out hW)
    replace HT := Lib.hid (HT.out.next hW)
    clear hb hW HB
    go_wp2_with fail
    refine (HA3.out _ HT.out).mono ?_
    rintro e w11 ⟨rfl, hb⟩
    have HB := Lib.hid hb
    have hW : Below w10.heap.size w10 w11 := by (repeat' first | exact Below.refl _ _ | assumption | (refine Below.andThen ?_ HB.out) | (exact HB.out.size) | (refine below_drewN ?_ _) | (refine Below.drew ?_) | (refine Below.alloc ?_ ?_ _) | (refine Below.setCell ?_ ?_ _) | (simp; done) | (simp; omega) | omega)
    replace F1 := has3 F1 hW
    replace BB := Lib.hid (Below.andThen BB.out hW)
    replace HT := Lib.hid (HT.out.next hW)
    clear hb hW HB
    go_wp2_with fail
    refine (same_below (HQ.out _)).mono ?_
    rintro e w12 ⟨rfl, hb⟩
    have HB := Lib.hid hb
    have hW : Below w11.heap.size w11 w12 := by (repeat' first | exact Below.refl _ _ | assumption | (refine Below.andThen ?_ HB.out) | (exact HB.out.size) | (refine below_drewN ?_ _) | (refine Below.drew ?_) | (refine Below.alloc ?_ ?_ _) | (refine Below.setCell ?_ ?_ _) | (simp; done) | (simp; omega) | omega)
    replace F1 := has3 F1 hW
    replace BB := Lib.hid (Below.andThen BB.out hW)
    replace HT := Lib.hid (HT.out.next hW)
    clear hb hW HB
    go_wp2_with fail
    refine (same_below (HP.out _)).mono ?_
    rintro e w13 ⟨rfl, hb⟩
    have HB := Lib.hid hb
    have hW : Below w12.heap.size w12 w13 := by (repeat' first | exact Below.refl _ _ | assumption | (refine Below.andThen ?_ HB.out) | (exact HB.out.size) | (refine below_drewN ?_ _) | (refine Below.drew ?_) | (refine Below.alloc ?_ ?_ _) | (refine Below.setCell ?_ ?_ _) | (simp; done) | (simp; omega) | omega)
    replace F1 := has3 F1 hW
    replace BB := Lib.hid (Below.andThen BB.out hW)
    replace HT := Lib.hid (HT.out.next hW)
    clear hb hW HB
    go_wp2_with fail
    refine (HD.out _ HT.out).mono ?_
    rintro e w14 ⟨rfl, hb⟩
    have HB := Lib.hid hb
    have hW : Below w13.heap.size w13 w14 := by (repeat' first | exact Below.refl _ _ | assumption | (refine Below.andThen ?_ HB.out) | (exact HB.out.size) | (refine below_drewN ?_ _) | (refine Below.drew ?_) | (refine Below.alloc ?_ ?_ _) | (refine Below.setCell ?_ ?_ _) | (simp; done) | (simp; omega) | omega)
    replace F1 := has3 F1 hW
    replace BB := Lib.hid (Below.andThen BB.out hW)
    replace HT := Lib.hid (HT.out.next hW)
    clear hb hW HB
    go_wp2_with fail
    refine (HG.out _ (HT.out.next (by (repeat' first | exact Below.refl _ _ | assumption | (refine below_drewN ?_ _) | (refine Below.drew ?_) | (refine Below.alloc ?_ ?_ _) | (refine Below.setCell ?_ ?_ _) | (simp; done) | (simp; omega) | omega)))).mono ?_
    rintro e w15 ⟨rfl, hb⟩
    have HB := Lib.hid hb
    have hW : Below w14.heap.size w14 w15 := by (repeat' first | exact Below.refl _ _ | assumption | (refine Below.andThen ?_ HB.out) | (exact HB.out.size) | (refine below_drewN ?_ _) | (refine Below.drew ?_) | (refine Below.alloc ?_ ?_ _) | (refine Below.setCell ?_ ?_ _) | (simp; done) | (simp; omega) | omega)
    replace F1 := has3 F1 hW
    have F5 : Has3 w15 (w14.heap.size) (.int .i64 ld) (.int .i64 hd) (.int .i64 ud) := has3 ⟨(by first | (simp; done) | (simp; omega)), by go_simp, by go_simp, by go_simp⟩ hb
    replace BB := Lib.hid (Below.andThen BB.out hW)
    replace HT := Lib.hid (HT.out.next hW)
    clear hb hW HB
    go_wp2_with fail
    refine (HW.out _ (HT.out.next (by (repeat' first | exact Below.refl _ _ | assumption | (refine below_drewN ?_ _) | (refine Below.drew ?_) | (refine Below.alloc ?_ ?_ _) | (refine Below.setCell ?_ ?_ _) | (simp; done) | (simp; omega) | omega)))).mono ?_
    rintro e w16 ⟨rfl, hb⟩
    have HB := Lib.hid hb
    have hW : Below w15.heap.size w15 w16 := by (repeat' first | exact Below.refl _ _ | assumption | (refine Below.andThen ?_ HB.out) | (exact HB.out.size) | (refine below_drewN ?_ _) | (refine Below.drew ?_) | (refine Below.alloc ?_ ?_ _) | (refine Below.setCell ?_ ?_ _) | (simp; done) | (simp; omega) | omega)
    replace F1 := has3 F1 hW
    replace F5 := has3 F5 hW
    have F6 : Has3 w16 (w15.heap.size) (.int .i64 lg) (.int .i64 hg) (.int .i64 ug) := has3 ⟨(by first | (simp; done) | (simp; omega)), by go_simp, by go_simp, by go_simp⟩ hb
    replace BB := Lib.hid (Below.andThen BB.out hW)
    replace HT := Lib.hid (HT.out.next hW)
    clear hb hW HB
    rcases HK.out with ⟨rfl, hbig⟩ | ⟨rfl, hW1⟩
    · go_wp2
      go_ret
      exact ⟨rfl, by (repeat' first | exact Below.refl _ _ | assumption | (refine Below.andThen ?_ BB.out) | (exact BB.out.size) | (refine below_drewN ?_ _) | (refine Below.drew ?_) | (refine Below.alloc ?_ ?_ _) | (refine Below.setCell ?_ ?_ _) | (simp; done) | (simp; omega) | omega)⟩
    · have HW1 := Lib.hid hW1
      clear hW1
      go_wp2_with fail
      refine (HW1.out _ (HT.out.next (by (repeat' first | exact Below.refl _ _ | assumption | (refine below_drewN ?_ _) | (refine Below.drew ?_) | (refine Below.alloc ?_ ?_ _) | (refine Below.setCell ?_ ?_ _) | (simp; done) | (simp; omega) | omega)))).mono ?_
      rintro e w17 ⟨rfl, hb⟩
      have HB := Lib.hid hb
      have hW : Below w16.heap.size w16 w17 := by (repeat' first | exact Below.refl _ _ | assumption | (refine Below.andThen ?_ HB.out) | (exact HB.out.size) | (refine below_drewN ?_ _) | (refine Below.drew ?_) | (refine Below.alloc ?_ ?_ _) | (refine Below.setCell ?_ ?_ _) | (simp; done) | (simp; omega) | omega)
      replace BB := Lib.hid (Below.andThen BB.out hW)
      replace HT := Lib.hid (HT.out.next hW)
      clear hb hW HB
      go_wp2
      go_ret
      exact ⟨rfl, by (repeat' first | exact Below.refl _ _ | assumption | (refine Below.andThen ?_ BB.out) | (exact BB.out.size) | (refine below_drewN ?_ _) | (refine Below.drew ?_) | (refine Below.alloc ?_ ?_ _) | (refine Below.setCell ?_ ?_ _) | (simp; done) | (simp; omega) | omega)⟩

set_option maxRecDepth 100000 in
set_option maxHeartbeats 4000000 in
theorem coarser_gt (x0 x1 x2 o1 o2 nn dd lo hi u s t q0 p0 lb hb' ub eb lc hc uc ec ld hd ud lg hg ug lw hw uw ew : Int) (w : World) (T : Tab w) (_hst : s < t)
    (hM : ∀ w, Calls Tryd.prog 16 #[.agg #[.int .i64 x0, .int .i64 x1, .int .i64 x2]] w fun r w' => r = .returned (.agg #[.int .i64 lo, .int .i64 hi, .int .i64 u]) ∧ Below w.heap.size w w')
    (hS1 : ∀ w, Calls Tryd.prog 31 #[.int .i64 o1] w fun r w' => r = .returned (.int .i64 t) ∧ Below w.heap.size w w')
    (hS2 : ∀ w, Calls Tryd.prog 31 #[.int .i64 o2] w fun r w' => r = .returned (.int .i64 s) ∧ Below w.heap.size w w')
    (hB : ∀ w, Tab w → Calls Tryd.prog 32 #[.agg #[.int .i64 lo, .int .i64 hi, .int .i64 u], .int .i64 s] w fun r w' => r = .returned (.tuple #[.agg #[.int .i64 lb, .int .i64 hb', .int .i64 ub], .int .i64 eb]) ∧ Below w.heap.size w w')
    (hC : ∀ w, Tab w → Calls Tryd.prog 32 #[.agg #[.int .i64 lo, .int .i64 hi, .int .i64 u], .int .i64 t] w fun r w' => r = .returned (.tuple #[.agg #[.int .i64 lc, .int .i64 hc, .int .i64 uc], .int .i64 ec]) ∧ Below w.heap.size w w')
    (hA : ec = 50 ∨ (ec = 0 ∧ eb = 0 ∧ (∀ w, Tab w → Calls Tryd.prog 32 #[.agg #[.int .i64 lc, .int .i64 hc, .int .i64 uc], .int .i64 t] w fun r w' => r = .returned (.tuple #[.agg #[.int .i64 lc, .int .i64 hc, .int .i64 uc], .int .i64 0]) ∧ Below w.heap.size w w') ∧
      (∀ w, Tab w → Calls Tryd.prog 21 #[.agg #[.int .i64 lc, .int .i64 hc, .int .i64 uc], .agg #[.int .i64 lb, .int .i64 hb', .int .i64 ub]] w fun r w' => r = .returned (.bool true) ∧ Below w.heap.size w w') ∧
      (∀ w, Tab w → Calls Tryd.prog 21 #[.agg #[.int .i64 lb, .int .i64 hb', .int .i64 ub], .agg #[.int .i64 lo, .int .i64 hi, .int .i64 u]] w fun r w' => r = .returned (.bool true) ∧ Below w.heap.size w w')))
    (hQ : ∀ w, Calls Tryd.prog 24 #[.int .i64 dd, .int .i64 1000] w fun r w' => r = .returned (.int .i64 q0) ∧ w = w') (q1 : 0 ≤ q0) (q2 : q0 ≤ 999)
    (hP : ∀ w, Calls Tryd.prog 24 #[.int .i64 nn, .int .i64 (1 + q0 + 1)] w fun r w' => r = .returned (.int .i64 p0) ∧ w = w') (p1 : 0 ≤ p0) (p2 : p0 ≤ 1 + q0)
    (hD : ∀ w, Tab w → Calls Tryd.prog 34 #[.agg #[.int .i64 lo, .int .i64 hi, .int .i64 u], .int .i64 p0, .int .i64 (1 + q0)] w fun r w' => r = .returned (.tuple #[.agg #[.int .i64 ld, .int .i64 hd, .int .i64 ud], .int .i64 0]) ∧ Below w.heap.size w w')
    (hG : ∀ w, Tab w → Calls Tryd.prog 34 #[.agg #[.int .i64 lo, .int .i64 hi, .int .i64 u], .int .i64 (1 + q0 - p0), .int .i64 (1 + q0)] w fun r w' => r = .returned (.tuple #[.agg #[.int .i64 lg, .int .i64 hg, .int .i64 ug], .int .i64 0]) ∧ Below w.heap.size w w')
    (d1 : 0 ≤ hd) (d2 : hd ≤ 999999) (g1 : 0 ≤ hg) (g2 : hg ≤ 999999)
    (hW : ∀ w, Tab w → Calls Tryd.prog 17 #[.agg #[.int .i64 ld, .int .i64 hd, .int .i64 ud], .agg #[.int .i64 lg, .int .i64 hg, .int .i64 ug]] w fun r w' => r = .returned (.tuple #[.agg #[.int .i64 lw, .int .i64 hw, .int .i64 uw], .int .i64 ew]) ∧ Below w.heap.size w w')
    (hK : (ew = 50 ∧ 999999 < hd + hg) ∨ (ew = 0 ∧ (∀ w, Tab w → Calls Tryd.prog 21 #[.agg #[.int .i64 lw, .int .i64 hw, .int .i64 uw], .agg #[.int .i64 lo, .int .i64 hi, .int .i64 u]] w fun r w' => r = .returned (.bool true) ∧ Below w.heap.size w w'))) :
    Calls Tryd.prog 8 #[.agg #[.int .i64 x0, .int .i64 x1, .int .i64 x2], .int .i64 o1, .int .i64 o2, .int .i64 nn, .int .i64 dd] w fun r w' => r = .returned (.bool true) ∧ Below w.heap.size w w' := by
  have HM := Lib.hid hM
  have HS1 := Lib.hid hS1
  have HS2 := Lib.hid hS2
  have HB1 := Lib.hid hB
  have HC1 := Lib.hid hC
  have HQ := Lib.hid hQ
  have HP := Lib.hid hP
  have HD := Lib.hid hD
  have HG := Lib.hid hG
  have HW := Lib.hid hW
  have HK := Lib.hid hK
  have HA := Lib.hid hA
  have HT := Lib.hid T
  have BB := Lib.hid (Below.refl w.heap.size w)
  clear hM hS1 hS2 hB hC hQ hP hD hG hW hK hA T
  go_enter Tryd.func8, Tryd.ntmps8
  go_wp2_with fail
  refine (sane_any _ (HT.out.next (by (repeat' first | exact Below.refl _ _ | assumption | (refine below_drewN ?_ _) | (refine Below.drew ?_) | (refine Below.alloc ?_ ?_ _) | (refine Below.setCell ?_ ?_ _) | (simp; done) | (simp; omega) | omega)))).mono ?_
  rintro e w1 ⟨rfl, hb⟩
  have HB := Lib.hid hb
  have hW : Below w.heap.size w w1 := by (repeat' first | exact Below.refl _ _ | assumption | (refine Below.andThen ?_ HB.out) | (exact HB.out.size) | (refine below_drewN ?_ _) | (refine Below.drew ?_) | (refine Below.alloc ?_ ?_ _) | (refine Below.setCell ?_ ?_ _) | (simp; done) | (simp; omega) | omega)
  have F0 : Has3 w1 (w.heap.size) (.int .i64 x0) (.int .i64 x1) (.int .i64 x2) := has3 ⟨(by first | (simp; done) | (simp; omega)), by go_simp, by go_simp, by go_simp⟩ hb
  replace BB := Lib.hid (Below.andThen BB.out hW)
  replace HT := Lib.hid (HT.out.next hW)
  clear hb hW HB
  go_wp2_with fail
  refine (HM.out _).mono ?_
  rintro e w2 ⟨rfl, hb⟩
  have HB := Lib.hid hb
  have hW : Below w1.heap.size w1 w2 := by (repeat' first | exact Below.refl _ _ | assumption | (refine Below.andThen ?_ HB.out) | (exact HB.out.size) | (refine below_drewN ?_ _) | (refine Below.drew ?_) | (refine Below.alloc ?_ ?_ _) | (refine Below.setCell ?_ ?_ _) | (simp; done) | (simp; omega) | omega)
  replace BB := Lib.hid (Below.andThen BB.out hW)
  replace HT := Lib.hid (HT.out.next hW)
  clear hb hW HB
  go_wp2_with fail
  refine (HS1.out _).mono ?_
  rintro e w3 ⟨rfl, hb⟩
  have HB := Lib.hid hb
  have hW : Below w2.heap.size w2 w3 := by (repeat' first | exact Below.refl _ _ | assumption | (refine Below.andThen ?_ HB.out) | (exact HB.out.size) | (refine below_drewN ?_ _) | (refine Below.drew ?_) | (refine Below.alloc ?_ ?_ _) | (refine Below.setCell ?_ ?_ _) | (simp; done) | (simp; omega) | omega)
  have F1 : Has3 w3 (w2.heap.size) (.int .i64 lo) (.int .i64 hi) (.int .i64 u) := has3 ⟨(by first | (simp; done) | (simp; omega)), by go_simp, by go_simp, by go_simp⟩ hb
  replace BB := Lib.hid (Below.andThen BB.out hW)
  replace HT := Lib.hid (HT.out.next hW)
  clear hb hW HB
  go_wp2_with fail
  refine (HS2.out _).mono ?_
  rintro e w4 ⟨rfl, hb⟩
  have HB := Lib.hid hb
  have hW : Below w3.heap.size w3 w4 := by (repeat' first | exact Below.refl _ _ | assumption | (refine Below.andThen ?_ HB.out) | (exact HB.out.size) | (refine below_drewN ?_ _) | (refine Below.drew ?_) | (refine Below.alloc ?_ ?_ _) | (refine Below.setCell ?_ ?_ _) | (simp; done) | (simp; omega) | omega)
  replace F1 := has3 F1 hW
  replace BB := Lib.hid (Below.andThen BB.out hW)
  replace HT := Lib.hid (HT.out.next hW)
  clear hb hW HB
  go_wp2_with fail
  refine (HS1.out _).mono ?_
  rintro e w5 ⟨rfl, hb⟩
  have HB := Lib.hid hb
  have hW : Below w4.heap.size w4 w5 := by (repeat' first | exact Below.refl _ _ | assumption | (refine Below.andThen ?_ HB.out) | (exact HB.out.size) | (refine below_drewN ?_ _) | (refine Below.drew ?_) | (refine Below.alloc ?_ ?_ _) | (refine Below.setCell ?_ ?_ _) | (simp; done) | (simp; omega) | omega)
  replace F1 := has3 F1 hW
  replace BB := Lib.hid (Below.andThen BB.out hW)
  replace HT := Lib.hid (HT.out.next hW)
  clear hb hW HB
  go_wp2_with fail
  refine (HS2.out _).mono ?_
  rintro e w6 ⟨rfl, hb⟩
  have HB := Lib.hid hb
  have hW : Below w5.heap.size w5 w6 := by (repeat' first | exact Below.refl _ _ | assumption | (refine Below.andThen ?_ HB.out) | (exact HB.out.size) | (refine below_drewN ?_ _) | (refine Below.drew ?_) | (refine Below.alloc ?_ ?_ _) | (refine Below.setCell ?_ ?_ _) | (simp; done) | (simp; omega) | omega)
  replace F1 := has3 F1 hW
  replace BB := Lib.hid (Below.andThen BB.out hW)
  replace HT := Lib.hid (HT.out.next hW)
  clear hb hW HB
  go_wp2_with fail
  refine (HB1.out _ HT.out).mono ?_
  rintro e w7 ⟨rfl, hb⟩
  have HB := Lib.hid hb
  have hW : Below w6.heap.size w6 w7 := by (repeat' first | exact Below.refl _ _ | assumption | (refine Below.andThen ?_ HB.out) | (exact HB.out.size) | (refine below_drewN ?_ _) | (refine Below.drew ?_) | (refine Below.alloc ?_ ?_ _) | (refine Below.setCell ?_ ?_ _) | (simp; done) | (simp; omega) | omega)
  replace F1 := has3 F1 hW
  replace BB := Lib.hid (Below.andThen BB.out hW)
  replace HT := Lib.hid (HT.out.next hW)
  clear hb hW HB
  go_wp2_with fail
  refine (HC1.out _ (HT.out.next (by (repeat' first | exact Below.refl _ _ | assumption | (refine below_drewN ?_ _) | (refine Below.drew ?_) | (refine Below.alloc ?_ ?_ _) | (refine Below.setCell ?_ ?_ _) | (simp; done) | (simp; omega) | omega)))).mono ?_
  rintro e w8 ⟨rfl, hb⟩
  have HB := Lib.hid hb
  have hW : Below w7.heap.size w7 w8 := by (repeat' first | exact Below.refl _ _ | assumption | (refine Below.andThen ?_ HB.out) | (exact HB.out.size) | (refine below_drewN ?_ _) | (refine Below.drew ?_) | (refine Below.alloc ?_ ?_ _) | (refine Below.setCell ?_ ?_ _) | (simp; done) | (simp; omega) | omega)
  replace F1 := has3 F1 hW
  have F2 : Has3 w8 (w7.heap.size) (.int .i64 lb) (.int .i64 hb') (.int .i64 ub) := has3 ⟨(by first | (simp; done) | (simp; omega)), by go_simp, by go_simp, by go_simp⟩ hb
  replace BB := Lib.hid (Below.andThen BB.out hW)
  replace HT := Lib.hid (HT.out.next hW)
  clear hb hW HB
  rcases HA.out with rfl | ⟨rfl, rfl, hA1, hA2, hA3⟩
  · go_wp2_with fail
    refine (same_below (HQ.out _)).mono ?_
    rintro e w9 ⟨rfl, hb⟩
    have HB := Lib.hid hb
    have hW : Below w8.heap.size w8 w9 := by (repeat' first | exact Below.refl _ _ | assumption | (refine Below.andThen ?_ HB.out) | (exact HB.out.size) | (refine below_drewN ?_ _) | (refine Below.drew ?_) | (refine Below.alloc ?_ ?_ _) | (refine Below.setCell ?_ ?_ _) | (simp; done) | (simp; omega) | omega)
    replace F1 := has3 F1 hW
    replace BB := Lib.hid (Below.andThen BB.out hW)
    replace HT := Lib.hid (HT.out.next hW)
    clear hb hW HB
    go_wp2_with fail
    refine (same_below (HP.out _)).mono ?_
    rintro e w10 ⟨rfl, hb⟩
    have HB := Lib.hid hb
    have hW : Below w9.heap.size w9 w10 := by (repeat' first | exact Below.refl _ _ | assumption | (refine Below.andThen ?_ HB.out) | (exact HB.out.size) | (refine below_drewN ?_ _) | (refine Below.drew ?_) | (refine Below.alloc ?_ ?_ _) | (refine Below.setCell ?_ ?_ _) | (simp; done) | (simp; omega) | omega)
    replace F1 := has3 F1 hW
    replace BB := Lib.hid (Below.andThen BB.out hW)
    replace HT := Lib.hid (HT.out.next hW)
    clear hb hW HB
    go_wp2_with fail
    refine (HD.out _ HT.out).mono ?_
    rintro e w11 ⟨rfl, hb⟩
    have HB := Lib.hid hb
    have hW : Below w10.heap.size w10 w11 := by (repeat' first | exact Below.refl _ _ | assumption | (refine Below.andThen ?_ HB.out) | (exact HB.out.size) | (refine below_drewN ?_ _) | (refine Below.drew ?_) | (refine Below.alloc ?_ ?_ _) | (refine Below.setCell ?_ ?_ _) | (simp; done) | (simp; omega) | omega)
    replace F1 := has3 F1 hW
    replace BB := Lib.hid (Below.andThen BB.out hW)
    replace HT := Lib.hid (HT.out.next hW)
    clear hb hW HB
    go_wp2_with fail
    refine (HG.out _ (HT.out.next (by (repeat' first | exact Below.refl _ _ | assumption | (refine below_drewN ?_ _) | (refine Below.drew ?_) | (refine Below.alloc ?_ ?_ _) | (refine Below.setCell ?_ ?_ _) | (simp; done) | (simp; omega) | omega)))).mono ?_
    rintro e w12 ⟨rfl, hb⟩
    have HB := Lib.hid hb
    have hW : Below w11.heap.size w11 w12 := by (repeat' first | exact Below.refl _ _ | assumption | (refine Below.andThen ?_ HB.out) | (exact HB.out.size) | (refine below_drewN ?_ _) | (refine Below.drew ?_) | (refine Below.alloc ?_ ?_ _) | (refine Below.setCell ?_ ?_ _) | (simp; done) | (simp; omega) | omega)
    replace F1 := has3 F1 hW
    have F5 : Has3 w12 (w11.heap.size) (.int .i64 ld) (.int .i64 hd) (.int .i64 ud) := has3 ⟨(by first | (simp; done) | (simp; omega)), by go_simp, by go_simp, by go_simp⟩ hb
    replace BB := Lib.hid (Below.andThen BB.out hW)
    replace HT := Lib.hid (HT.out.next hW)
    clear hb hW HB
    go_wp2_with fail
    refine (HW.out _ (HT.out.next (by (repeat' first | exact Below.refl _ _ | assumption | (refine below_drewN ?_ _) | (refine Below.drew ?_) | (refine Below.alloc ?_ ?_ _) | (refine Below.setCell ?_ ?_ _) | (simp; done) | (simp; omega) | omega)))).mono ?_
    rintro e w13 ⟨rfl, hb⟩
    have HB := Lib.hid hb
    have hW : Below w12.heap.size w12 w13 := by (repeat' first | exact Below.refl _ _ | assumption | (refine Below.andThen ?_ HB.out) | (exact HB.out.size) | (refine below_drewN ?_ _) | (refine Below.drew ?_) | (refine Below.alloc ?_ ?_ _) | (refine Below.setCell ?_ ?_ _) | (simp; done) | (simp; omega) | omega)
    replace F1 := has3 F1 hW
    replace F5 := has3 F5 hW
    have F6 : Has3 w13 (w12.heap.size) (.int .i64 lg) (.int .i64 hg) (.int .i64 ug) := has3 ⟨(by first | (simp; done) | (simp; omega)), by go_simp, by go_simp, by go_simp⟩ hb
    replace BB := Lib.hid (Below.andThen BB.out hW)
    replace HT := Lib.hid (HT.out.next hW)
    clear hb hW HB
    rcases HK.out with ⟨rfl, hbig⟩ | ⟨rfl, hW1⟩
    · go_wp2
      go_ret
      exact ⟨rfl, by (repeat' first | exact Below.refl _ _ | assumption | (refine Below.andThen ?_ BB.out) | (exact BB.out.size) | (refine below_drewN ?_ _) | (refine Below.drew ?_) | (refine Below.alloc ?_ ?_ _) | (refine Below.setCell ?_ ?_ _) | (simp; done) | (simp; omega) | omega)⟩
    · have HW1 := Lib.hid hW1
      clear hW1
      go_wp2_with fail
      refine (HW1.out _ (HT.out.next (by (repeat' first | exact Below.refl _ _ | assumption | (refine below_drewN ?_ _) | (refine Below.drew ?_) | (refine Below.alloc ?_ ?_ _) | (refine Below.setCell ?_ ?_ _) | (simp; done) | (simp; omega) | omega)))).mono ?_
      rintro e w14 ⟨rfl, hb⟩
      have HB := Lib.hid hb
      have hW : Below w13.heap.size w13 w14 := by (repeat' first | exact Below.refl _ _ | assumption | (refine Below.andThen ?_ HB.out) | (exact HB.out.size) | (refine below_drewN ?_ _) | (refine Below.drew ?_) | (refine Below.alloc ?_ ?_ _) | (refine Below.setCell ?_ ?_ _) | (simp; done) | (simp; omega) | omega)
      replace BB := Lib.hid (Below.andThen BB.out hW)
      replace HT := Lib.hid (HT.out.next hW)
      clear hb hW HB
      go_wp2
      go_ret
      exact ⟨rfl, by (repeat' first | exact Below.refl _ _ | assumption | (refine Below.andThen ?_ BB.out) | (exact BB.out.size) | (refine below_drewN ?_ _) | (refine Below.drew ?_) | (refine Below.alloc ?_ ?_ _) | (refine Below.setCell ?_ ?_ _) | (simp; done) | (simp; omega) | omega)⟩
  · have HA1 := Lib.hid hA1
    have HA2 := Lib.hid hA2
    have HA3 := Lib.hid hA3
    clear hA1 hA2 hA3
    go_wp2_with fail
    refine (HA1.out _ (HT.out.next (by (repeat' first | exact Below.refl _ _ | assumption | (refine below_drewN ?_ _) | (refine Below.drew ?_) | (refine Below.alloc ?_ ?_ _) | (refine Below.setCell ?_ ?_ _) | (simp; done) | (simp; omega) | omega)))).mono ?_
    rintro e w9 ⟨rfl, hb⟩
    have HB := Lib.hid hb
    have hW : Below w8.heap.size w8 w9 := by (repeat' first | exact Below.refl _ _ | assumption | (refine Below.andThen ?_ HB.out) | (exact HB.out.size) | (refine below_drewN ?_ _) | (refine Below.drew ?_) | (refine Below.alloc ?_ ?_ _) | (refine Below.setCell ?_ ?_ _) | (simp; done) | (simp; omega) | omega)
    replace F1 := has3 F1 hW
    replace F2 := has3 F2 hW
    have F3 : Has3 w9 (w8.heap.size) (.int .i64 lc) (.int .i64 hc) (.int .i64 uc) := has3 ⟨(by first | (simp; done) | (simp; omega)), by go_simp, by go_simp, by go_simp⟩ hb
    replace BB := Lib.hid (Below.andThen BB.out hW)
    replace HT := Lib.hid (HT.out.next hW)
    clear hb hW HB
    go_wp2_with fail
    refine (HA2.out _ (HT.out.next (by (repeat' first | exact Below.refl _ _ | assumption | (refine below_drewN ?_ _) | (refine Below.drew ?_) | (refine Below.alloc ?_ ?_ _) | (refine Below.setCell ?_ ?_ _) | (simp; done) | (simp; omega) | omega)))).mono ?_
    rintro e w10 ⟨rfl, hb⟩
    have HB := Lib.hid hb
    have hW : Below w9.heap.size w9 w10 := by (repeat' first | exact Below.refl _ _ | assumption | (refine Below.andThen ?_ HB.out) | (exact HB.out.size) | (refine below_drewN ?_ _) | (refine Below.drew ?_) | (refine Below.alloc ?_ ?_ _) | (refine Below.setCell ?_ ?_ _) | (simp; done) | (simp; omega) | omega)
    replace F1 := has3 F1 hW
    replace F2 := has3 F2 hW
    replace BB := Lib.hid (Below.andThen BB.out hW)
    replace HT := Lib.hid (HT.out.next hW)
    clear hb hW HB
    go_wp2_with fail
    refine (HA3.out _ HT.out).mono ?_
    rintro e w11 ⟨rfl, hb⟩
    have HB := Lib.hid hb
    have hW : Below w10.heap.size w10 w11 := by (repeat' first | exact Below.refl _ _ | assumption | (refine Below.andThen ?_ HB.out) | (exact HB.out.size) | (refine below_drewN ?_ _) | (refine Below.drew ?_) | (refine Below.alloc ?_ ?_ _) | (refine Below.setCell ?_ ?_ _) | (simp; done) | (simp; omega) | omega)
    replace F1 := has3 F1 hW
    replace BB := Lib.hid (Below.andThen BB.out hW)
    replace HT := Lib.hid (HT.out.next hW)
    clear hb hW HB
    go_wp2_with fail
    refine (same_below (HQ.out _)).mono ?_
    rintro e w12 ⟨rfl, hb⟩
    have HB := Lib.hid hb
    have hW : Below w11.heap.size w11 w12 := by (repeat' first | exact Below.refl _ _ | assumption | (refine Below.andThen ?_ HB.out) | (exact HB.out.size) | (refine below_drewN ?_ _) | (refine Below.drew ?_) | (refine Below.alloc ?_ ?_ _) | (refine Below.setCell ?_ ?_ _) | (simp; done) | (simp; omega) | omega)
    replace F1 := has3 F1 hW
    replace BB := Lib.hid (Below.andThen BB.out hW)
    replace HT := Lib.hid (HT.out.next hW)
    clear hb hW HB
    go_wp2_with fail
    refine (same_below (HP.out _)).mono ?_
    rintro e w13 ⟨rfl, hb⟩
    have HB := Lib.hid hb
    have hW : Below w12.heap.size w12 w13 := by (repeat' first | exact Below.refl _ _ | assumption | (refine Below.andThen ?_ HB.out) | (exact HB.out.size) | (refine below_drewN ?_ _) | (refine Below.drew ?_) | (refine Below.alloc ?_ ?_ _) | (refine Below.setCell ?_ ?_ _) | (simp; done) | (simp; omega) | omega)
    replace F1 := has3 F1 hW
    replace BB := Lib.hid (Below.andThen BB.out hW)
    replace HT := Lib.hid (HT.out.next hW)
    clear hb hW HB
    go_wp2_with fail
    refine (HD.out _ HT.out).mono ?_
    rintro e w14 ⟨rfl, hb⟩
    have HB := Lib.hid hb
    have hW : Below w13.heap.size w13 w14 := by (repeat' first | exact Below.refl _ _ | assumption | (refine Below.andThen ?_ HB.out) | (exact HB.out.size) | (refine below_drewN ?_ _) | (refine Below.drew ?_) | (refine Below.alloc ?_ ?_ _) | (refine Below.setCell ?_ ?_ _) | (simp; done) | (simp; omega) | omega)
    replace F1 := has3 F1 hW
    replace BB := Lib.hid (Below.andThen BB.out hW)
    replace HT := Lib.hid (HT.out.next hW)
    clear hb hW HB
    go_wp2_with fail
    refine (HG.out _ (HT.out.next (by (repeat' first | exact Below.refl _ _ | assumption | (refine below_drewN ?_ _) | (refine Below.drew ?_) | (refine Below.alloc ?_ ?_ _) | (refine Below.setCell ?_ ?_ _) | (simp; done) | (simp; omega) | omega)))).mono ?_
    rintro e w15 ⟨rfl, hb⟩
    have HB := Lib.hid hb
    have hW : Below w14.heap.size w14 w15 := by (repeat' first | exact Below.refl _ _ | assumption | (refine Below.andThen ?_ HB.out) | (exact HB.out.size) | (refine below_drewN ?_ _) | (refine Below.drew ?_) | (refine Below.alloc ?_ ?_ _) | (refine Below.setCell ?_ ?_ _) | (simp; done) | (simp; omega) | omega)
    replace F1 := has3 F1 hW
    have F5 : Has3 w15 (w14.heap.size) (.int .i64 ld) (.int .i64 hd) (.int .i64 ud) := has3 ⟨(by first | (simp; done) | (simp; omega)), by go_simp, by go_simp, by go_simp⟩ hb
    replace BB := Lib.hid (Below.andThen BB.out hW)
    replace HT := Lib.hid (HT.out.next hW)
    clear hb hW HB
    go_wp2_with fail
    refine (HW.out _ (HT.out.next (by (repeat' first | exact Below.refl _ _ | assumption | (refine below_drewN ?_ _) | (refine Below.drew ?_) | (refine Below.alloc ?_ ?_ _) | (refine Below.setCell ?_ ?_ _) | (simp; done) | (simp; omega) | omega)))).mono ?_
    rintro e w16 ⟨rfl, hb⟩
    have HB := Lib.hid hb
    have hW : Below w15.heap.size w15 w16 := by (repeat' first | exact Below.refl _ _ | assumption | (refine Below.andThen ?_ HB.out) | (exact HB.out.size) | (refine below_drewN ?_ _) | (refine Below.drew ?_) | (refine Below.alloc ?_ ?_ _) | (refine Below.setCell ?_ ?_ _) | (simp; done) | (simp; omega) | omega)
    replace F1 := has3 F1 hW
    replace F5 := has3 F5 hW
    have F6 : Has3 w16 (w15.heap.size) (.int .i64 lg) (.int .i64 hg) (.int .i64 ug) := has3 ⟨(by first | (simp; done) | (simp; omega)), by go_simp, by go_simp, by go_simp⟩ hb
    replace BB := Lib.hid (Below.andThen BB.out hW)
    replace HT := Lib.hid (HT.out.next hW)
    clear hb hW HB
    rcases HK.out with ⟨rfl, hbig⟩ | ⟨rfl, hW1⟩
    · go_wp2
      go_ret
      exact ⟨rfl, by (repeat' first | exact Below.refl _ _ | assumption | (refine Below.andThen ?_ BB.out) | (exact BB.out.size) | (refine below_drewN ?_ _) | (refine Below.drew ?_) | (refine Below.alloc ?_ ?_ _) | (refine Below.setCell ?_ ?_ _) | (simp; done) | (simp; omega) | omega)⟩
    · have HW1 := Lib.hid hW1
      clear hW1
      go_wp2_with fail
      refine (HW1.out _ (HT.out.next (by (repeat' first | exact Below.refl _ _ | assumption | (refine below_drewN ?_ _) | (refine Below.drew ?_) | (refine Below.alloc ?_ ?_ _) | (refine Below.setCell ?_ ?_ _) | (simp; done) | (simp; omega) | omega)))).mono ?_
      rintro e w17 ⟨rfl, hb⟩
      have HB := Lib.hid hb
      have hW : Below w16.heap.size w16 w17 := by (repeat' first | exact Below.refl _ _ | assumption | (refine Below.andThen ?_ HB.out) | (exact HB.out.size) | (refine below_drewN ?_ _) | (refine Below.drew ?_) | (refine Below.alloc ?_ ?_ _) | (refine Below.setCell ?_ ?_ _) | (simp; done) | (simp; omega) | omega)
      replace BB := Lib.hid (Below.andThen BB.out hW)
      replace HT := Lib.hid (HT.out.next hW)
      clear hb hW HB
      go_wp2
      go_ret
      exact ⟨rfl, by (repeat' first | exact Below.refl _ _ | assumption | (refine Below.andThen ?_ BB.out) | (exact BB.out.size) | (refine below_drewN ?_ _) | (refine Below.drew ?_) | (refine Below.alloc ?_ ?_ _) | (refine Below.setCell ?_ ?_ _) | (simp; done) | (simp; omega) | omega)⟩

set_option maxRecDepth 100000 in
set_option maxHeartbeats 4000000 in
theorem coarser_eq (x0 x1 x2 o1 o2 nn dd lo hi u s _t q0 p0 lb hb' ub eb lc hc uc ec ld hd ud lg hg ug lw hw uw ew : Int) (w : World) (T : Tab w) (_hst : s = s)
    (hM : ∀ w, Calls Tryd.prog 16 #[.agg #[.int .i64 x0, .int .i64 x1, .int .i64 x2]] w fun r w' => r = .returned (.agg #[.int .i64 lo, .int .i64 hi, .int .i64 u]) ∧ Below w.heap.size w w')
    (hS1 : ∀ w, Calls Tryd.prog 31 #[.int .i64 o1] w fun r w' => r = .returned (.int .i64 s) ∧ Below w.heap.size w w')
    (hS2 : ∀ w, Calls Tryd.prog 31 #[.int .i64 o2] w fun r w' => r = .returned (.int .i64 s) ∧ Below w.heap.size w w')
    (hB : ∀ w, Tab w → Calls Tryd.prog 32 #[.agg #[.int .i64 lo, .int .i64 hi, .int .i64 u], .int .i64 s] w fun r w' => r = .returned (.tuple #[.agg #[.int .i64 lb, .int .i64 hb', .int .i64 ub], .int .i64 eb]) ∧ Below w.heap.size w w')
    (hC : ∀ w, Tab w → Calls Tryd.prog 32 #[.agg #[.int .i64 lo, .int .i64 hi, .int .i64 u], .int .i64 s] w fun r w' => r = .returned (.tuple #[.agg #[.int .i64 lc, .int .i64 hc, .int .i64 uc], .int .i64 ec]) ∧ Below w.heap.size w w')
    (hA : ec = 50 ∨ (ec = 0 ∧ eb = 0 ∧ (∀ w, Tab w → Calls Tryd.prog 32 #[.agg #[.int .i64 lc, .int .i64 hc, .int .i64 uc], .int .i64 s] w fun r w' => r = .returned (.tuple #[.agg #[.int .i64 lc, .int .i64 hc, .int .i64 uc], .int .i64 0]) ∧ Below w.heap.size w w') ∧
      (∀ w, Tab w → Calls Tryd.prog 21 #[.agg #[.int .i64 lc, .int .i64 hc, .int .i64 uc], .agg #[.int .i64 lb, .int .i64 hb', .int .i64 ub]] w fun r w' => r = .returned (.bool true) ∧ Below w.heap.size w w') ∧
      (∀ w, Tab w → Calls Tryd.prog 21 #[.agg #[.int .i64 lb, .int .i64 hb', .int .i64 ub], .agg #[.int .i64 lo, .int .i64 hi, .int .i64 u]] w fun r w' => r = .returned (.bool true) ∧ Below w.heap.size w w')))
    (hQ : ∀ w, Calls Tryd.prog 24 #[.int .i64 dd, .int .i64 1000] w fun r w' => r = .returned (.int .i64 q0) ∧ w = w') (q1 : 0 ≤ q0) (q2 : q0 ≤ 999)
    (hP : ∀ w, Calls Tryd.prog 24 #[.int .i64 nn, .int .i64 (1 + q0 + 1)] w fun r w' => r = .returned (.int .i64 p0) ∧ w = w') (p1 : 0 ≤ p0) (p2 : p0 ≤ 1 + q0)
    (hD : ∀ w, Tab w → Calls Tryd.prog 34 #[.agg #[.int .i64 lo, .int .i64 hi, .int .i64 u], .int .i64 p0, .int .i64 (1 + q0)] w fun r w' => r = .returned (.tuple #[.agg #[.int .i64 ld, .int .i64 hd, .int .i64 ud], .int .i64 0]) ∧ Below w.heap.size w w')
    (hG : ∀ w, Tab w → Calls Tryd.prog 34 #[.agg #[.int .i64 lo, .int .i64 hi, .int .i64 u], .int .i64 (1 + q0 - p0), .int .i64 (1 + q0)] w fun r w' => r = .returned (.tuple #[.agg #[.int .i64 lg, .int .i64 hg, .int .i64 ug], .int .i64 0]) ∧ Below w.heap.size w w')
    (d1 : 0 ≤ hd) (d2 : hd ≤ 999999) (g1 : 0 ≤ hg) (g2 : hg ≤ 999999)
    (hW : ∀ w, Tab w → Calls Tryd.prog 17 #[.agg #[.int .i64 ld, .int .i64 hd, .int .i64 ud], .agg #[.int .i64 lg, .int .i64 hg, .int .i64 ug]] w fun r w' => r = .returned (.tuple #[.agg #[.int .i64 lw, .int .i64 hw, .int .i64 uw], .int .i64 ew]) ∧ Below w.heap.size w w')
    (hK : (ew = 50 ∧ 999999 < hd + hg) ∨ (ew = 0 ∧ (∀ w, Tab w → Calls Tryd.prog 21 #[.agg #[.int .i64 lw, .int .i64 hw, .int .i64 uw], .agg #[.int .i64 lo, .int .i64 hi, .int .i64 u]] w fun r w' => r = .returned (.bool true) ∧ Below w.heap.size w w'))) :
    Calls Tryd.prog 8 #[.agg #[.int .i64 x0, .int .i64 x1, .int .i64 x2], .int .i64 o1, .int .i64 o2, .int .i64 nn, .int .i64 dd] w fun r w' => r = .returned (.bool true) ∧ Below w.heap.size w w' := by
  have HM := Lib.hid hM
  have HS1 := Lib.hid hS1
  have HS2 := Lib.hid hS2
  have HB1 := Lib.hid hB
  have HC1 := Lib.hid hC
  have HQ := Lib.hid hQ
  have HP := Lib.hid hP
  have HD := Lib.hid hD
  have HG := Lib.hid hG
  have HW := Lib.hid hW
  have HK := Lib.hid hK
  have HA := Lib.hid hA
  have HT := Lib.hid T
  have BB := Lib.hid (Below.refl w.heap.size w)
  clear hM hS1 hS2 hB hC hQ hP hD hG hW hK hA T
  go_enter Tryd.func8, Tryd.ntmps8
  go_wp2_with fail
  refine (sane_any _ (HT.out.next (by (repeat' first | exact Below.refl _ _ | assumption | (refine below_drewN ?_ _) | (refine Below.drew ?_) | (refine Below.alloc ?_ ?_ _) | (refine Below.setCell ?_ ?_ _) | (simp; done) | (simp; omega) | omega)))).mono ?_
  rintro e w1 ⟨rfl, hb⟩
  have HB := Lib.hid hb
  have hW : Below w.heap.size w w1 := by (repeat' first | exact Below.refl _ _ | assumption | (refine Below.andThen ?_ HB.out) | (exact HB.out.size) | (refine below_drewN ?_ _) | (refine Below.drew ?_) | (refine Below.alloc ?_ ?_ _) | (refine Below.setCell ?_ ?_ _) | (simp; done) | (simp; omega) | omega)
  have F0 : Has3 w1 (w.heap.size) (.int .i64 x0) (.int .i64 x1) (.int .i64 x2) := has3 ⟨(by first | (simp; done) | (simp; omega)), by go_simp, by go_simp, by go_simp⟩ hb
  replace BB := Lib.hid (Below.andThen BB.out hW)
  replace HT := Lib.hid (HT.out.next hW)
  clear hb hW HB
  go_wp2_with fail
  refine (HM.out _).mono ?_
  rintro e w2 ⟨rfl, hb⟩
  have HB := Lib.hid hb
  have hW : Below w1.heap.size w1 w2 := by (repeat' first | exact Below.refl _ _ | assumption | (refine Below.andThen ?_ HB.out) | (exact HB.out.size) | (refine below_drewN ?_ _) | (refine Below.drew ?_) | (refine Below.alloc ?_ ?_ _) | (refine Below.setCell ?_ ?_ _) | (simp; done) | (simp; omega) | omega)
  replace BB := Lib.hid (Below.andThen BB.out hW)
  replace HT := Lib.hid (HT.out.next hW)
  clear hb hW HB
  go_wp2_with fail
  refine (HS1.out _).mono ?_
  rintro e w3 ⟨rfl, hb⟩
  have HB := Lib.hid hb
  have hW : Below w2.heap.size w2 w3 := by (repeat' first | exact Below.refl _ _ | assumption | (refine Below.andThen ?_ HB.out) | (exact HB.out.size) | (refine below_drewN ?_ _) | (refine Below.drew ?_) | (refine Below.alloc ?_ ?_ _) | (refine Below.setCell ?_ ?_ _) | (simp; done) | (simp; omega) | omega)
  have F1 : Has3 w3 (w2.heap.size) (.int .i64 lo) (.int .i64 hi) (.int .i64 u) := has3 ⟨(by first | (simp; done) | (simp; omega)), by go_simp, by go_simp, by go_simp⟩ hb
  replace BB := Lib.hid (Below.andThen BB.out hW)
  replace HT := Lib.hid (HT.out.next hW)
  clear hb hW HB
  go_wp2_with fail
  refine (HS2.out _).mono ?_
  rintro e w4 ⟨rfl, hb⟩
  have HB := Lib.hid hb
  have hW : Below w3.heap.size w3 w4 := by (repeat' first | exact Below.refl _ _ | assumption | (refine Below.andThen ?_ HB.out) | (exact HB.out.size) | (refine below_drewN ?_ _) | (refine Below.drew ?_) | (refine Below.alloc ?_ ?_ _) | (refine Below.setCell ?_ ?_ _) | (simp; done) | (simp; omega) | omega)
  replace F1 := has3 F1 hW
  replace BB := Lib.hid (Below.andThen BB.out hW)
  replace HT := Lib.hid (HT.out.next hW)
  clear hb hW HB
  go_wp2_with fail
  refine (HS1.out _).mono ?_
  rintro e w5 ⟨rfl, hb⟩
  have HB := Lib.hid hb
  have hW : Below w4.heap.size w4 w5 := by (repeat' first | exact Below.refl _ _ | assumption | (refine Below.andThen ?_ HB.out) | (exact HB.out.size) | (refine below_drewN ?_ _) | (refine Below.drew ?_) | (refine Below.alloc ?_ ?_ _) | (refine Below.setCell ?_ ?_ _) | (simp; done) | (simp; omega) | omega)
  replace F1 := has3 F1 hW
  replace BB := Lib.hid (Below.andThen BB.out hW)
  replace HT := Lib.hid (HT.out.next hW)
  clear hb hW HB
  go_wp2_with fail
  refine (HS2.out _).mono ?_
  rintro e w6 ⟨rfl, hb⟩
  have HB := Lib.hid hb
  have hW : Below w5.heap.size w5 w6 := by (repeat' first | exact Below.refl _ _ | assumption | (refine Below.andThen ?_ HB.out) | (exact HB.out.size) | (refine below_drewN ?_ _) | (refine Below.drew ?_) | (refine Below.alloc ?_ ?_ _) | (refine Below.setCell ?_ ?_ _) | (simp; done) | (simp; omega) | omega)
  replace F1 := has3 F1 hW
  replace BB := Lib.hid (Below.andThen BB.out hW)
  replace HT := Lib.hid (HT.out.next hW)
  clear hb hW HB
  go_wp2_with fail
  refine (HB1.out _ HT.out).mono ?_
  rintro e w7 ⟨rfl, hb⟩
  have HB := Lib.hid hb
  have hW : Below w6.heap.size w6 w7 := by (repeat' first | exact Below.refl _ _ | assumption | (refine Below.andThen ?_ HB.out) | (exact HB.out.size) | (refine below_drewN ?_ _) | (refine Below.drew ?_) | (refine Below.alloc ?_ ?_ _) | (refine Below.setCell ?_ ?_ _) | (simp; done) | (simp; omega) | omega)
  replace F1 := has3 F1 hW
  replace BB := Lib.hid (Below.andThen BB.out hW)
  replace HT := Lib.hid (HT.out.next hW)
  clear hb hW HB
  go_wp2_with fail
  refine (HC1.out _ (HT.out.next (by (repeat' first | exact Below.refl _ _ | assumption | (refine below_drewN ?_ _) | (refine Below.drew ?_) | (refine Below.alloc ?_ ?_ _) | (refine Below.setCell ?_ ?_ _) | (simp; done) | (simp; omega) | omega)))).mono ?_
  rintro e w8 ⟨rfl, hb⟩
  have HB := Lib.hid hb
  have hW : Below w7.heap.size w7 w8 := by (repeat' first | exact Below.refl _ _ | assumption | (refine Below.andThen ?_ HB.out) | (exact HB.out.size) | (refine below_drewN ?_ _) | (refine Below.drew ?_) | (refine Below.alloc ?_ ?_ _) | (refine Below.setCell ?_ ?_ _) | (simp; done) | (simp; omega) | omega)
  replace F1 := has3 F1 hW
  have F2 : Has3 w8 (w7.heap.size) (.int .i64 lb) (.int .i64 hb') (.int .i64 ub) := has3 ⟨(by first | (simp; done) | (simp; omega)), by go_simp, by go_simp, by go_simp⟩ hb
  replace BB := Lib.hid (Below.andThen BB.out hW)
  replace HT := Lib.hid (HT.out.next hW)
  clear hb hW HB
  rcases HA.out with rfl | ⟨rfl, rfl, hA1, hA2, hA3⟩
  · go_wp2_with fail
    refine (same_below (HQ.out _)).mono ?_
    rintro e w9 ⟨rfl, hb⟩
    have HB := Lib.hid hb
    have hW : Below w8.heap.size w8 w9 := by (repeat' first | exact Below.refl _ _ | assumption | (refine Below.andThen ?_ HB.out) | (exact HB.out.size) | (refine below_drewN ?_ _) | (refine Below.drew ?_) | (refine Below.alloc ?_ ?_ _) | (refine Below.setCell ?_ ?_ _) | (simp; done) | (simp; omega) | omega)
    replace F1 := has3 F1 hW
    replace BB := Lib.hid (Below.andThen BB.out hW)
    replace HT := Lib.hid (HT.out.next hW)
    clear hb hW HB
    go_wp2_with fail
    refine (same_below (HP.out _)).mono ?_
    rintro e w10 ⟨rfl, hb⟩
    have HB := Lib.hid hb
    have hW : Below w9.heap.size w9 w10 := by (repeat' first | exact Below.refl _ _ | assumption | (refine Below.andThen ?_ HB.out) | (exact HB.out.size) | (refine below_drewN ?_ _) | (refine Below.drew ?_) | (refine Below.alloc ?_ ?_ _) | (refine Below.setCell ?_ ?_ _) | (simp; done) | (simp; omega) | omega)
    replace F1 := has3 F1 hW
    replace BB := Lib.hid (Below.andThen BB.out hW)
    replace HT := Lib.hid (HT.out.next hW)
    clear hb hW HB
    go_wp2_with fail
    refine (HD.out _ HT.out).mono ?_
    rintro e w11 ⟨rfl, hb⟩
    have HB := Lib.hid hb
    have hW : Below w10.heap.size w10 w11 := by (repeat' first | exact Below.refl _ _ | assumption | (refine Below.andThen ?_ HB.out) | (exact HB.out.size) | (refine below_drewN ?_ _) | (refine Below.drew ?_) | (refine Below.alloc ?_ ?_ _) | (refine Below.setCell ?_ ?_ _) | (simp; done) | (simp; omega) | omega)
    replace F1 := has3 F1 hW
    replace BB := Lib.hid (Below.andThen BB.out hW)
    replace HT := Lib.hid (HT.out.next hW)
    clear hb hW HB
    go_wp2_with fail
    refine (HG.out _ (HT.out.next (by (repeat' first | exact Below.refl _ _ | assumption | (refine below_drewN ?_ _) | (refine Below.drew ?_) | (refine Below.alloc ?_ ?_ _) | (refine Below.setCell ?_ ?_ _) | (simp; done) | (simp; omega) | omega)))).mono ?_
    rintro e w12 ⟨rfl, hb⟩
    have HB := Lib.hid hb
    have hW : Below w11.heap.size w11 w12 := by (repeat' first | exact Below.refl _ _ | assumption | (refine Below.andThen ?_ HB.out) | (exact HB.out.size) | (refine below_drewN ?_ _) | (refine Below.drew ?_) | (refine Below.alloc ?_ ?_ _) | (refine Below.setCell ?_ ?_ _) | (simp; done) | (simp; omega) | omega)
    replace F1 := has3 F1 hW
    have F5 : Has3 w12 (w11.heap.size) (.int .i64 ld) (.int .i64 hd) (.int .i64 ud) := has3 ⟨(by first | (simp; done) | (simp; omega)), by go_simp, by go_simp, by go_simp⟩ hb
    replace BB := Lib.hid (Below.andThen BB.out hW)
    replace HT := Lib.hid (HT.out.next hW)
    clear hb hW HB
    go_wp2_with fail
    refine (HW.out _ (HT.out.next (by (repeat' first | exact Below.refl _ _ | assumption | (refine below_drewN ?_ _) | (refine Below.drew ?_) | (refine Below.alloc ?_ ?_ _) | (refine Below.setCell ?_ ?_ _) | (simp; done) | (simp; omega) | omega)))).mono ?_
    rintro e w13 ⟨rfl, hb⟩
    have HB := Lib.hid hb
    have hW : Below w12.heap.size w12 w13 := by (repeat' first | exact Below.refl _ _ | assumption | (refine Below.andThen ?_ HB.out) | (exact HB.out.size) | (refine below_drewN ?_ _) | (refine Below.drew ?_) | (refine Below.alloc ?_ ?_ _) | (refine Below.setCell ?_ ?_ _) | (simp; done) | (simp; omega) | omega)
    replace F1 := has3 F1 hW
    replace F5 := has3 F5 hW
    have F6 : Has3 w13 (w12.heap.size) (.int .i64 lg) (.int .i64 hg) (.int .i64 ug) := has3 ⟨(by first | (simp; done) | (simp; omega)), by go_simp, by go_simp, by go_simp⟩ hb
    replace BB := Lib.hid (Below.andThen BB.out hW)
    replace HT := Lib.hid (HT.out.next hW)
    clear hb hW HB
    rcases HK.out with ⟨rfl, hbig⟩ | ⟨rfl, hW1⟩
    · go_wp2
      go_ret
      exact ⟨rfl, by (repeat' first | exact Below.refl _ _ | assumption | (refine Below.andThen ?_ BB.out) | (exact BB.out.size) | (refine below_drewN ?_ _) | (refine Below.drew ?_) | (refine Below.alloc ?_ ?_ _) | (refine Below.setCell ?_ ?_ _) | (simp; done) | (simp; omega) | omega)⟩
    · have HW1 := Lib.hid hW1
      clear hW1
      go_wp2_with fail
      refine (HW1.out _ (HT.out.next (by (repeat' first | exact Below.refl _ _ | assumption | (refine below_drewN ?_ _) | (refine Below.drew ?_) | (refine Below.alloc ?_ ?_ _) | (refine Below.setCell ?_ ?_ _) | (simp; done) | (simp; omega) | omega)))).mono ?_
      rintro e w14 ⟨rfl, hb⟩
      have HB := Lib.hid hb
      have hW : Below w13.heap.size w13 w14 := by (repeat' first | exact Below.refl _ _ | assumption | (refine Below.andThen ?_ HB.out) | (exact HB.out.size) | (refine below_drewN ?_ _) | (refine Below.drew ?_) | (refine Below.alloc ?_ ?_ _) | (refine Below.setCell ?_ ?_ _) | (simp; done) | (simp; omega) | omega)
      replace BB := Lib.hid (Below.andThen BB.out hW)
      replace HT := Lib.hid (HT.out.next hW)
      clear hb hW HB
      go_wp2
      go_ret
      exact ⟨rfl, by (repeat' first | exact Below.refl _ _ | assumption | (refine Below.andThen ?_ BB.out) | (exact BB.out.size) | (refine below_drewN ?_ _) | (refine Below.drew ?_) | (refine Below.alloc ?_ ?_ _) | (refine Below.setCell ?_ ?_ _) | (simp; done) | (simp; omega) | omega)⟩
  · have HA1 := Lib.hid hA1
    have HA2 := Lib.hid hA2
    have HA3 := Lib.hid hA3
    clear hA1 hA2 hA3
    go_wp2_with fail
    refine (HA1.out _ (HT.out.next (by (repeat' first | exact Below.refl _ _ | assumption | (refine below_drewN ?_ _) | (refine Below.drew ?_) | (refine Below.alloc ?_ ?_ _) | (refine Below.setCell ?_ ?_ _) | (simp; done) | (simp; omega) | omega)))).mono ?_
    rintro e w9 ⟨rfl, hb⟩
    have HB := Lib.hid hb
    have hW : Below w8.heap.size w8 w9 := by (repeat' first | exact Below.refl _ _ | assumption | (refine Below.andThen ?_ HB.out) | (exact HB.out.size) | (refine below_drewN ?_ _) | (refine Below.drew ?_) | (refine Below.alloc ?_ ?_ _) | (refine Below.setCell ?_ ?_ _) | (simp; done) | (simp; omega) | omega)
    replace F1 := has3 F1 hW
    replace F2 := has3 F2 hW
    have F3 : Has3 w9 (w8.heap.size) (.int .i64 lc) (.int .i64 hc) (.int .i64 uc) := has3 ⟨(by first | (simp; done) | (simp; omega)), by go_simp, by go_simp, by go_simp⟩ hb
    replace BB := Lib.hid (Below.andThen BB.out hW)
    replace HT := Lib.hid (HT.out.next hW)
    clear hb hW HB
    go_wp2_with fail
    refine (HA2.out _ (HT.out.next (by (repeat' first | exact Below.refl _ _ | assumption | (refine below_drewN ?_ _) | (refine Below.drew ?_) | (refine Below.alloc ?_ ?_ _) | (refine Below.setCell ?_ ?_ _) | (simp; done) | (simp; omega) | omega)))).mono ?_
    rintro e w10 ⟨rfl, hb⟩
    have HB := Lib.hid hb
    have hW : Below w9.heap.size w9 w10 := by (repeat' first | exact Below.refl _ _ | assumption | (refine Below.andThen ?_ HB.out) | (exact HB.out.size) | (refine below_drewN ?_ _) | (refine Below.drew ?_) | (refine Below.alloc ?_ ?_ _) | (refine Below.setCell ?_ ?_ _) | (simp; done) | (simp; omega) | omega)
    replace F1 := has3 F1 hW
    replace F2 := has3 F2 hW
    replace BB := Lib.hid (Below.andThen BB.out hW)
    replace HT := Lib.hid (HT.out.next hW)
    clear hb hW HB
    go_wp2_with fail
    refine (HA3.out _ HT.out).mono ?_
    rintro e w11 ⟨rfl, hb⟩
    have HB := Lib.hid hb
    have hW : Below w10.heap.size w10 w11 := by (repeat' first | exact Below.refl _ _ | assumption | (refine Below.andThen ?_ HB.out) | (exact HB.out.size) | (refine below_drewN ?_ _) | (refine Below.drew ?_) | (refine Below.alloc ?_ ?_ _) | (refine Below.setCell ?_ ?_ _) | (simp; done) | (simp; omega) | omega)
    replace F1 := has3 F1 hW
    replace BB := Lib.hid (Below.andThen BB.out hW)
    replace HT := Lib.hid (HT.out.next hW)
    clear hb hW HB
    go_wp2_with fail
    refine (same_below (HQ.out _)).mono ?_
    rintro e w12 ⟨rfl, hb⟩
    have HB := Lib.hid hb
    have hW : Below w11.heap.size w11 w12 := by (repeat' first | exact Below.refl _ _ | assumption | (refine Below.andThen ?_ HB.out) | (exact HB.out.size) | (refine below_drewN ?_ _) | (refine Below.drew ?_) | (refine Below.alloc ?_ ?_ _) | (refine Below.setCell ?_ ?_ _) | (simp; done) | (simp; omega) | omega)
    replace F1 := has3 F1 hW
    replace BB := Lib.hid (Below.andThen BB.out hW)
    replace HT := Lib.hid (HT.out.next hW)
    clear hb hW HB
    go_wp2_with fail
    refine (same_below (HP.out _)).mono ?_
    rintro e w13 ⟨rfl, hb⟩
    have HB := Lib.hid hb
    have hW : Below w12.heap.size w12 w13 := by (repeat' first | exact Below.refl _ _ | assumption | (refine Below.andThen ?_ HB.out) | (exact HB.out.size) | (refine below_drewN ?_ _) | (refine Below.drew ?_) | (refine Below.alloc ?_ ?_ _) | (refine Below.setCell ?_ ?_ _) | (simp; done) | (simp; omega) | omega)
    replace F1 := has3 F1 hW
    replace BB := Lib.hid (Below.andThen BB.out hW)
    replace HT := Lib.hid (HT.out.next hW)
    clear hb hW HB
    go_wp2_with fail
    refine (HD.out _ HT.out).mono ?_
    rintro e w14 ⟨rfl, hb⟩
    have HB := Lib.hid hb
    have hW : Below w13.heap.size w13 w14 := by (repeat' first | exact Below.refl _ _ | assumption | (refine Below.andThen ?_ HB.out) | (exact HB.out.size) | (refine below_drewN ?_ _) | (refine Below.drew ?_) | (refine Below.alloc ?_ ?_ _) | (refine Below.setCell ?_ ?_ _) | (simp; done) | (simp; omega) | omega)
    replace F1 := has3 F1 hW
    replace BB := Lib.hid (Below.andThen BB.out hW)
    replace HT := Lib.hid (HT.out.next hW)
    clear hb hW HB
    go_wp2_with fail
    refine (HG.out _ (HT.out.next (by (repeat' first | exact Below.refl _ _ | assumption | (refine below_drewN ?_ _) | (refine Below.drew ?_) | (refine Below.alloc ?_ ?_ _) | (refine Below.setCell ?_ ?_ _) | (simp; done) | (simp; omega) | omega)))).mono ?_
    rintro e w15 ⟨rfl, hb⟩
    have HB := Lib.hid hb
    have hW : Below w14.heap.size w14 w15 := by (repeat' first | exact Below.refl _ _ | assumption | (refine Below.andThen ?_ HB.out) | (exact HB.out.size) | (refine below_drewN ?_ _) | (refine Below.drew ?_) | (refine Below.alloc ?_ ?_ _) | (refine Below.setCell ?_ ?_ _) | (simp; done) | (simp; omega) | omega)
    replace F1 := has3 F1 hW
    have F5 : Has3 w15 (w14.heap.size) (.int .i64 ld) (.int .i64 hd) (.int .i64 ud) := has3 ⟨(by first | (simp; done) | (simp; omega)), by go_simp, by go_simp, by go_simp⟩ hb
    replace BB := Lib.hid (Below.andThen BB.out hW)
    replace HT := Lib.hid (HT.out.next hW)
    clear hb hW HB
    go_wp2_with fail
    refine (HW.out _ (HT.out.next (by (repeat' first | exact Below.refl _ _ | assumption | (refine below_drewN ?_ _) | (refine Below.drew ?_) | (refine Below.alloc ?_ ?_ _) | (refine Below.setCell ?_ ?_ _) | (simp; done) | (simp; omega) | omega)))).mono ?_
    rintro e w16 ⟨rfl, hb⟩
    have HB := Lib.hid hb
    have hW : Below w15.heap.size w15 w16 := by (repeat' first | exact Below.refl _ _ | assumption | (refine Below.andThen ?_ HB.out) | (exact HB.out.size) | (refine below_drewN ?_ _) | (refine Below.drew ?_) | (refine Below.alloc ?_ ?_ _) | (refine Below.setCell ?_ ?_ _) | (simp; done) | (simp; omega) | omega)
    replace F1 := has3 F1 hW
    replace F5 := has3 F5 hW
    have F6 : Has3 w16 (w15.heap.size) (.int .i64 lg) (.int .i64 hg) (.int .i64 ug) := has3 ⟨(by first | (simp; done) | (simp; omega)), by go_simp, by go_simp, by go_simp⟩ hb
    replace BB := Lib.hid (Below.andThen BB.out hW)
    replace HT := Lib.hid (HT.out.next hW)
    clear hb hW HB
    rcases HK.out with ⟨rfl, hbig⟩ | ⟨rfl, hW1⟩
    · go_wp2
      go_ret
      exact ⟨rfl, by (repeat' first | exact Below.refl _ _ | assumption | (refine Below.andThen ?_ BB.out) | (exact BB.out.size) | (refine below_drewN ?_ _) | (refine Below.drew ?_) | (refine Below.alloc ?_ ?_ _) | (refine Below.setCell ?_ ?_ _) | (simp; done) | (simp; omega) | omega)⟩
    · have HW1 := Lib.hid hW1
      clear hW1
      go_wp2_with fail
      refine (HW1.out _ (HT.out.next (by (repeat' first | exact Below.refl _ _ | assumption | (refine below_drewN ?_ _) | (refine Below.drew ?_) | (refine Below.alloc ?_ ?_ _) | (refine Below.setCell ?_ ?_ _) | (simp; done) | (simp; omega) | omega)))).mono ?_
      rintro e w17 ⟨rfl, hb⟩
      have HB := Lib.hid hb
      have hW : Below w16.heap.size w16 w17 := by (repeat' first | exact Below.refl _ _ | assumption | (refine Below.andThen ?_ HB.out) | (exact HB.out.size) | (refine below_drewN ?_ _) | (refine Below.drew ?_) | (refine Below.alloc ?_ ?_ _) | (refine Below.setCell ?_ ?_ _) | (simp; done) | (simp; omega) | omega)
      replace BB := Lib.hid (Below.andThen BB.out hW)
      replace HT := Lib.hid (HT.out.next hW)
      clear hb hW HB
      go_wp2
      go_ret
      exact ⟨rfl, by (repeat' first | exact Below.refl _ _ | assumption | (refine Below.andThen ?_ BB.out) | (exact BB.out.size) | (refine below_drewN ?_ _) | (refine Below.drew ?_) | (refine Below.alloc ?_ ?_ _) | (refine Below.setCell ?_ ?_ _) | (simp; done) | (simp; omega) | omega)⟩

end Go.Proofs.YtdldokhiefeloaaDoor
