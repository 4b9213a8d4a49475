/- UnitOutward: what is converted, made coarse and shared contains what it was, and no narrower bounds do. -/
import Derived.Test.YtdldokhiefeloaaDoorUnitCoarser
namespace Go.Proofs.YtdldokhiefeloaaDoor
open Go.RowKit

/-! ### Plain mathematics -/
theorem out_gen {lo hi u n d : Int} (hu1 : 1 ≤ u) (hu2 : u ≤ 7) (h0 : 0 ≤ lo) (h1 : lo ≤ hi) (hn : 0 ≤ n) (hd : 1 ≤ d) :
    ((checkR (lo * n / d) ((hi * n + d - 1) / d) u).e = 50 ∧ 999999 * d < hi * n) ∨
    ((checkR (lo * n / d) ((hi * n + d - 1) / d) u).e = 0 ∧ (checkR (lo * n / d) ((hi * n + d - 1) / d) u).u = u ∧ 0 ≤ (checkR (lo * n / d) ((hi * n + d - 1) / d) u).lo ∧ (checkR (lo * n / d) ((hi * n + d - 1) / d) u).lo ≤ 999999 ∧
      0 ≤ (checkR (lo * n / d) ((hi * n + d - 1) / d) u).hi ∧ (checkR (lo * n / d) ((hi * n + d - 1) / d) u).hi ≤ 999999 ∧
      closestB (checkR (lo * n / d) ((hi * n + d - 1) / d) u).lo (checkR (lo * n / d) ((hi * n + d - 1) / d) u).hi lo hi n d = true) := by
  have m0 : 0 ≤ lo * n := Int.mul_nonneg h0 hn
  have m1 : lo * n ≤ hi * n := Int.mul_le_mul_of_nonneg_right h1 hn
  have a1 := Int.ediv_mul_le (lo * n) (show d ≠ 0 by omega)
  have a2 := Int.lt_ediv_add_one_mul_self (lo * n) (show 0 < d by omega)
  have b1 := Int.ediv_mul_le (hi * n + d - 1) (show d ≠ 0 by omega)
  have b2 := Int.lt_ediv_add_one_mul_self (hi * n + d - 1) (show 0 < d by omega)
  have c1 : 0 ≤ lo * n / d := Int.ediv_nonneg m0 (by omega)
  have c2 : lo * n / d ≤ (hi * n + d - 1) / d := Int.ediv_le_ediv (by omega) (by omega)
  generalize lo * n / d = L at *
  generalize (hi * n + d - 1) / d = H at *
  rw [Int.add_mul, Int.one_mul] at b2
  by_cases hb : H ≤ 999999
  · rw [known_checkR hu1 hu2 c1 c2 hb]
    refine .inr ⟨rfl, rfl, c1, by dsimp only; omega, by dsimp only; omega, hb, ?_⟩
    have e2 : (H - 1) * d = H * d - d := by rw [Int.sub_mul, Int.one_mul]
    simp only [closestB, Bool.and_eq_true, decide_eq_true_eq]
    refine ⟨⟨⟨a1, a2⟩, ?_⟩, ?_⟩ <;> omega
  · rw [big_checkR hu1 (by omega)]
    refine .inl ⟨rfl, ?_⟩
    have : 1000000 * d ≤ H * d := Int.mul_le_mul_of_nonneg_right (by omega) (by omega)
    omega

theorem partnerZ_to (u c e : Int) (o : Bool) (h : 1 ≤ u ∧ u ≤ 7) :
    (u = partnerZ u o ∧ worthRN u (partnerZ u o) c e = 1 ∧ worthRD u (partnerZ u o) c e = 1) ∨
    (u ≠ partnerZ u o ∧ worthRN u (partnerZ u o) c e = worthN u c e * worthD (partnerZ u o) c e ∧ worthRD u (partnerZ u o) c e = worthD u c e * worthN (partnerZ u o) c e) := by
  have hu : u = 1 ∨ u = 2 ∨ u = 3 ∨ u = 4 ∨ u = 5 ∨ u = 6 ∨ u = 7 := by omega
  cases o <;> rcases hu with rfl | rfl | rfl | rfl | rfl | rfl | rfl <;> simp [partnerZ, worthRN, worthRD, worthN, worthD]

theorem conv_out {lo hi u c e : Int} (o : Bool) (hk : knownB lo hi u = true) (hr : ratesB c e = true) :
    (1 ≤ worthRN u (partnerZ u o) c e ∧ worthRN u (partnerZ u o) c e ≤ 100000000 ∧ 1 ≤ worthRD u (partnerZ u o) c e ∧ worthRD u (partnerZ u o) c e ≤ 100000000) ∧
    (((convR lo hi u (partnerZ u o) c e).e = 50 ∧ 999999 * worthRD u (partnerZ u o) c e < hi * worthRN u (partnerZ u o) c e) ∨
     ((convR lo hi u (partnerZ u o) c e).e = 0 ∧ (convR lo hi u (partnerZ u o) c e).u = partnerZ u o ∧ 0 ≤ (convR lo hi u (partnerZ u o) c e).lo ∧ (convR lo hi u (partnerZ u o) c e).lo ≤ 999999 ∧
       0 ≤ (convR lo hi u (partnerZ u o) c e).hi ∧ (convR lo hi u (partnerZ u o) c e).hi ≤ 999999 ∧
       closestB (convR lo hi u (partnerZ u o) c e).lo (convR lo hi u (partnerZ u o) c e).hi lo hi (worthRN u (partnerZ u o) c e) (worthRD u (partnerZ u o) c e) = true)) := by
  have k := (knownB_iff _ _ _).1 hk
  have r := (ratesB_iff _ _).1 hr
  obtain ⟨t1, t2, t3⟩ := partnerZ_ok u o ⟨k.1, k.2.1⟩
  rcases partnerZ_to u c e o ⟨k.1, k.2.1⟩ with ⟨q0, q1, q2⟩ | ⟨q0, q1, q2⟩
  · rw [q1, q2, ← q0, convR_same hk hr]
    refine ⟨by omega, .inr ⟨rfl, rfl, k.2.2.1, by dsimp only; omega, by dsimp only; omega, k.2.2.2.2, ?_⟩⟩
    simp [closestB]
    omega
  · obtain ⟨p1, p2, p3, p4⟩ := worth_bd u (partnerZ u o) c e ⟨k.1, k.2.1⟩ ⟨t1, t2⟩ t3 ⟨r.1, r.2.1⟩ ⟨r.2.2.1, r.2.2.2⟩ q0
    have hc1 : convR lo hi u (partnerZ u o) c e = checkR (lo * (worthN u c e * worthD (partnerZ u o) c e) / (worthD u c e * worthN (partnerZ u o) c e)) ((hi * (worthN u c e * worthD (partnerZ u o) c e) + worthD u c e * worthN (partnerZ u o) c e - 1) / (worthD u c e * worthN (partnerZ u o) c e)) (partnerZ u o) := by
      simp [convR, hk, hr, t3, q0]
    rw [hc1, q1, q2]
    exact ⟨⟨p1, p2, p3, p4⟩, out_gen t1 t2 k.2.2.1 k.2.2.2.1 (by omega) p3⟩

theorem share_out {lo hi u p q : Int} (hk : knownB lo hi u = true) (hp : 0 ≤ p) (hp2 : p ≤ 1000) (hq1 : 1 ≤ q) (hq2 : q ≤ 1000) :
    ((shareR lo hi u p q).e = 50 ∧ 999999 * q < hi * p) ∨
    ((shareR lo hi u p q).e = 0 ∧ (shareR lo hi u p q).u = u ∧ 0 ≤ (shareR lo hi u p q).lo ∧ (shareR lo hi u p q).lo ≤ 999999 ∧ 0 ≤ (shareR lo hi u p q).hi ∧ (shareR lo hi u p q).hi ≤ 999999 ∧
      closestB (shareR lo hi u p q).lo (shareR lo hi u p q).hi lo hi p q = true) := by
  have k := (knownB_iff _ _ _).1 hk
  have s1 : shareB p q = true := by simp [shareB]; omega
  have e : shareR lo hi u p q = checkR (lo * p / q) ((hi * p + q - 1) / q) u := by simp [shareR, hk, s1]
  rw [e]
  exact out_gen k.1 k.2.1 k.2.2.1 k.2.2.2.1 hp hq1

theorem coarse_out {lo hi u s : Int} (hk : knownB lo hi u = true) (hs : s = 1 ∨ s = 10 ∨ s = 100 ∨ s = 1000 ∨ s = 10000) :
    ((coarseR lo hi u s).e = 50 ∧ 999999 < hi + s - 1) ∨
    ((coarseR lo hi u s).e = 0 ∧ (coarseR lo hi u s).u = u ∧ 0 ≤ (coarseR lo hi u s).lo ∧ (coarseR lo hi u s).lo ≤ 999999 ∧ 0 ≤ (coarseR lo hi u s).hi ∧ (coarseR lo hi u s).hi ≤ 999999 ∧
      (coarseR lo hi u s).lo % s = 0 ∧ (coarseR lo hi u s).hi % s = 0 ∧ 0 ≤ (coarseR lo hi u s).lo / s ∧ (coarseR lo hi u s).lo / s ≤ 999999 ∧ 0 ≤ (coarseR lo hi u s).hi / s ∧ (coarseR lo hi u s).hi / s ≤ 999999 ∧
      closestB ((coarseR lo hi u s).lo / s) ((coarseR lo hi u s).hi / s) lo hi 1 s = true) := by
  have k := (knownB_iff _ _ _).1 hk
  have hs' : stepB s = true := by rcases hs with rfl | rfl | rfl | rfl | rfl <;> rfl
  have a1 := dn_up lo s hs k.2.2.1
  have a2 := dn_up hi s hs (by omega)
  have a3 : dn lo s ≤ up hi s := by omega
  rw [coarse_eq hk hs']
  by_cases hb : up hi s ≤ 999999
  · rw [known_checkR k.1 k.2.1 a1.1 a3 hb]
    dsimp only
    refine .inr ⟨rfl, rfl, a1.1, by omega, by omega, hb, ?_⟩
    unfold dn up at *
    rcases hs with rfl | rfl | rfl | rfl | rfl <;> (simp only [closestB, Bool.and_eq_true, decide_eq_true_eq]; omega)
  · rw [big_checkR k.1 (by omega)]
    exact .inl ⟨rfl, by omega⟩

/-! ### The walk -/
set_option maxRecDepth 100000 in
set_option maxHeartbeats 8000000 in
theorem outward_walk (x0 x1 x2 z0 z1 : Int) (o : Bool) (sz nn dd lo hi u c e to n d lb hb' ub eb s lc hc uc ec p0 q0 ls hs us es : Int) (w : World) (T : Tab w)
    (hM : ∀ w, Calls Tryd.prog 16 #[.agg #[.int .i64 x0, .int .i64 x1, .int .i64 x2]] w fun r w' => r = .returned (.agg #[.int .i64 lo, .int .i64 hi, .int .i64 u]) ∧ Below w.heap.size w w')
    (hR : ∀ w, Calls Tryd.prog 23 #[.agg #[.int .i64 z0, .int .i64 z1]] w fun r w' => r = .returned (.agg #[.int .i64 c, .int .i64 e]) ∧ Below w.heap.size w w')
    (hP : ∀ w, Calls Tryd.prog 38 #[.int .i64 u, .bool o] w fun r w' => r = .returned (.int .i64 to) ∧ w = w')
    (hW : ∀ w, Calls Tryd.prog 39 #[.int .i64 u, .int .i64 to, .agg #[.int .i64 c, .int .i64 e]] w fun r w' => r = .returned (.tuple #[.int .i64 n, .int .i64 d]) ∧ Below w.heap.size w w')
    (hC : ∀ w, Tab w → Calls Tryd.prog 25 #[.agg #[.int .i64 lo, .int .i64 hi, .int .i64 u], .int .i64 to, .agg #[.int .i64 c, .int .i64 e]] w fun r w' => r = .returned (.tuple #[.agg #[.int .i64 lb, .int .i64 hb', .int .i64 ub], .int .i64 eb]) ∧ Below w.heap.size w w')
    (hB : (eb = 50 ∧ 999999 * d < hi * n) ∨ (eb = 0 ∧ ub = to ∧ ∀ w, Calls Tryd.prog 40 #[.agg #[.int .i64 lb, .int .i64 hb', .int .i64 ub], .int .i64 lo, .int .i64 hi, .int .i64 n, .int .i64 d] w fun r w' => r = .returned (.bool true) ∧ Below w.heap.size w w'))
    (hS : ∀ w, Calls Tryd.prog 31 #[.int .i64 sz] w fun r w' => r = .returned (.int .i64 s) ∧ Below w.heap.size w w') (s1 : 1 ≤ s) (s2 : s ≤ 10000)
    (hCo : ∀ w, Tab w → Calls Tryd.prog 32 #[.agg #[.int .i64 lo, .int .i64 hi, .int .i64 u], .int .i64 s] w fun r w' => r = .returned (.tuple #[.agg #[.int .i64 lc, .int .i64 hc, .int .i64 uc], .int .i64 ec]) ∧ Below w.heap.size w w')
    (hD : (ec = 50 ∧ 999999 < hi + s - 1) ∨ (ec = 0 ∧ uc = u ∧ 0 ≤ lc ∧ lc ≤ 999999 ∧ 0 ≤ hc ∧ hc ≤ 999999 ∧ lc % s = 0 ∧ hc % s = 0 ∧ ∀ w, Calls Tryd.prog 40 #[.agg #[.int .i64 (lc / s), .int .i64 (hc / s), .int .i64 0], .int .i64 lo, .int .i64 hi, .int .i64 1, .int .i64 s] w fun r w' => r = .returned (.bool true) ∧ Below w.heap.size w w'))
    (hQ1 : ∀ w, Calls Tryd.prog 24 #[.int .i64 nn, .int .i64 1001] w fun r w' => r = .returned (.int .i64 p0) ∧ w = w') (p1 : 0 ≤ p0) (p2 : p0 ≤ 1000)
    (hQ2 : ∀ w, Calls Tryd.prog 24 #[.int .i64 dd, .int .i64 1000] w fun r w' => r = .returned (.int .i64 q0) ∧ w = w') (q1 : 0 ≤ q0) (q2 : q0 ≤ 999)
    (hSh : ∀ w, Tab w → Calls Tryd.prog 34 #[.agg #[.int .i64 lo, .int .i64 hi, .int .i64 u], .int .i64 p0, .int .i64 (1 + q0)] w fun r w' => r = .returned (.tuple #[.agg #[.int .i64 ls, .int .i64 hs, .int .i64 us], .int .i64 es]) ∧ Below w.heap.size w w')
    (hE : (es = 50 ∧ 999999 * (1 + q0) < hi * p0) ∨ (es = 0 ∧ us = u ∧ ∀ w, Calls Tryd.prog 40 #[.agg #[.int .i64 ls, .int .i64 hs, .int .i64 us], .int .i64 lo, .int .i64 hi, .int .i64 p0, .int .i64 (1 + q0)] w fun r w' => r = .returned (.bool true) ∧ Below w.heap.size w w'))
    (b0 : 0 ≤ lo) (b1 : lo ≤ hi) (b2 : hi ≤ 999999) (n1 : 1 ≤ n) (n2 : n ≤ 100000000) (d1 : 1 ≤ d) (d2 : d ≤ 100000000) :
    Calls Tryd.prog 4 #[.agg #[.int .i64 x0, .int .i64 x1, .int .i64 x2], .agg #[.int .i64 z0, .int .i64 z1], .bool o, .int .i64 sz, .int .i64 nn, .int .i64 dd] w fun r w' => r = .returned (.bool true) ∧ Below w.heap.size w w' := by
  have m1 : 0 ≤ hi * n := Int.mul_nonneg (by omega) (by omega)
  have m2 : hi * n ≤ 999999 * 100000000 := Int.mul_le_mul b2 n2 (by omega) (by omega)
  have m3 : 0 ≤ hi * p0 := Int.mul_nonneg (by omega) p1
  have m4 : hi * p0 ≤ 999999 * 1000 := Int.mul_le_mul b2 p2 p1 (by omega)
  have HM := Lib.hid hM
  have HR := Lib.hid hR
  have HP := Lib.hid hP
  have HW := Lib.hid hW
  have HC1 := Lib.hid hC
  have HB1 := Lib.hid hB
  have HS := Lib.hid hS
  have HCo := Lib.hid hCo
  have HD := Lib.hid hD
  have HQ1 := Lib.hid hQ1
  have HQ2 := Lib.hid hQ2
  have HSh := Lib.hid hSh
  have HE := Lib.hid hE
  have HT := Lib.hid T
  have BB := Lib.hid (Below.refl w.heap.size w)
  clear hM hR hP hW hC hB hS hCo hD hQ1 hQ2 hSh hE T
  go_enter Tryd.func4, Tryd.ntmps4
  go_wp2_with fail
  refine (sane_any _ (HT.out.next (by (repeat' first | exact Below.refl _ _ | assumption | (refine below_drewN ?_ _) | (refine Below.drew ?_) | (refine Below.alloc ?_ ?_ _) | (refine Below.setCell ?_ ?_ _) | (simp; done) | (simp; omega) | omega)))).mono ?_
  rintro e w1 ⟨rfl, hb⟩
  have HB := Lib.hid hb
  have hW : Below w.heap.size w w1 := by (repeat' first | exact Below.refl _ _ | assumption | (refine Below.andThen ?_ HB.out) | (exact HB.out.size) | (refine below_drewN ?_ _) | (refine Below.drew ?_) | (refine Below.alloc ?_ ?_ _) | (refine Below.setCell ?_ ?_ _) | (simp; done) | (simp; omega) | omega)
  have F0 : Has3 w1 (w.heap.size) (.int .i64 x0) (.int .i64 x1) (.int .i64 x2) := has3 ⟨(by first | (simp; done) | (simp; omega)), by go_simp, by go_simp, by go_simp⟩ hb
  have F1 : Has2 w1 (w.heap.size + 1) (.int .i64 z0) (.int .i64 z1) := has2 ⟨(by first | (simp; done) | (simp; omega)), by go_simp, by go_simp⟩ hb
  replace BB := Lib.hid (Below.andThen BB.out hW)
  replace HT := Lib.hid (HT.out.next hW)
  clear hb hW HB
  go_wp2_with fail
  refine (HM.out _).mono ?_
  rintro e w2 ⟨rfl, hb⟩
  have HB := Lib.hid hb
  have hW : Below w1.heap.size w1 w2 := by (repeat' first | exact Below.refl _ _ | assumption | (refine Below.andThen ?_ HB.out) | (exact HB.out.size) | (refine below_drewN ?_ _) | (refine Below.drew ?_) | (refine Below.alloc ?_ ?_ _) | (refine Below.setCell ?_ ?_ _) | (simp; done) | (simp; omega) | omega)
  replace F0 := has3 F0 hW
  replace F1 := has2 F1 hW
  replace BB := Lib.hid (Below.andThen BB.out hW)
  replace HT := Lib.hid (HT.out.next hW)
  clear hb hW HB
  go_wp2_with fail
  refine (HR.out _).mono ?_
  rintro e w3 ⟨rfl, hb⟩
  have HB := Lib.hid hb
  have hW : Below w2.heap.size w2 w3 := by (repeat' first | exact Below.refl _ _ | assumption | (refine Below.andThen ?_ HB.out) | (exact HB.out.size) | (refine below_drewN ?_ _) | (refine Below.drew ?_) | (refine Below.alloc ?_ ?_ _) | (refine Below.setCell ?_ ?_ _) | (simp; done) | (simp; omega) | omega)
  replace F1 := has2 F1 hW
  have F2 : Has3 w3 (w2.heap.size) (.int .i64 lo) (.int .i64 hi) (.int .i64 u) := has3 ⟨(by first | (simp; done) | (simp; omega)), by go_simp, by go_simp, by go_simp⟩ hb
  replace BB := Lib.hid (Below.andThen BB.out hW)
  replace HT := Lib.hid (HT.out.next hW)
  clear hb hW HB
  go_wp2_with fail
  refine (same_below (HP.out _)).mono ?_
  rintro e w4 ⟨rfl, hb⟩
  have HB := Lib.hid hb
  have hW : Below w3.heap.size w3 w4 := by (repeat' first | exact Below.refl _ _ | assumption | (refine Below.andThen ?_ HB.out) | (exact HB.out.size) | (refine below_drewN ?_ _) | (refine Below.drew ?_) | (refine Below.alloc ?_ ?_ _) | (refine Below.setCell ?_ ?_ _) | (simp; done) | (simp; omega) | omega)
  replace F2 := has3 F2 hW
  have F3 : Has2 w4 (w3.heap.size) (.int .i64 c) (.int .i64 e) := has2 ⟨(by first | (simp; done) | (simp; omega)), by go_simp, by go_simp⟩ hb
  replace BB := Lib.hid (Below.andThen BB.out hW)
  replace HT := Lib.hid (HT.out.next hW)
  clear hb hW HB
  go_wp2_with fail
  refine (HW.out _).mono ?_
  rintro e w5 ⟨rfl, hb⟩
  have HB := Lib.hid hb
  have hW : Below w4.heap.size w4 w5 := by (repeat' first | exact Below.refl _ _ | assumption | (refine Below.andThen ?_ HB.out) | (exact HB.out.size) | (refine below_drewN ?_ _) | (refine Below.drew ?_) | (refine Below.alloc ?_ ?_ _) | (refine Below.setCell ?_ ?_ _) | (simp; done) | (simp; omega) | omega)
  replace F2 := has3 F2 hW
  replace F3 := has2 F3 hW
  replace BB := Lib.hid (Below.andThen BB.out hW)
  replace HT := Lib.hid (HT.out.next hW)
  clear hb hW HB
  go_wp2_with fail
  refine (HC1.out _ HT.out).mono ?_
  rintro e w6 ⟨rfl, hb⟩
  have HB := Lib.hid hb
  have hW : Below w5.heap.size w5 w6 := by (repeat' first | exact Below.refl _ _ | assumption | (refine Below.andThen ?_ HB.out) | (exact HB.out.size) | (refine below_drewN ?_ _) | (refine Below.drew ?_) | (refine Below.alloc ?_ ?_ _) | (refine Below.setCell ?_ ?_ _) | (simp; done) | (simp; omega) | omega)
  replace F2 := has3 F2 hW
  replace BB := Lib.hid (Below.andThen BB.out hW)
  replace HT := Lib.hid (HT.out.next hW)
  clear hb hW HB
  rcases HB1.out with ⟨rfl, hB1⟩ | ⟨rfl, rfl, hB1⟩
  · clear HB1
    go_wp2_with fail
    rename World => w7
    refine (HS.out _).mono ?_
    rintro e w8 ⟨rfl, hb⟩
    have HB := Lib.hid hb
    have hW : Below w7.heap.size w7 w8 := by (repeat' first | exact Below.refl _ _ | assumption | (refine Below.andThen ?_ HB.out) | (exact HB.out.size) | (refine below_drewN ?_ _) | (refine Below.drew ?_) | (refine Below.alloc ?_ ?_ _) | (refine Below.setCell ?_ ?_ _) | (simp; done) | (simp; omega) | omega)
    replace F2 := has3 F2 hW
    replace BB := Lib.hid (Below.andThen BB.out hW)
    replace HT := Lib.hid (HT.out.next hW)
    clear hb hW HB
    go_wp2_with fail
    refine (HCo.out _ HT.out).mono ?_
    rintro e w9 ⟨rfl, hb⟩
    have HB := Lib.hid hb
    have hW : Below w8.heap.size w8 w9 := by (repeat' first | exact Below.refl _ _ | assumption | (refine Below.andThen ?_ HB.out) | (exact HB.out.size) | (refine below_drewN ?_ _) | (refine Below.drew ?_) | (refine Below.alloc ?_ ?_ _) | (refine Below.setCell ?_ ?_ _) | (simp; done) | (simp; omega) | omega)
    replace F2 := has3 F2 hW
    replace BB := Lib.hid (Below.andThen BB.out hW)
    replace HT := Lib.hid (HT.out.next hW)
    clear hb hW HB
    rcases HD.out with ⟨rfl, hD1⟩ | ⟨rfl, rfl, g1, g2, g3, g4, g5, g6, hD1⟩
    · clear HD
      go_wp2_with fail
      refine wp_region_kin (by kernel_rfl) (by kernel_rfl) (w9.heap.size) 1 (by first | assumption | (simp; done) | (simp; omega) | omega | (have := HS.out; omega)) (fun hk => ?_)
      repeat (go_big_quiet_step (fail))
      refine wpQuiet_nil ?_
      clear hk
      intro w10 hb
      have HB := Lib.hid hb
      have hW : Below w9.heap.size w9 w10 := by (repeat' first | exact Below.refl _ _ | assumption | (refine Below.andThen ?_ HB.out) | (exact HB.out.size) | (refine below_drewN ?_ _) | (refine Below.drew ?_) | (refine Below.alloc ?_ ?_ _) | (refine Below.setCell ?_ ?_ _) | (simp; done) | (simp; omega) | omega)
      replace F2 := has3 F2 hW
      replace BB := Lib.hid (Below.andThen BB.out hW)
      replace HT := Lib.hid (HT.out.next hW)
      clear hb hW HB
      go_wp2_with fail
      refine (same_below (HQ1.out _)).mono ?_
      rintro e w11 ⟨rfl, hb⟩
      have HB := Lib.hid hb
      have hW : Below w10.heap.size w10 w11 := by (repeat' first | exact Below.refl _ _ | assumption | (refine Below.andThen ?_ HB.out) | (exact HB.out.size) | (refine below_drewN ?_ _) | (refine Below.drew ?_) | (refine Below.alloc ?_ ?_ _) | (refine Below.setCell ?_ ?_ _) | (simp; done) | (simp; omega) | omega)
      replace F2 := has3 F2 hW
      replace BB := Lib.hid (Below.andThen BB.out hW)
      replace HT := Lib.hid (HT.out.next hW)
      clear hb hW HB
      go_wp2_with fail
      refine (same_below (HQ2.out _)).mono ?_
      rintro e w12 ⟨rfl, hb⟩
      have HB := Lib.hid hb
      have hW : Below w11.heap.size w11 w12 := by (repeat' first | exact Below.refl _ _ | assumption | (refine Below.andThen ?_ HB.out) | (exact HB.out.size) | (refine below_drewN ?_ _) | (refine Below.drew ?_) | (refine Below.alloc ?_ ?_ _) | (refine Below.setCell ?_ ?_ _) | (simp; done) | (simp; omega) | omega)
      replace F2 := has3 F2 hW
      replace BB := Lib.hid (Below.andThen BB.out hW)
      replace HT := Lib.hid (HT.out.next hW)
      clear hb hW HB
      go_wp2_with fail
      refine (HSh.out _ HT.out).mono ?_
      rintro e w13 ⟨rfl, hb⟩
      have HB := Lib.hid hb
      have hW : Below w12.heap.size w12 w13 := by (repeat' first | exact Below.refl _ _ | assumption | (refine Below.andThen ?_ HB.out) | (exact HB.out.size) | (refine below_drewN ?_ _) | (refine Below.drew ?_) | (refine Below.alloc ?_ ?_ _) | (refine Below.setCell ?_ ?_ _) | (simp; done) | (simp; omega) | omega)
      replace F2 := has3 F2 hW
      replace BB := Lib.hid (Below.andThen BB.out hW)
      replace HT := Lib.hid (HT.out.next hW)
      clear hb hW HB
      rcases HE.out with ⟨rfl, hE1⟩ | ⟨rfl, rfl, hE1⟩
      · clear HE
        go_wp2
        go_ret
        exact ⟨rfl, by (repeat' first | exact Below.refl _ _ | assumption | (refine Below.andThen ?_ BB.out) | (exact BB.out.size) | (refine below_drewN ?_ _) | (refine Below.drew ?_) | (refine Below.alloc ?_ ?_ _) | (refine Below.setCell ?_ ?_ _) | (simp; done) | (simp; omega) | omega)⟩
      · have HE2 := Lib.hid hE1
        clear HE hE1
        go_wp2_with fail
        refine (HE2.out _).mono ?_
        rintro e w14 ⟨rfl, hb⟩
        have HB := Lib.hid hb
        have hW : Below w13.heap.size w13 w14 := by (repeat' first | exact Below.refl _ _ | assumption | (refine Below.andThen ?_ HB.out) | (exact HB.out.size) | (refine below_drewN ?_ _) | (refine Below.drew ?_) | (refine Below.alloc ?_ ?_ _) | (refine Below.setCell ?_ ?_ _) | (simp; done) | (simp; omega) | omega)
        replace BB := Lib.hid (Below.andThen BB.out hW)
        replace HT := Lib.hid (HT.out.next hW)
        clear hb hW HB
        go_wp2
        go_ret
        exact ⟨rfl, by (repeat' first | exact Below.refl _ _ | assumption | (refine Below.andThen ?_ BB.out) | (exact BB.out.size) | (refine below_drewN ?_ _) | (refine Below.drew ?_) | (refine Below.alloc ?_ ?_ _) | (refine Below.setCell ?_ ?_ _) | (simp; done) | (simp; omega) | omega)⟩
    · have HD2 := Lib.hid hD1
      clear HD hD1
      go_wp2_with fail
      refine wp_region_kin (by kernel_rfl) (by kernel_rfl) (w9.heap.size) 1 (by first | assumption | (simp; done) | (simp; omega) | omega | (have := HS.out; omega)) (fun hk => ?_)
      repeat (go_big_quiet_step ((go_at_call 40; exact Calls.kin (HD2.out _))))
      refine wpQuiet_nil ?_
      clear hk
      intro w10 hb
      have HB := Lib.hid hb
      have hW : Below w9.heap.size w9 w10 := by (repeat' first | exact Below.refl _ _ | assumption | (refine Below.andThen ?_ HB.out) | (exact HB.out.size) | (refine below_drewN ?_ _) | (refine Below.drew ?_) | (refine Below.alloc ?_ ?_ _) | (refine Below.setCell ?_ ?_ _) | (simp; done) | (simp; omega) | omega)
      replace F2 := has3 F2 hW
      replace BB := Lib.hid (Below.andThen BB.out hW)
      replace HT := Lib.hid (HT.out.next hW)
      clear hb hW HB
      go_wp2_with fail
      refine (same_below (HQ1.out _)).mono ?_
      rintro e w11 ⟨rfl, hb⟩
      have HB := Lib.hid hb
      have hW : Below w10.heap.size w10 w11 := by (repeat' first | exact Below.refl _ _ | assumption | (refine Below.andThen ?_ HB.out) | (exact HB.out.size) | (refine below_drewN ?_ _) | (refine Below.drew ?_) | (refine Below.alloc ?_ ?_ _) | (refine Below.setCell ?_ ?_ _) | (simp; done) | (simp; omega) | omega)
      replace F2 := has3 F2 hW
      replace BB := Lib.hid (Below.andThen BB.out hW)
      replace HT := Lib.hid (HT.out.next hW)
      clear hb hW HB
      go_wp2_with fail
      refine (same_below (HQ2.out _)).mono ?_
      rintro e w12 ⟨rfl, hb⟩
      have HB := Lib.hid hb
      have hW : Below w11.heap.size w11 w12 := by (repeat' first | exact Below.refl _ _ | assumption | (refine Below.andThen ?_ HB.out) | (exact HB.out.size) | (refine below_drewN ?_ _) | (refine Below.drew ?_) | (refine Below.alloc ?_ ?_ _) | (refine Below.setCell ?_ ?_ _) | (simp; done) | (simp; omega) | omega)
      replace F2 := has3 F2 hW
      replace BB := Lib.hid (Below.andThen BB.out hW)
      replace HT := Lib.hid (HT.out.next hW)
      clear hb hW HB
      go_wp2_with fail
      refine (HSh.out _ HT.out).mono ?_
      rintro e w13 ⟨rfl, hb⟩
      have HB := Lib.hid hb
      have hW : Below w12.heap.size w12 w13 := by (repeat' first | exact Below.refl _ _ | assumption | (refine Below.andThen ?_ HB.out) | (exact HB.out.size) | (refine below_drewN ?_ _) | (refine Below.drew ?_) | (refine Below.alloc ?_ ?_ _) | (refine Below.setCell ?_ ?_ _) | (simp; done) | (simp; omega) | omega)
      replace F2 := has3 F2 hW
      replace BB := Lib.hid (Below.andThen BB.out hW)
      replace HT := Lib.hid (HT.out.next hW)
      clear hb hW HB
      rcases HE.out with ⟨rfl, hE1⟩ | ⟨rfl, rfl, hE1⟩
      · clear HE
        go_wp2
        go_ret
        exact ⟨rfl, by (repeat' first | exact Below.refl _ _ | assumption | (refine Below.andThen ?_ BB.out) | (exact BB.out.size) | (refine below_drewN ?_ _) | (refine Below.drew ?_) | (refine Below.alloc ?_ ?_ _) | (refine Below.setCell ?_ ?_ _) | (simp; done) | (simp; omega) | omega)⟩
      · have HE2 := Lib.hid hE1
        clear HE hE1
        go_wp2_with fail
        refine (HE2.out _).mono ?_
        rintro e w14 ⟨rfl, hb⟩
        have HB := Lib.hid hb
        have hW : Below w13.heap.size w13 w14 := by (repeat' first | exact Below.refl _ _ | assumption | (refine Below.andThen ?_ HB.out) | (exact HB.out.size) | (refine below_drewN ?_ _) | (refine Below.drew ?_) | (refine Below.alloc ?_ ?_ _) | (refine Below.setCell ?_ ?_ _) | (simp; done) | (simp; omega) | omega)
        replace BB := Lib.hid (Below.andThen BB.out hW)
        replace HT := Lib.hid (HT.out.next hW)
        clear hb hW HB
        go_wp2
        go_ret
        exact ⟨rfl, by (repeat' first | exact Below.refl _ _ | assumption | (refine Below.andThen ?_ BB.out) | (exact BB.out.size) | (refine below_drewN ?_ _) | (refine Below.drew ?_) | (refine Below.alloc ?_ ?_ _) | (refine Below.setCell ?_ ?_ _) | (simp; done) | (simp; omega) | omega)⟩
  · have HB2 := Lib.hid hB1
    clear HB1 hB1
    go_wp2_with fail
    refine (HB2.out _).mono ?_
    rintro e w7 ⟨rfl, hb⟩
    have HB := Lib.hid hb
    have hW : Below w6.heap.size w6 w7 := by (repeat' first | exact Below.refl _ _ | assumption | (refine Below.andThen ?_ HB.out) | (exact HB.out.size) | (refine below_drewN ?_ _) | (refine Below.drew ?_) | (refine Below.alloc ?_ ?_ _) | (refine Below.setCell ?_ ?_ _) | (simp; done) | (simp; omega) | omega)
    replace F2 := has3 F2 hW
    have F4 : Has3 w7 (w6.heap.size) (.int .i64 lb) (.int .i64 hb') (.int .i64 ub) := has3 ⟨(by first | (simp; done) | (simp; omega)), by go_simp, by go_simp, by go_simp⟩ hb
    replace BB := Lib.hid (Below.andThen BB.out hW)
    replace HT := Lib.hid (HT.out.next hW)
    clear hb hW HB
    go_wp2_with fail
    clear F4
    refine (HS.out _).mono ?_
    rintro e w8 ⟨rfl, hb⟩
    have HB := Lib.hid hb
    have hW : Below w7.heap.size w7 w8 := by (repeat' first | exact Below.refl _ _ | assumption | (refine Below.andThen ?_ HB.out) | (exact HB.out.size) | (refine below_drewN ?_ _) | (refine Below.drew ?_) | (refine Below.alloc ?_ ?_ _) | (refine Below.setCell ?_ ?_ _) | (simp; done) | (simp; omega) | omega)
    replace F2 := has3 F2 hW
    replace BB := Lib.hid (Below.andThen BB.out hW)
    replace HT := Lib.hid (HT.out.next hW)
    clear hb hW HB
    go_wp2_with fail
    refine (HCo.out _ HT.out).mono ?_
    rintro e w9 ⟨rfl, hb⟩
    have HB := Lib.hid hb
    have hW : Below w8.heap.size w8 w9 := by (repeat' first | exact Below.refl _ _ | assumption | (refine Below.andThen ?_ HB.out) | (exact HB.out.size) | (refine below_drewN ?_ _) | (refine Below.drew ?_) | (refine Below.alloc ?_ ?_ _) | (refine Below.setCell ?_ ?_ _) | (simp; done) | (simp; omega) | omega)
    replace F2 := has3 F2 hW
    replace BB := Lib.hid (Below.andThen BB.out hW)
    replace HT := Lib.hid (HT.out.next hW)
    clear hb hW HB
    rcases HD.out with ⟨rfl, hD1⟩ | ⟨rfl, rfl, g1, g2, g3, g4, g5, g6, hD1⟩
    · clear HD
      go_wp2_with fail
      refine wp_region_kin (by kernel_rfl) (by kernel_rfl) (w9.heap.size) 1 (by first | assumption | (simp; done) | (simp; omega) | omega | (have := HS.out; omega)) (fun hk => ?_)
      repeat (go_big_quiet_step (fail))
      refine wpQuiet_nil ?_
      clear hk
      intro w10 hb
      have HB := Lib.hid hb
      have hW : Below w9.heap.size w9 w10 := by (repeat' first | exact Below.refl _ _ | assumption | (refine Below.andThen ?_ HB.out) | (exact HB.out.size) | (refine below_drewN ?_ _) | (refine Below.drew ?_) | (refine Below.alloc ?_ ?_ _) | (refine Below.setCell ?_ ?_ _) | (simp; done) | (simp; omega) | omega)
      replace F2 := has3 F2 hW
      replace BB := Lib.hid (Below.andThen BB.out hW)
      replace HT := Lib.hid (HT.out.next hW)
      clear hb hW HB
      go_wp2_with fail
      refine (same_below (HQ1.out _)).mono ?_
      rintro e w11 ⟨rfl, hb⟩
      have HB := Lib.hid hb
      have hW : Below w10.heap.size w10 w11 := by (repeat' first | exact Below.refl _ _ | assumption | (refine Below.andThen ?_ HB.out) | (exact HB.out.size) | (refine below_drewN ?_ _) | (refine Below.drew ?_) | (refine Below.alloc ?_ ?_ _) | (refine Below.setCell ?_ ?_ _) | (simp; done) | (simp; omega) | omega)
      replace F2 := has3 F2 hW
      replace BB := Lib.hid (Below.andThen BB.out hW)
      replace HT := Lib.hid (HT.out.next hW)
      clear hb hW HB
      go_wp2_with fail
      refine (same_below (HQ2.out _)).mono ?_
      rintro e w12 ⟨rfl, hb⟩
      have HB := Lib.hid hb
      have hW : Below w11.heap.size w11 w12 := by (repeat' first | exact Below.refl _ _ | assumption | (refine Below.andThen ?_ HB.out) | (exact HB.out.size) | (refine below_drewN ?_ _) | (refine Below.drew ?_) | (refine Below.alloc ?_ ?_ _) | (refine Below.setCell ?_ ?_ _) | (simp; done) | (simp; omega) | omega)
      replace F2 := has3 F2 hW
      replace BB := Lib.hid (Below.andThen BB.out hW)
      replace HT := Lib.hid (HT.out.next hW)
      clear hb hW HB
      go_wp2_with fail
      refine (HSh.out _ HT.out).mono ?_
      rintro e w13 ⟨rfl, hb⟩
      have HB := Lib.hid hb
      have hW : Below w12.heap.size w12 w13 := by (repeat' first | exact Below.refl _ _ | assumption | (refine Below.andThen ?_ HB.out) | (exact HB.out.size) | (refine below_drewN ?_ _) | (refine Below.drew ?_) | (refine Below.alloc ?_ ?_ _) | (refine Below.setCell ?_ ?_ _) | (simp; done) | (simp; omega) | omega)
      replace F2 := has3 F2 hW
      replace BB := Lib.hid (Below.andThen BB.out hW)
      replace HT := Lib.hid (HT.out.next hW)
      clear hb hW HB
      rcases HE.out with ⟨rfl, hE1⟩ | ⟨rfl, rfl, hE1⟩
      · clear HE
        go_wp2
        go_ret
        exact ⟨rfl, by (repeat' first | exact Below.refl _ _ | assumption | (refine Below.andThen ?_ BB.out) | (exact BB.out.size) | (refine below_drewN ?_ _) | (refine Below.drew ?_) | (refine Below.alloc ?_ ?_ _) | (refine Below.setCell ?_ ?_ _) | (simp; done) | (simp; omega) | omega)⟩
      · have HE2 := Lib.hid hE1
        clear HE hE1
        go_wp2_with fail
        refine (HE2.out _).mono ?_
        rintro e w14 ⟨rfl, hb⟩
        have HB := Lib.hid hb
        have hW : Below w13.heap.size w13 w14 := by (repeat' first | exact Below.refl _ _ | assumption | (refine Below.andThen ?_ HB.out) | (exact HB.out.size) | (refine below_drewN ?_ _) | (refine Below.drew ?_) | (refine Below.alloc ?_ ?_ _) | (refine Below.setCell ?_ ?_ _) | (simp; done) | (simp; omega) | omega)
        replace BB := Lib.hid (Below.andThen BB.out hW)
        replace HT := Lib.hid (HT.out.next hW)
        clear hb hW HB
        go_wp2
        go_ret
        exact ⟨rfl, by (repeat' first | exact Below.refl _ _ | assumption | (refine Below.andThen ?_ BB.out) | (exact BB.out.size) | (refine below_drewN ?_ _) | (refine Below.drew ?_) | (refine Below.alloc ?_ ?_ _) | (refine Below.setCell ?_ ?_ _) | (simp; done) | (simp; omega) | omega)⟩
    · have HD2 := Lib.hid hD1
      clear HD hD1
      go_wp2_with fail
      refine wp_region_kin (by kernel_rfl) (by kernel_rfl) (w9.heap.size) 1 (by first | assumption | (simp; done) | (simp; omega) | omega | (have := HS.out; omega)) (fun hk => ?_)
      repeat (go_big_quiet_step ((go_at_call 40; exact Calls.kin (HD2.out _))))
      refine wpQuiet_nil ?_
      clear hk
      intro w10 hb
      have HB := Lib.hid hb
      have hW : Below w9.heap.size w9 w10 := by (repeat' first | exact Below.refl _ _ | assumption | (refine Below.andThen ?_ HB.out) | (exact HB.out.size) | (refine below_drewN ?_ _) | (refine Below.drew ?_) | (refine Below.alloc ?_ ?_ _) | (refine Below.setCell ?_ ?_ _) | (simp; done) | (simp; omega) | omega)
      replace F2 := has3 F2 hW
      replace BB := Lib.hid (Below.andThen BB.out hW)
      replace HT := Lib.hid (HT.out.next hW)
      clear hb hW HB
      go_wp2_with fail
      refine (same_below (HQ1.out _)).mono ?_
      rintro e w11 ⟨rfl, hb⟩
      have HB := Lib.hid hb
      have hW : Below w10.heap.size w10 w11 := by (repeat' first | exact Below.refl _ _ | assumption | (refine Below.andThen ?_ HB.out) | (exact HB.out.size) | (refine below_drewN ?_ _) | (refine Below.drew ?_) | (refine Below.alloc ?_ ?_ _) | (refine Below.setCell ?_ ?_ _) | (simp; done) | (simp; omega) | omega)
      replace F2 := has3 F2 hW
      replace BB := Lib.hid (Below.andThen BB.out hW)
      replace HT := Lib.hid (HT.out.next hW)
      clear hb hW HB
      go_wp2_with fail
      refine (same_below (HQ2.out _)).mono ?_
      rintro e w12 ⟨rfl, hb⟩
      have HB := Lib.hid hb
      have hW : Below w11.heap.size w11 w12 := by (repeat' first | exact Below.refl _ _ | assumption | (refine Below.andThen ?_ HB.out) | (exact HB.out.size) | (refine below_drewN ?_ _) | (refine Below.drew ?_) | (refine Below.alloc ?_ ?_ _) | (refine Below.setCell ?_ ?_ _) | (simp; done) | (simp; omega) | omega)
      replace F2 := has3 F2 hW
      replace BB := Lib.hid (Below.andThen BB.out hW)
      replace HT := Lib.hid (HT.out.next hW)
      clear hb hW HB
      go_wp2_with fail
      refine (HSh.out _ HT.out).mono ?_
      rintro e w13 ⟨rfl, hb⟩
      have HB := Lib.hid hb
      have hW : Below w12.heap.size w12 w13 := by (repeat' first | exact Below.refl _ _ | assumption | (refine Below.andThen ?_ HB.out) | (exact HB.out.size) | (refine below_drewN ?_ _) | (refine Below.drew ?_) | (refine Below.alloc ?_ ?_ _) | (refine Below.setCell ?_ ?_ _) | (simp; done) | (simp; omega) | omega)
      replace F2 := has3 F2 hW
      replace BB := Lib.hid (Below.andThen BB.out hW)
      replace HT := Lib.hid (HT.out.next hW)
      clear hb hW HB
      rcases HE.out with ⟨rfl, hE1⟩ | ⟨rfl, rfl, hE1⟩
      · clear HE
        go_wp2
        go_ret
        exact ⟨rfl, by (repeat' first | exact Below.refl _ _ | assumption | (refine Below.andThen ?_ BB.out) | (exact BB.out.size) | (refine below_drewN ?_ _) | (refine Below.drew ?_) | (refine Below.alloc ?_ ?_ _) | (refine Below.setCell ?_ ?_ _) | (simp; done) | (simp; omega) | omega)⟩
      · have HE2 := Lib.hid hE1
        clear HE hE1
        go_wp2_with fail
        refine (HE2.out _).mono ?_
        rintro e w14 ⟨rfl, hb⟩
        have HB := Lib.hid hb
        have hW : Below w13.heap.size w13 w14 := by (repeat' first | exact Below.refl _ _ | assumption | (refine Below.andThen ?_ HB.out) | (exact HB.out.size) | (refine below_drewN ?_ _) | (refine Below.drew ?_) | (refine Below.alloc ?_ ?_ _) | (refine Below.setCell ?_ ?_ _) | (simp; done) | (simp; omega) | omega)
        replace BB := Lib.hid (Below.andThen BB.out hW)
        replace HT := Lib.hid (HT.out.next hW)
        clear hb hW HB
        go_wp2
        go_ret
        exact ⟨rfl, by (repeat' first | exact Below.refl _ _ | assumption | (refine Below.andThen ?_ BB.out) | (exact BB.out.size) | (refine below_drewN ?_ _) | (refine Below.drew ?_) | (refine Below.alloc ?_ ?_ _) | (refine Below.setCell ?_ ?_ _) | (simp; done) | (simp; omega) | omega)⟩
end Go.Proofs.YtdldokhiefeloaaDoor
