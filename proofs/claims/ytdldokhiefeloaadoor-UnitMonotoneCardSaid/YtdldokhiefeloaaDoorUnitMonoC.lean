/- UnitMonotone: the walk, one of the four cases of the bounds' limits. -/
import Derived.Test.YtdldokhiefeloaaDoorUnitMonotone
namespace Go.Proofs.YtdldokhiefeloaaDoor
open Go.RowKit

set_option maxRecDepth 100000 in
set_option maxHeartbeats 1000000 in
theorem monotone_c (x0 x1 x2 le mo z0 z1 sz nn dd y0 y1 y2 lo hi u pl pm c e pb to tl th tu s p0 q0 l1 h1 u1 e1 l2 h2 u2 e2 l3 h3 u3 e3 l4 h4 u4 e4 l5 h5 u5 e5 l6 h6 u6 e6 l7 h7 u7 e7 l8 h8 u8 e8 : Int) (w : World) (T : Tab w)
    (hM : ∀ w, Calls Tryd.prog 16 #[.agg #[.int .i64 x0, .int .i64 x1, .int .i64 x2]] w fun r w' => r = .returned (.agg #[.int .i64 lo, .int .i64 hi, .int .i64 u]) ∧ Below w.heap.size w w')
    (hL : ∀ w, Calls Tryd.prog 24 #[.int .i64 le, .int .i64 500] w fun r w' => r = .returned (.int .i64 pl) ∧ w = w') (_l1' : 0 ≤ pl) (_l2' : pl ≤ 499)
    (hO : ∀ w, Calls Tryd.prog 24 #[.int .i64 mo, .int .i64 500] w fun r w' => r = .returned (.int .i64 pm) ∧ w = w') (_m1' : 0 ≤ pm) (_m2' : pm ≤ 499)
    (_ca : 0 < lo - pl) (_cb : 999999 ≤ hi + pm) (_b0 : 0 ≤ lo) (_b1 : lo ≤ hi) (_b2 : hi ≤ 999999)
    (hR : ∀ w, Calls Tryd.prog 23 #[.agg #[.int .i64 z0, .int .i64 z1]] w fun r w' => r = .returned (.agg #[.int .i64 c, .int .i64 e]) ∧ Below w.heap.size w w')
    (hPb : ∀ w, Calls Tryd.prog 24 #[.int .i64 sz, .int .i64 2] w fun r w' => r = .returned (.int .i64 pb) ∧ w = w')
    (hP : ∀ w, Calls Tryd.prog 38 #[.int .i64 u, .bool (decide (pb = 0))] w fun r w' => r = .returned (.int .i64 to) ∧ w = w')
    (hY : ∀ w, Calls Tryd.prog 16 #[.agg #[.int .i64 y0, .int .i64 y1, .int .i64 y2]] w fun r w' => r = .returned (.agg #[.int .i64 tl, .int .i64 th, .int .i64 tu]) ∧ Below w.heap.size w w')
    (k1 : ∀ w, Tab w → Calls Tryd.prog 25 #[.agg #[.int .i64 (lo - pl), .int .i64 (999999), .int .i64 u], .int .i64 to, .agg #[.int .i64 c, .int .i64 e]] w fun r w' => r = .returned (.tuple #[.agg #[.int .i64 l1, .int .i64 h1, .int .i64 u1], .int .i64 e1]) ∧ Below w.heap.size w w')
    (k2 : ∀ w, Tab w → Calls Tryd.prog 25 #[.agg #[.int .i64 lo, .int .i64 hi, .int .i64 u], .int .i64 to, .agg #[.int .i64 c, .int .i64 e]] w fun r w' => r = .returned (.tuple #[.agg #[.int .i64 l2, .int .i64 h2, .int .i64 u2], .int .i64 e2]) ∧ Below w.heap.size w w')
    (hS : ∀ w, Calls Tryd.prog 31 #[.int .i64 sz] w fun r w' => r = .returned (.int .i64 s) ∧ Below w.heap.size w w')
    (k3 : ∀ w, Tab w → Calls Tryd.prog 32 #[.agg #[.int .i64 (lo - pl), .int .i64 (999999), .int .i64 u], .int .i64 s] w fun r w' => r = .returned (.tuple #[.agg #[.int .i64 l3, .int .i64 h3, .int .i64 u3], .int .i64 e3]) ∧ Below w.heap.size w w')
    (k4 : ∀ w, Tab w → Calls Tryd.prog 32 #[.agg #[.int .i64 lo, .int .i64 hi, .int .i64 u], .int .i64 s] w fun r w' => r = .returned (.tuple #[.agg #[.int .i64 l4, .int .i64 h4, .int .i64 u4], .int .i64 e4]) ∧ Below w.heap.size w w')
    (hQ1 : ∀ w, Calls Tryd.prog 24 #[.int .i64 nn, .int .i64 1001] w fun r w' => r = .returned (.int .i64 p0) ∧ w = w')
    (hQ2 : ∀ w, Calls Tryd.prog 24 #[.int .i64 dd, .int .i64 1000] w fun r w' => r = .returned (.int .i64 q0) ∧ w = w') (_q1 : 0 ≤ q0) (_q2 : q0 ≤ 999)
    (k5 : ∀ w, Tab w → Calls Tryd.prog 34 #[.agg #[.int .i64 (lo - pl), .int .i64 (999999), .int .i64 u], .int .i64 p0, .int .i64 (1 + q0)] w fun r w' => r = .returned (.tuple #[.agg #[.int .i64 l5, .int .i64 h5, .int .i64 u5], .int .i64 e5]) ∧ Below w.heap.size w w')
    (k6 : ∀ w, Tab w → Calls Tryd.prog 34 #[.agg #[.int .i64 lo, .int .i64 hi, .int .i64 u], .int .i64 p0, .int .i64 (1 + q0)] w fun r w' => r = .returned (.tuple #[.agg #[.int .i64 l6, .int .i64 h6, .int .i64 u6], .int .i64 e6]) ∧ Below w.heap.size w w')
    (k7 : ∀ w, Tab w → Calls Tryd.prog 17 #[.agg #[.int .i64 (lo - pl), .int .i64 (999999), .int .i64 u], .agg #[.int .i64 tl, .int .i64 th, .int .i64 u]] w fun r w' => r = .returned (.tuple #[.agg #[.int .i64 l7, .int .i64 h7, .int .i64 u7], .int .i64 e7]) ∧ Below w.heap.size w w')
    (k8 : ∀ w, Tab w → Calls Tryd.prog 17 #[.agg #[.int .i64 lo, .int .i64 hi, .int .i64 u], .agg #[.int .i64 tl, .int .i64 th, .int .i64 u]] w fun r w' => r = .returned (.tuple #[.agg #[.int .i64 l8, .int .i64 h8, .int .i64 u8], .int .i64 e8]) ∧ Below w.heap.size w w')
    (g0 : ∀ w, Tab w → Calls Tryd.prog 21 #[.agg #[.int .i64 (lo - pl), .int .i64 (999999), .int .i64 u], .agg #[.int .i64 lo, .int .i64 hi, .int .i64 u]] w fun r w' => r = .returned (.bool true) ∧ Below w.heap.size w w')
    (g1 : e1 = 50 ∨ (e1 = 0 ∧ e2 = 0 ∧ ∀ w, Tab w → Calls Tryd.prog 21 #[.agg #[.int .i64 l1, .int .i64 h1, .int .i64 u1], .agg #[.int .i64 l2, .int .i64 h2, .int .i64 u2]] w fun r w' => r = .returned (.bool true) ∧ Below w.heap.size w w'))
    (g3 : e3 = 50 ∨ (e3 = 0 ∧ e4 = 0 ∧ ∀ w, Tab w → Calls Tryd.prog 21 #[.agg #[.int .i64 l3, .int .i64 h3, .int .i64 u3], .agg #[.int .i64 l4, .int .i64 h4, .int .i64 u4]] w fun r w' => r = .returned (.bool true) ∧ Below w.heap.size w w'))
    (g5 : e5 = 50 ∨ (e5 = 0 ∧ e6 = 0 ∧ ∀ w, Tab w → Calls Tryd.prog 21 #[.agg #[.int .i64 l5, .int .i64 h5, .int .i64 u5], .agg #[.int .i64 l6, .int .i64 h6, .int .i64 u6]] w fun r w' => r = .returned (.bool true) ∧ Below w.heap.size w w'))
    (g7 : e7 = 50 ∨ (e7 = 0 ∧ e8 = 0 ∧ ∀ w, Tab w → Calls Tryd.prog 21 #[.agg #[.int .i64 l7, .int .i64 h7, .int .i64 u7], .agg #[.int .i64 l8, .int .i64 h8, .int .i64 u8]] w fun r w' => r = .returned (.bool true) ∧ Below w.heap.size w w'))
    : Calls Tryd.prog 6 #[.agg #[.int .i64 x0, .int .i64 x1, .int .i64 x2], .int .i64 le, .int .i64 mo, .agg #[.int .i64 z0, .int .i64 z1], .int .i64 sz, .int .i64 nn, .int .i64 dd, .agg #[.int .i64 y0, .int .i64 y1, .int .i64 y2]] w fun r w' => r = .returned (.bool true) ∧ Below w.heap.size w w' := by
  replace hM := Lib.hid hM
  replace hL := Lib.hid hL
  replace hO := Lib.hid hO
  replace hR := Lib.hid hR
  replace hPb := Lib.hid hPb
  replace hP := Lib.hid hP
  replace hY := Lib.hid hY
  replace k1 := Lib.hid k1
  replace k2 := Lib.hid k2
  replace hS := Lib.hid hS
  replace k3 := Lib.hid k3
  replace k4 := Lib.hid k4
  replace hQ1 := Lib.hid hQ1
  replace hQ2 := Lib.hid hQ2
  replace k5 := Lib.hid k5
  replace k6 := Lib.hid k6
  replace k7 := Lib.hid k7
  replace k8 := Lib.hid k8
  replace g0 := Lib.hid g0
  replace g1 := Lib.hid g1
  replace g3 := Lib.hid g3
  replace g5 := Lib.hid g5
  replace g7 := Lib.hid g7
  have HT := Lib.hid T
  have BB := Lib.hid (Below.refl w.heap.size w)
  clear T
  go_enter Tryd.func6, Tryd.ntmps6
  go_wp2_with fail
  refine (sane_any _ (HT.out.next (by (repeat' first | exact Below.refl _ _ | assumption | (refine below_drewN ?_ _) | (refine Below.drew ?_) | (refine Below.alloc ?_ ?_ _) | (refine Below.setCell ?_ ?_ _) | (simp; done) | (simp; omega) | omega)))).mono ?_
  rintro e w1 ⟨rfl, hb⟩
  have HB := Lib.hid hb
  have hW : Below w.heap.size w w1 := by (repeat' first | exact Below.refl _ _ | assumption | (refine Below.andThen ?_ HB.out) | (exact HB.out.size) | (refine below_drewN ?_ _) | (refine Below.drew ?_) | (refine Below.alloc ?_ ?_ _) | (refine Below.setCell ?_ ?_ _) | (simp; done) | (simp; omega) | omega)
  have F0 : Has3 w1 (w.heap.size) (.int .i64 x0) (.int .i64 x1) (.int .i64 x2) := has3 ⟨(by first | (simp; done) | (simp; omega)), by go_simp, by go_simp, by go_simp⟩ hb
  have F1 : Has2 w1 (w.heap.size + 1) (.int .i64 z0) (.int .i64 z1) := has2 ⟨(by first | (simp; done) | (simp; omega)), by go_simp, by go_simp⟩ hb
  have F2 : Has3 w1 (w.heap.size + 2) (.int .i64 y0) (.int .i64 y1) (.int .i64 y2) := has3 ⟨(by first | (simp; done) | (simp; omega)), by go_simp, by go_simp, by go_simp⟩ hb
  replace BB := Lib.hid (Below.andThen BB.out hW)
  replace HT := Lib.hid (HT.out.next hW)
  clear hb hW HB
  go_wp2_with fail
  refine (hM.out _).mono ?_
  rintro e w2 ⟨rfl, hb⟩
  have HB := Lib.hid hb
  have hW : Below w1.heap.size w1 w2 := by (repeat' first | exact Below.refl _ _ | assumption | (refine Below.andThen ?_ HB.out) | (exact HB.out.size) | (refine below_drewN ?_ _) | (refine Below.drew ?_) | (refine Below.alloc ?_ ?_ _) | (refine Below.setCell ?_ ?_ _) | (simp; done) | (simp; omega) | omega)
  replace F1 := has2 F1 hW
  replace F2 := has3 F2 hW
  replace BB := Lib.hid (Below.andThen BB.out hW)
  replace HT := Lib.hid (HT.out.next hW)
  clear hb hW HB
  go_wp2_with fail
  refine wp_named fun w3 hw => ?_
  have hW : Below w2.heap.size w2 w3 := by rw [hw]; (repeat' first | exact Below.refl _ _ | assumption | (refine below_drewN ?_ _) | (refine Below.drew ?_) | (refine Below.alloc ?_ ?_ _) | (refine Below.setCell ?_ ?_ _) | (simp; done) | (simp; omega) | omega)
  replace F1 := has2 F1 hW
  replace F2 := has3 F2 hW
  have F3 : Has3 w3 (w2.heap.size) (.int .i64 lo) (.int .i64 hi) (.int .i64 u) := by rw [hw]; exact ⟨(by first | (simp; done) | (simp; omega)), by go_simp, by go_simp, by go_simp⟩
  replace BB := Lib.hid (Below.andThen BB.out hW)
  replace HT := Lib.hid (HT.out.next hW)
  clear hW hw
  refine wp_region_float 15 16 _ (.cells #[.int .i64 0, .int .i64 0, .int .i64 0] 23) (by kernel_rfl) (by kernel_rfl) rfl rfl (fun ρ w1 => by go_simp) (w3.heap.size) 0 (by first | assumption | (simp; done) | (simp; omega) | omega | (have := HS.out; omega)) (fun WW hk hWW => ?_)
  simp only [List.take_succ_cons, List.take_zero, List.drop_succ_cons, List.drop_zero, List.cons_append, List.nil_append]
  repeat (go_big_quiet_step ((go_at_call 24; first | (with_reducible exact Calls.kin_same (hL.out _)) | (with_reducible exact Calls.kin_same (hO.out _)))))
  refine wpQuiet_nil ?_
  clear hk hWW
  intro w4 ba hb hl ho
  obtain ⟨ocba, ofba⟩ := block_cells ho
  have osba := block_lt ho
  clear ho
  simp only [Act.put, List.setIfInBounds_toArray, List.set_cons_zero, List.set_cons_succ]
  have nbaF1 := ne2 F1 (show w3.heap.size ≤ ba by first | exact hl | (simp at hl; omega))
  have nbaF2 := ne3 F2 (show w3.heap.size ≤ ba by first | exact hl | (simp at hl; omega))
  have nbaF3 := ne3 F3 (show w3.heap.size ≤ ba by first | exact hl | (simp at hl; omega))
  have GF1 := F1
  have GF2 := F2
  have GF3 := F3
  have BB0 := BB
  have HT0 := HT
  have HB0 := Lib.hid hb
  have HL0 := Lib.hid hl
  have HB := Lib.hid hb
  have hW : Below w3.heap.size w3 w4 := by (repeat' first | exact Below.refl _ _ | assumption | (refine Below.andThen ?_ HB.out) | (exact HB.out.size) | (refine below_drewN ?_ _) | (refine Below.drew ?_) | (refine Below.alloc ?_ ?_ _) | (refine Below.setCell ?_ ?_ _) | (simp; done) | (simp; omega) | omega)
  replace F1 := has2 F1 hW
  replace F2 := has3 F2 hW
  replace F3 := has3 F3 hW
  replace BB := Lib.hid (Below.andThen BB.out hW)
  replace HT := Lib.hid (HT.out.next hW)
  clear hb hW HB hl
  go_wp2_with fail
  refine (hR.out _).mono ?_
  rintro e w5 ⟨rfl, hb⟩
  have hl := HL0.out
  have hb0 := HB0.out
  have HB := Lib.hid hb
  have hW : Below w3.heap.size w3 w5 := by (repeat' first | exact Below.refl _ _ | assumption | (refine Below.andThen ?_ HB.out) | (exact HB.out.size) | (refine below_drewN ?_ _) | (refine Below.drew ?_) | (refine Below.alloc ?_ ?_ _) | (refine Below.setCell ?_ ?_ _) | (simp; done) | (simp; omega) | omega)
  have F4 : Has3 w5 (ba) (.int .i64 (lo - pl)) (.int .i64 (999999)) (.int .i64 u) := has3 ⟨(by first | (simp; done) | (simp; omega)), by go_simp, by go_simp, by go_simp⟩ hb
  clear F1 nbaF1
  have F1 := has2 GF1 hW
  clear GF1
  clear F2 nbaF2
  have F2 := has3 GF2 hW
  clear GF2
  clear F3 nbaF3
  have F3 := has3 GF3 hW
  clear GF3
  clear BB HT
  have BB := Lib.hid (Below.andThen BB0.out hW)
  have HT := Lib.hid (HT0.out.next hW)
  clear hb hW HB hl hb0 BB0 HT0 HB0 HL0 ocba ofba osba
  go_wp2_with fail
  refine wp_region_kin (by kernel_rfl) (by kernel_rfl) (w5.heap.size) 1 (by first | assumption | (simp; done) | (simp; omega) | omega | (have := HS.out; omega)) (fun hk => ?_)
  repeat (go_big_quiet_step (first | (go_at_call 24; with_reducible exact Calls.kin_same (hPb.out _)) | (go_at_call 38; with_reducible exact Calls.kin_same (hP.out _))))
  refine wpQuiet_nil ?_
  clear hk
  intro w6 hb
  have HB := Lib.hid hb
  have hW : Below w5.heap.size w5 w6 := by (repeat' first | exact Below.refl _ _ | assumption | (refine Below.andThen ?_ HB.out) | (exact HB.out.size) | (refine below_drewN ?_ _) | (refine Below.drew ?_) | (refine Below.alloc ?_ ?_ _) | (refine Below.setCell ?_ ?_ _) | (simp; done) | (simp; omega) | omega)
  replace F2 := has3 F2 hW
  replace F3 := has3 F3 hW
  replace F4 := has3 F4 hW
  have F5 : Has2 w6 (w5.heap.size) (.int .i64 c) (.int .i64 e) := has2 ⟨(by first | (simp; done) | (simp; omega)), by go_simp, by go_simp⟩ hb
  replace BB := Lib.hid (Below.andThen BB.out hW)
  replace HT := Lib.hid (HT.out.next hW)
  clear hb hW HB
  go_wp2_with fail
  refine (hY.out _).mono ?_
  rintro e w7 ⟨rfl, hb⟩
  have HB := Lib.hid hb
  have hW : Below w6.heap.size w6 w7 := by (repeat' first | exact Below.refl _ _ | assumption | (refine Below.andThen ?_ HB.out) | (exact HB.out.size) | (refine below_drewN ?_ _) | (refine Below.drew ?_) | (refine Below.alloc ?_ ?_ _) | (refine Below.setCell ?_ ?_ _) | (simp; done) | (simp; omega) | omega)
  replace F3 := has3 F3 hW
  replace F4 := has3 F4 hW
  replace F5 := has2 F5 hW
  replace BB := Lib.hid (Below.andThen BB.out hW)
  replace HT := Lib.hid (HT.out.next hW)
  clear hb hW HB
  go_wp2_with fail
  refine (k1.out _ (HT.out.next (by (repeat' first | exact Below.refl _ _ | assumption | (refine below_drewN ?_ _) | (refine Below.drew ?_) | (refine Below.alloc ?_ ?_ _) | (refine Below.setCell ?_ ?_ _) | (simp; done) | (simp; omega) | omega)))).mono ?_
  rintro e w8 ⟨rfl, hb⟩
  have HB := Lib.hid hb
  have hW : Below w7.heap.size w7 w8 := by (repeat' first | exact Below.refl _ _ | assumption | (refine Below.andThen ?_ HB.out) | (exact HB.out.size) | (refine below_drewN ?_ _) | (refine Below.drew ?_) | (refine Below.alloc ?_ ?_ _) | (refine Below.setCell ?_ ?_ _) | (simp; done) | (simp; omega) | omega)
  replace F3 := has3 F3 hW
  replace F4 := has3 F4 hW
  replace F5 := has2 F5 hW
  have F6 : Has3 w8 (w7.heap.size) (.int .i64 tl) (.int .i64 th) (.int .i64 u) := has3 ⟨(by first | (simp; done) | (simp; omega)), by go_simp, by go_simp, by go_simp⟩ hb
  replace BB := Lib.hid (Below.andThen BB.out hW)
  replace HT := Lib.hid (HT.out.next hW)
  clear hb hW HB
  go_wp2_with fail
  refine (k2.out _ (HT.out.next (by (repeat' first | exact Below.refl _ _ | assumption | (refine below_drewN ?_ _) | (refine Below.drew ?_) | (refine Below.alloc ?_ ?_ _) | (refine Below.setCell ?_ ?_ _) | (simp; done) | (simp; omega) | omega)))).mono ?_
  rintro e w9 ⟨rfl, hb⟩
  have HB := Lib.hid hb
  have hW : Below w8.heap.size w8 w9 := by (repeat' first | exact Below.refl _ _ | assumption | (refine Below.andThen ?_ HB.out) | (exact HB.out.size) | (refine below_drewN ?_ _) | (refine Below.drew ?_) | (refine Below.alloc ?_ ?_ _) | (refine Below.setCell ?_ ?_ _) | (simp; done) | (simp; omega) | omega)
  replace F3 := has3 F3 hW
  replace F4 := has3 F4 hW
  replace F5 := has2 F5 hW
  replace F6 := has3 F6 hW
  have C1 : Has3 w9 (w8.heap.size) (.int .i64 l1) (.int .i64 h1) (.int .i64 u1) := has3 ⟨(by first | (simp; done) | (simp; omega)), by go_simp, by go_simp, by go_simp⟩ hb
  replace BB := Lib.hid (Below.andThen BB.out hW)
  replace HT := Lib.hid (HT.out.next hW)
  clear hb hW HB
  go_wp2_with fail
  refine wp_named fun w10 hw => ?_
  have hW : Below w9.heap.size w9 w10 := by rw [hw]; (repeat' first | exact Below.refl _ _ | assumption | (refine below_drewN ?_ _) | (refine Below.drew ?_) | (refine Below.alloc ?_ ?_ _) | (refine Below.setCell ?_ ?_ _) | (simp; done) | (simp; omega) | omega)
  replace F3 := has3 F3 hW
  replace F4 := has3 F4 hW
  replace F6 := has3 F6 hW
  replace C1 := has3 C1 hW
  have C2 : Has3 w10 (w9.heap.size) (.int .i64 l2) (.int .i64 h2) (.int .i64 u2) := by rw [hw]; exact ⟨(by first | (simp; done) | (simp; omega)), by go_simp, by go_simp, by go_simp⟩
  replace BB := Lib.hid (Below.andThen BB.out hW)
  replace HT := Lib.hid (HT.out.next hW)
  clear hW hw
  refine wp_region_late_float 6 [8] 7 8 _ (.cells #[.int .i64 0, .int .i64 0, .int .i64 0] 23) (by kernel_rfl) (by kernel_rfl) (fun dst _ _ _ _ h => by cases dst <;> exact h) (by kernel_rfl) (by kernel_rfl) rfl rfl (fun ρ w1 => by go_simp) (w10.heap.size) 0 (by first | assumption | (simp; done) | (simp; omega) | omega | (have := HS.out; omega)) (fun WW hk hWW => ?_)
  simp only [List.take_succ_cons, List.take_zero, List.drop_succ_cons, List.drop_zero, List.cons_append, List.nil_append]
  repeat (go_big_quiet_step (first | (go_at_call 31; with_reducible exact Calls.kin (hS.out _)) | (go_at_call 32; with_reducible exact Calls.kin (k3.out _ ((HT.out.next hWW).next (Kin.below _))))))
  refine wpQuiet_nil ?_
  clear hk hWW
  intro w11 bc hb hl ho
  obtain ⟨ocbc, ofbc⟩ := block_cells ho
  have osbc := block_lt ho
  clear ho
  simp only [Act.put, List.setIfInBounds_toArray, List.set_cons_zero, List.set_cons_succ]
  have nbcF3 := ne3 F3 (show w10.heap.size ≤ bc by first | exact hl | (simp at hl; omega))
  have nbcF4 := ne3 F4 (show w10.heap.size ≤ bc by first | exact hl | (simp at hl; omega))
  have nbcF6 := ne3 F6 (show w10.heap.size ≤ bc by first | exact hl | (simp at hl; omega))
  have nbcC1 := ne3 C1 (show w10.heap.size ≤ bc by first | exact hl | (simp at hl; omega))
  have nbcC2 := ne3 C2 (show w10.heap.size ≤ bc by first | exact hl | (simp at hl; omega))
  have GF3 := F3
  have GF4 := F4
  have GF6 := F6
  have GC1 := C1
  have GC2 := C2
  have BB0 := BB
  have HT0 := HT
  have HB0 := Lib.hid hb
  have HL0 := Lib.hid hl
  have HB := Lib.hid hb
  have hW : Below w10.heap.size w10 w11 := by (repeat' first | exact Below.refl _ _ | assumption | (refine Below.andThen ?_ HB.out) | (exact HB.out.size) | (refine below_drewN ?_ _) | (refine Below.drew ?_) | (refine Below.alloc ?_ ?_ _) | (refine Below.setCell ?_ ?_ _) | (simp; done) | (simp; omega) | omega)
  replace F3 := has3 F3 hW
  replace F4 := has3 F4 hW
  replace F6 := has3 F6 hW
  replace C1 := has3 C1 hW
  replace C2 := has3 C2 hW
  replace BB := Lib.hid (Below.andThen BB.out hW)
  replace HT := Lib.hid (HT.out.next hW)
  clear hb hW HB hl
  go_wp2_with fail
  refine wp_named fun w12 hw => ?_
  have hl := HL0.out
  have hb0 := HB0.out
  have hW : Below w10.heap.size w10 w12 := by rw [hw]; (repeat' first | exact Below.refl _ _ | assumption | (refine below_drewN ?_ _) | (refine Below.drew ?_) | (refine Below.alloc ?_ ?_ _) | (refine Below.setCell ?_ ?_ _) | (simp; done) | (simp; omega) | omega)
  have C3 : Has3 w12 (bc) (.int .i64 l3) (.int .i64 h3) (.int .i64 u3) := by rw [hw]; exact ⟨(by first | (simp; done) | (simp; omega)), by go_simp, by go_simp, by go_simp⟩
  clear F3 nbcF3
  have F3 := has3 GF3 hW
  clear GF3
  clear F4 nbcF4
  have F4 := has3 GF4 hW
  clear GF4
  clear F6 nbcF6
  have F6 := has3 GF6 hW
  clear GF6
  clear C1 nbcC1
  have C1 := has3 GC1 hW
  clear GC1
  clear C2 nbcC2
  have C2 := has3 GC2 hW
  clear GC2
  clear BB HT
  have BB := Lib.hid (Below.andThen BB0.out hW)
  have HT := Lib.hid (HT0.out.next hW)
  clear hw hW hl hb0 BB0 HT0 HB0 HL0 ocbc ofbc osbc
  refine wp_region_late_float 6 [8] 7 8 _ (.cells #[.int .i64 0, .int .i64 0, .int .i64 0] 23) (by kernel_rfl) (by kernel_rfl) (fun dst _ _ _ _ h => by cases dst <;> exact h) (by kernel_rfl) (by kernel_rfl) rfl rfl (fun ρ w1 => by go_simp) (w12.heap.size) 0 (by first | assumption | (simp; done) | (simp; omega) | omega | (have := HS.out; omega)) (fun WW hk hWW => ?_)
  simp only [List.take_succ_cons, List.take_zero, List.drop_succ_cons, List.drop_zero, List.cons_append, List.nil_append]
  repeat (go_big_quiet_step (first | (go_at_call 31; with_reducible exact Calls.kin (hS.out _)) | (go_at_call 32; with_reducible exact Calls.kin (k4.out _ ((HT.out.next hWW).next (Kin.below _))))))
  refine wpQuiet_nil ?_
  clear hk hWW
  intro w13 bd hb hl ho
  obtain ⟨ocbd, ofbd⟩ := block_cells ho
  have osbd := block_lt ho
  clear ho
  simp only [Act.put, List.setIfInBounds_toArray, List.set_cons_zero, List.set_cons_succ]
  have nbdF3 := ne3 F3 (show w12.heap.size ≤ bd by first | exact hl | (simp at hl; omega))
  have nbdF4 := ne3 F4 (show w12.heap.size ≤ bd by first | exact hl | (simp at hl; omega))
  have nbdF6 := ne3 F6 (show w12.heap.size ≤ bd by first | exact hl | (simp at hl; omega))
  have nbdC1 := ne3 C1 (show w12.heap.size ≤ bd by first | exact hl | (simp at hl; omega))
  have nbdC2 := ne3 C2 (show w12.heap.size ≤ bd by first | exact hl | (simp at hl; omega))
  have nbdC3 := ne3 C3 (show w12.heap.size ≤ bd by first | exact hl | (simp at hl; omega))
  have GF3 := F3
  have GF4 := F4
  have GF6 := F6
  have GC1 := C1
  have GC2 := C2
  have GC3 := C3
  have BB0 := BB
  have HT0 := HT
  have HB0 := Lib.hid hb
  have HL0 := Lib.hid hl
  have HB := Lib.hid hb
  have hW : Below w12.heap.size w12 w13 := by (repeat' first | exact Below.refl _ _ | assumption | (refine Below.andThen ?_ HB.out) | (exact HB.out.size) | (refine below_drewN ?_ _) | (refine Below.drew ?_) | (refine Below.alloc ?_ ?_ _) | (refine Below.setCell ?_ ?_ _) | (simp; done) | (simp; omega) | omega)
  replace F3 := has3 F3 hW
  replace F4 := has3 F4 hW
  replace F6 := has3 F6 hW
  replace C1 := has3 C1 hW
  replace C2 := has3 C2 hW
  replace C3 := has3 C3 hW
  replace BB := Lib.hid (Below.andThen BB.out hW)
  replace HT := Lib.hid (HT.out.next hW)
  clear hb hW HB hl
  go_wp2_with fail
  refine wp_named fun w14 hw => ?_
  have hl := HL0.out
  have hb0 := HB0.out
  have hW : Below w12.heap.size w12 w14 := by rw [hw]; (repeat' first | exact Below.refl _ _ | assumption | (refine below_drewN ?_ _) | (refine Below.drew ?_) | (refine Below.alloc ?_ ?_ _) | (refine Below.setCell ?_ ?_ _) | (simp; done) | (simp; omega) | omega)
  have C4 : Has3 w14 (bd) (.int .i64 l4) (.int .i64 h4) (.int .i64 u4) := by rw [hw]; exact ⟨(by first | (simp; done) | (simp; omega)), by go_simp, by go_simp, by go_simp⟩
  clear F3 nbdF3
  have F3 := has3 GF3 hW
  clear GF3
  clear F4 nbdF4
  have F4 := has3 GF4 hW
  clear GF4
  clear F6 nbdF6
  have F6 := has3 GF6 hW
  clear GF6
  clear C1 nbdC1
  have C1 := has3 GC1 hW
  clear GC1
  clear C2 nbdC2
  have C2 := has3 GC2 hW
  clear GC2
  clear C3 nbdC3
  have C3 := has3 GC3 hW
  clear GC3
  clear BB HT
  have BB := Lib.hid (Below.andThen BB0.out hW)
  have HT := Lib.hid (HT0.out.next hW)
  clear hw hW hl hb0 BB0 HT0 HB0 HL0 ocbd ofbd osbd
  refine wp_region_late_float 9 [11] 10 11 _ (.cells #[.int .i64 0, .int .i64 0, .int .i64 0] 23) (by kernel_rfl) (by kernel_rfl) (fun dst _ _ _ _ h => by cases dst <;> exact h) (by kernel_rfl) (by kernel_rfl) rfl rfl (fun ρ w1 => by go_simp) (w14.heap.size) 0 (by first | assumption | (simp; done) | (simp; omega) | omega | (have := HS.out; omega)) (fun WW hk hWW => ?_)
  simp only [List.take_succ_cons, List.take_zero, List.drop_succ_cons, List.drop_zero, List.cons_append, List.nil_append]
  repeat (go_big_quiet_step (first | (go_at_call 24; first | (with_reducible exact Calls.kin_same (hQ1.out _)) | (with_reducible exact Calls.kin_same (hQ2.out _))) | (go_at_call 34; with_reducible exact Calls.kin (k5.out _ ((HT.out.next hWW).next (Kin.below _))))))
  refine wpQuiet_nil ?_
  clear hk hWW
  intro w15 be hb hl ho
  obtain ⟨ocbe, ofbe⟩ := block_cells ho
  have osbe := block_lt ho
  clear ho
  simp only [Act.put, List.setIfInBounds_toArray, List.set_cons_zero, List.set_cons_succ]
  have nbeF3 := ne3 F3 (show w14.heap.size ≤ be by first | exact hl | (simp at hl; omega))
  have nbeF4 := ne3 F4 (show w14.heap.size ≤ be by first | exact hl | (simp at hl; omega))
  have nbeF6 := ne3 F6 (show w14.heap.size ≤ be by first | exact hl | (simp at hl; omega))
  have nbeC1 := ne3 C1 (show w14.heap.size ≤ be by first | exact hl | (simp at hl; omega))
  have nbeC2 := ne3 C2 (show w14.heap.size ≤ be by first | exact hl | (simp at hl; omega))
  have nbeC3 := ne3 C3 (show w14.heap.size ≤ be by first | exact hl | (simp at hl; omega))
  have nbeC4 := ne3 C4 (show w14.heap.size ≤ be by first | exact hl | (simp at hl; omega))
  have GF3 := F3
  have GF4 := F4
  have GF6 := F6
  have GC1 := C1
  have GC2 := C2
  have GC3 := C3
  have GC4 := C4
  have BB0 := BB
  have HT0 := HT
  have HB0 := Lib.hid hb
  have HL0 := Lib.hid hl
  have HB := Lib.hid hb
  have hW : Below w14.heap.size w14 w15 := by (repeat' first | exact Below.refl _ _ | assumption | (refine Below.andThen ?_ HB.out) | (exact HB.out.size) | (refine below_drewN ?_ _) | (refine Below.drew ?_) | (refine Below.alloc ?_ ?_ _) | (refine Below.setCell ?_ ?_ _) | (simp; done) | (simp; omega) | omega)
  replace F3 := has3 F3 hW
  replace F4 := has3 F4 hW
  replace F6 := has3 F6 hW
  replace C1 := has3 C1 hW
  replace C2 := has3 C2 hW
  replace C3 := has3 C3 hW
  replace C4 := has3 C4 hW
  replace BB := Lib.hid (Below.andThen BB.out hW)
  replace HT := Lib.hid (HT.out.next hW)
  clear hb hW HB hl
  go_wp2_with fail
  refine wp_named fun w16 hw => ?_
  have hl := HL0.out
  have hb0 := HB0.out
  have hW : Below w14.heap.size w14 w16 := by rw [hw]; (repeat' first | exact Below.refl _ _ | assumption | (refine below_drewN ?_ _) | (refine Below.drew ?_) | (refine Below.alloc ?_ ?_ _) | (refine Below.setCell ?_ ?_ _) | (simp; done) | (simp; omega) | omega)
  have C5 : Has3 w16 (be) (.int .i64 l5) (.int .i64 h5) (.int .i64 u5) := by rw [hw]; exact ⟨(by first | (simp; done) | (simp; omega)), by go_simp, by go_simp, by go_simp⟩
  clear F3 nbeF3
  have F3 := has3 GF3 hW
  clear GF3
  clear F4 nbeF4
  have F4 := has3 GF4 hW
  clear GF4
  clear F6 nbeF6
  have F6 := has3 GF6 hW
  clear GF6
  clear C1 nbeC1
  have C1 := has3 GC1 hW
  clear GC1
  clear C2 nbeC2
  have C2 := has3 GC2 hW
  clear GC2
  clear C3 nbeC3
  have C3 := has3 GC3 hW
  clear GC3
  clear C4 nbeC4
  have C4 := has3 GC4 hW
  clear GC4
  clear BB HT
  have BB := Lib.hid (Below.andThen BB0.out hW)
  have HT := Lib.hid (HT0.out.next hW)
  clear hw hW hl hb0 BB0 HT0 HB0 HL0 ocbe ofbe osbe
  refine wp_region_late_float 9 [11] 10 11 _ (.cells #[.int .i64 0, .int .i64 0, .int .i64 0] 23) (by kernel_rfl) (by kernel_rfl) (fun dst _ _ _ _ h => by cases dst <;> exact h) (by kernel_rfl) (by kernel_rfl) rfl rfl (fun ρ w1 => by go_simp) (w16.heap.size) 0 (by first | assumption | (simp; done) | (simp; omega) | omega | (have := HS.out; omega)) (fun WW hk hWW => ?_)
  simp only [List.take_succ_cons, List.take_zero, List.drop_succ_cons, List.drop_zero, List.cons_append, List.nil_append]
  repeat (go_big_quiet_step (first | (go_at_call 24; first | (with_reducible exact Calls.kin_same (hQ1.out _)) | (with_reducible exact Calls.kin_same (hQ2.out _))) | (go_at_call 34; with_reducible exact Calls.kin (k6.out _ ((HT.out.next hWW).next (Kin.below _))))))
  refine wpQuiet_nil ?_
  clear hk hWW
  intro w17 bf hb hl ho
  obtain ⟨ocbf, ofbf⟩ := block_cells ho
  have osbf := block_lt ho
  clear ho
  simp only [Act.put, List.setIfInBounds_toArray, List.set_cons_zero, List.set_cons_succ]
  have nbfF3 := ne3 F3 (show w16.heap.size ≤ bf by first | exact hl | (simp at hl; omega))
  have nbfF4 := ne3 F4 (show w16.heap.size ≤ bf by first | exact hl | (simp at hl; omega))
  have nbfF6 := ne3 F6 (show w16.heap.size ≤ bf by first | exact hl | (simp at hl; omega))
  have nbfC1 := ne3 C1 (show w16.heap.size ≤ bf by first | exact hl | (simp at hl; omega))
  have nbfC2 := ne3 C2 (show w16.heap.size ≤ bf by first | exact hl | (simp at hl; omega))
  have nbfC3 := ne3 C3 (show w16.heap.size ≤ bf by first | exact hl | (simp at hl; omega))
  have nbfC4 := ne3 C4 (show w16.heap.size ≤ bf by first | exact hl | (simp at hl; omega))
  have nbfC5 := ne3 C5 (show w16.heap.size ≤ bf by first | exact hl | (simp at hl; omega))
  have GF3 := F3
  have GF4 := F4
  have GF6 := F6
  have GC1 := C1
  have GC2 := C2
  have GC3 := C3
  have GC4 := C4
  have GC5 := C5
  have BB0 := BB
  have HT0 := HT
  have HB0 := Lib.hid hb
  have HL0 := Lib.hid hl
  have HB := Lib.hid hb
  have hW : Below w16.heap.size w16 w17 := by (repeat' first | exact Below.refl _ _ | assumption | (refine Below.andThen ?_ HB.out) | (exact HB.out.size) | (refine below_drewN ?_ _) | (refine Below.drew ?_) | (refine Below.alloc ?_ ?_ _) | (refine Below.setCell ?_ ?_ _) | (simp; done) | (simp; omega) | omega)
  replace F3 := has3 F3 hW
  replace F4 := has3 F4 hW
  replace F6 := has3 F6 hW
  replace C1 := has3 C1 hW
  replace C2 := has3 C2 hW
  replace C3 := has3 C3 hW
  replace C4 := has3 C4 hW
  replace C5 := has3 C5 hW
  replace BB := Lib.hid (Below.andThen BB.out hW)
  replace HT := Lib.hid (HT.out.next hW)
  clear hb hW HB hl
  go_wp2_with fail
  refine (k7.out _ (HT0.out.next (by have hl := HL0.out; (repeat' first | exact Below.refl _ _ | assumption | (refine Below.andThen ?_ HB0.out) | (exact HB0.out.size) | (refine below_drewN ?_ _) | (refine Below.drew ?_) | (refine Below.alloc ?_ ?_ _) | (refine Below.setCell ?_ ?_ _) | (simp; done) | (simp; omega) | omega)))).mono ?_
  rintro e w18 ⟨rfl, hb⟩
  have hl := HL0.out
  have hb0 := HB0.out
  have HB := Lib.hid hb
  have hW : Below w16.heap.size w16 w18 := by (repeat' first | exact Below.refl _ _ | assumption | (refine Below.andThen ?_ HB.out) | (exact HB.out.size) | (refine below_drewN ?_ _) | (refine Below.drew ?_) | (refine Below.alloc ?_ ?_ _) | (refine Below.setCell ?_ ?_ _) | (simp; done) | (simp; omega) | omega)
  have C6 : Has3 w18 (bf) (.int .i64 l6) (.int .i64 h6) (.int .i64 u6) := has3 ⟨(by first | (simp; done) | (simp; omega)), by go_simp, by go_simp, by go_simp⟩ hb
  clear F3 nbfF3
  have F3 := has3 GF3 hW
  clear GF3
  clear F4 nbfF4
  have F4 := has3 GF4 hW
  clear GF4
  clear F6 nbfF6
  have F6 := has3 GF6 hW
  clear GF6
  clear C1 nbfC1
  have C1 := has3 GC1 hW
  clear GC1
  clear C2 nbfC2
  have C2 := has3 GC2 hW
  clear GC2
  clear C3 nbfC3
  have C3 := has3 GC3 hW
  clear GC3
  clear C4 nbfC4
  have C4 := has3 GC4 hW
  clear GC4
  clear C5 nbfC5
  have C5 := has3 GC5 hW
  clear GC5
  clear BB HT
  have BB := Lib.hid (Below.andThen BB0.out hW)
  have HT := Lib.hid (HT0.out.next hW)
  clear hb hW HB hl hb0 BB0 HT0 HB0 HL0 ocbf ofbf osbf
  go_wp2_with fail
  refine (k8.out _ (HT.out.next (by (repeat' first | exact Below.refl _ _ | assumption | (refine below_drewN ?_ _) | (refine Below.drew ?_) | (refine Below.alloc ?_ ?_ _) | (refine Below.setCell ?_ ?_ _) | (simp; done) | (simp; omega) | omega)))).mono ?_
  rintro e w19 ⟨rfl, hb⟩
  have HB := Lib.hid hb
  have hW : Below w18.heap.size w18 w19 := by (repeat' first | exact Below.refl _ _ | assumption | (refine Below.andThen ?_ HB.out) | (exact HB.out.size) | (refine below_drewN ?_ _) | (refine Below.drew ?_) | (refine Below.alloc ?_ ?_ _) | (refine Below.setCell ?_ ?_ _) | (simp; done) | (simp; omega) | omega)
  replace F3 := has3 F3 hW
  replace F4 := has3 F4 hW
  replace F6 := has3 F6 hW
  replace C1 := has3 C1 hW
  replace C2 := has3 C2 hW
  replace C3 := has3 C3 hW
  replace C4 := has3 C4 hW
  replace C5 := has3 C5 hW
  replace C6 := has3 C6 hW
  have C7 : Has3 w19 (w18.heap.size) (.int .i64 l7) (.int .i64 h7) (.int .i64 u7) := has3 ⟨(by first | (simp; done) | (simp; omega)), by go_simp, by go_simp, by go_simp⟩ hb
  replace BB := Lib.hid (Below.andThen BB.out hW)
  replace HT := Lib.hid (HT.out.next hW)
  clear hb hW HB
  go_wp2_with fail
  clear F6
  refine (g0.out _ (HT.out.next (by (repeat' first | exact Below.refl _ _ | assumption | (refine below_drewN ?_ _) | (refine Below.drew ?_) | (refine Below.alloc ?_ ?_ _) | (refine Below.setCell ?_ ?_ _) | (simp; done) | (simp; omega) | omega)))).mono ?_
  rintro e w20 ⟨rfl, hb⟩
  have HB := Lib.hid hb
  have hW : Below w19.heap.size w19 w20 := by (repeat' first | exact Below.refl _ _ | assumption | (refine Below.andThen ?_ HB.out) | (exact HB.out.size) | (refine below_drewN ?_ _) | (refine Below.drew ?_) | (refine Below.alloc ?_ ?_ _) | (refine Below.setCell ?_ ?_ _) | (simp; done) | (simp; omega) | omega)
  replace C1 := has3 C1 hW
  replace C2 := has3 C2 hW
  replace C3 := has3 C3 hW
  replace C4 := has3 C4 hW
  replace C5 := has3 C5 hW
  replace C6 := has3 C6 hW
  replace C7 := has3 C7 hW
  have C8 : Has3 w20 (w19.heap.size) (.int .i64 l8) (.int .i64 h8) (.int .i64 u8) := has3 ⟨(by first | (simp; done) | (simp; omega)), by go_simp, by go_simp, by go_simp⟩ hb
  replace BB := Lib.hid (Below.andThen BB.out hW)
  replace HT := Lib.hid (HT.out.next hW)
  clear hb hW HB
  clear F3 F4
  rcases g1.out with rfl | ⟨rfl, rfl, q1⟩
  · clear g1
    rcases g3.out with rfl | ⟨rfl, rfl, q3⟩
    · clear g3
      rcases g5.out with rfl | ⟨rfl, rfl, q5⟩
      · clear g5
        rcases g7.out with rfl | ⟨rfl, rfl, q7⟩
        · clear g7
          go_wp2; go_ret; exact ⟨rfl, BB.out⟩
        · clear g7; have q7H := Lib.hid q7; clear q7
          go_wp2_with fail
          refine (q7H.out _ HT.out).mono ?_
          rintro e w21 ⟨rfl, hb⟩
          have HB := Lib.hid hb
          have hW : Below w20.heap.size w20 w21 := by (repeat' first | exact Below.refl _ _ | assumption | (refine Below.andThen ?_ HB.out) | (exact HB.out.size) | (refine below_drewN ?_ _) | (refine Below.drew ?_) | (refine Below.alloc ?_ ?_ _) | (refine Below.setCell ?_ ?_ _) | (simp; done) | (simp; omega) | omega)
          replace BB := Lib.hid (Below.andThen BB.out hW)
          replace HT := Lib.hid (HT.out.next hW)
          clear hb hW HB
          clear q7H
          go_wp2; go_ret; exact ⟨rfl, BB.out⟩
      · clear g5; have q5H := Lib.hid q5; clear q5
        go_wp2_with fail
        refine (q5H.out _ HT.out).mono ?_
        rintro e w21 ⟨rfl, hb⟩
        have HB := Lib.hid hb
        have hW : Below w20.heap.size w20 w21 := by (repeat' first | exact Below.refl _ _ | assumption | (refine Below.andThen ?_ HB.out) | (exact HB.out.size) | (refine below_drewN ?_ _) | (refine Below.drew ?_) | (refine Below.alloc ?_ ?_ _) | (refine Below.setCell ?_ ?_ _) | (simp; done) | (simp; omega) | omega)
        replace C7 := has3 C7 hW
        replace C8 := has3 C8 hW
        replace BB := Lib.hid (Below.andThen BB.out hW)
        replace HT := Lib.hid (HT.out.next hW)
        clear hb hW HB
        clear q5H
        rcases g7.out with rfl | ⟨rfl, rfl, q7⟩
        · clear g7
          go_wp2; go_ret; exact ⟨rfl, BB.out⟩
        · clear g7; have q7H := Lib.hid q7; clear q7
          go_wp2_with fail
          refine (q7H.out _ HT.out).mono ?_
          rintro e w22 ⟨rfl, hb⟩
          have HB := Lib.hid hb
          have hW : Below w21.heap.size w21 w22 := by (repeat' first | exact Below.refl _ _ | assumption | (refine Below.andThen ?_ HB.out) | (exact HB.out.size) | (refine below_drewN ?_ _) | (refine Below.drew ?_) | (refine Below.alloc ?_ ?_ _) | (refine Below.setCell ?_ ?_ _) | (simp; done) | (simp; omega) | omega)
          replace BB := Lib.hid (Below.andThen BB.out hW)
          replace HT := Lib.hid (HT.out.next hW)
          clear hb hW HB
          clear q7H
          go_wp2; go_ret; exact ⟨rfl, BB.out⟩
    · clear g3; have q3H := Lib.hid q3; clear q3
      go_wp2_with fail
      refine (q3H.out _ HT.out).mono ?_
      rintro e w21 ⟨rfl, hb⟩
      have HB := Lib.hid hb
      have hW : Below w20.heap.size w20 w21 := by (repeat' first | exact Below.refl _ _ | assumption | (refine Below.andThen ?_ HB.out) | (exact HB.out.size) | (refine below_drewN ?_ _) | (refine Below.drew ?_) | (refine Below.alloc ?_ ?_ _) | (refine Below.setCell ?_ ?_ _) | (simp; done) | (simp; omega) | omega)
      replace C5 := has3 C5 hW
      replace C6 := has3 C6 hW
      replace C7 := has3 C7 hW
      replace C8 := has3 C8 hW
      replace BB := Lib.hid (Below.andThen BB.out hW)
      replace HT := Lib.hid (HT.out.next hW)
      clear hb hW HB
      clear q3H
      rcases g5.out with rfl | ⟨rfl, rfl, q5⟩
      · clear g5
        rcases g7.out with rfl | ⟨rfl, rfl, q7⟩
        · clear g7
          go_wp2; go_ret; exact ⟨rfl, BB.out⟩
        · clear g7; have q7H := Lib.hid q7; clear q7
          go_wp2_with fail
          refine (q7H.out _ HT.out).mono ?_
          rintro e w22 ⟨rfl, hb⟩
          have HB := Lib.hid hb
          have hW : Below w21.heap.size w21 w22 := by (repeat' first | exact Below.refl _ _ | assumption | (refine Below.andThen ?_ HB.out) | (exact HB.out.size) | (refine below_drewN ?_ _) | (refine Below.drew ?_) | (refine Below.alloc ?_ ?_ _) | (refine Below.setCell ?_ ?_ _) | (simp; done) | (simp; omega) | omega)
          replace BB := Lib.hid (Below.andThen BB.out hW)
          replace HT := Lib.hid (HT.out.next hW)
          clear hb hW HB
          clear q7H
          go_wp2; go_ret; exact ⟨rfl, BB.out⟩
      · clear g5; have q5H := Lib.hid q5; clear q5
        go_wp2_with fail
        refine (q5H.out _ HT.out).mono ?_
        rintro e w22 ⟨rfl, hb⟩
        have HB := Lib.hid hb
        have hW : Below w21.heap.size w21 w22 := by (repeat' first | exact Below.refl _ _ | assumption | (refine Below.andThen ?_ HB.out) | (exact HB.out.size) | (refine below_drewN ?_ _) | (refine Below.drew ?_) | (refine Below.alloc ?_ ?_ _) | (refine Below.setCell ?_ ?_ _) | (simp; done) | (simp; omega) | omega)
        replace C7 := has3 C7 hW
        replace C8 := has3 C8 hW
        replace BB := Lib.hid (Below.andThen BB.out hW)
        replace HT := Lib.hid (HT.out.next hW)
        clear hb hW HB
        clear q5H
        rcases g7.out with rfl | ⟨rfl, rfl, q7⟩
        · clear g7
          go_wp2; go_ret; exact ⟨rfl, BB.out⟩
        · clear g7; have q7H := Lib.hid q7; clear q7
          go_wp2_with fail
          refine (q7H.out _ HT.out).mono ?_
          rintro e w23 ⟨rfl, hb⟩
          have HB := Lib.hid hb
          have hW : Below w22.heap.size w22 w23 := by (repeat' first | exact Below.refl _ _ | assumption | (refine Below.andThen ?_ HB.out) | (exact HB.out.size) | (refine below_drewN ?_ _) | (refine Below.drew ?_) | (refine Below.alloc ?_ ?_ _) | (refine Below.setCell ?_ ?_ _) | (simp; done) | (simp; omega) | omega)
          replace BB := Lib.hid (Below.andThen BB.out hW)
          replace HT := Lib.hid (HT.out.next hW)
          clear hb hW HB
          clear q7H
          go_wp2; go_ret; exact ⟨rfl, BB.out⟩
  · clear g1; have q1H := Lib.hid q1; clear q1
    go_wp2_with fail
    refine (q1H.out _ HT.out).mono ?_
    rintro e w21 ⟨rfl, hb⟩
    have HB := Lib.hid hb
    have hW : Below w20.heap.size w20 w21 := by (repeat' first | exact Below.refl _ _ | assumption | (refine Below.andThen ?_ HB.out) | (exact HB.out.size) | (refine below_drewN ?_ _) | (refine Below.drew ?_) | (refine Below.alloc ?_ ?_ _) | (refine Below.setCell ?_ ?_ _) | (simp; done) | (simp; omega) | omega)
    replace C3 := has3 C3 hW
    replace C4 := has3 C4 hW
    replace C5 := has3 C5 hW
    replace C6 := has3 C6 hW
    replace C7 := has3 C7 hW
    replace C8 := has3 C8 hW
    replace BB := Lib.hid (Below.andThen BB.out hW)
    replace HT := Lib.hid (HT.out.next hW)
    clear hb hW HB
    clear q1H
    rcases g3.out with rfl | ⟨rfl, rfl, q3⟩
    · clear g3
      rcases g5.out with rfl | ⟨rfl, rfl, q5⟩
      · clear g5
        rcases g7.out with rfl | ⟨rfl, rfl, q7⟩
        · clear g7
          go_wp2; go_ret; exact ⟨rfl, BB.out⟩
        · clear g7; have q7H := Lib.hid q7; clear q7
          go_wp2_with fail
          refine (q7H.out _ HT.out).mono ?_
          rintro e w22 ⟨rfl, hb⟩
          have HB := Lib.hid hb
          have hW : Below w21.heap.size w21 w22 := by (repeat' first | exact Below.refl _ _ | assumption | (refine Below.andThen ?_ HB.out) | (exact HB.out.size) | (refine below_drewN ?_ _) | (refine Below.drew ?_) | (refine Below.alloc ?_ ?_ _) | (refine Below.setCell ?_ ?_ _) | (simp; done) | (simp; omega) | omega)
          replace BB := Lib.hid (Below.andThen BB.out hW)
          replace HT := Lib.hid (HT.out.next hW)
          clear hb hW HB
          clear q7H
          go_wp2; go_ret; exact ⟨rfl, BB.out⟩
      · clear g5; have q5H := Lib.hid q5; clear q5
        go_wp2_with fail
        refine (q5H.out _ HT.out).mono ?_
        rintro e w22 ⟨rfl, hb⟩
        have HB := Lib.hid hb
        have hW : Below w21.heap.size w21 w22 := by (repeat' first | exact Below.refl _ _ | assumption | (refine Below.andThen ?_ HB.out) | (exact HB.out.size) | (refine below_drewN ?_ _) | (refine Below.drew ?_) | (refine Below.alloc ?_ ?_ _) | (refine Below.setCell ?_ ?_ _) | (simp; done) | (simp; omega) | omega)
        replace C7 := has3 C7 hW
        replace C8 := has3 C8 hW
        replace BB := Lib.hid (Below.andThen BB.out hW)
        replace HT := Lib.hid (HT.out.next hW)
        clear hb hW HB
        clear q5H
        rcases g7.out with rfl | ⟨rfl, rfl, q7⟩
        · clear g7
          go_wp2; go_ret; exact ⟨rfl, BB.out⟩
        · clear g7; have q7H := Lib.hid q7; clear q7
          go_wp2_with fail
          refine (q7H.out _ HT.out).mono ?_
          rintro e w23 ⟨rfl, hb⟩
          have HB := Lib.hid hb
          have hW : Below w22.heap.size w22 w23 := by (repeat' first | exact Below.refl _ _ | assumption | (refine Below.andThen ?_ HB.out) | (exact HB.out.size) | (refine below_drewN ?_ _) | (refine Below.drew ?_) | (refine Below.alloc ?_ ?_ _) | (refine Below.setCell ?_ ?_ _) | (simp; done) | (simp; omega) | omega)
          replace BB := Lib.hid (Below.andThen BB.out hW)
          replace HT := Lib.hid (HT.out.next hW)
          clear hb hW HB
          clear q7H
          go_wp2; go_ret; exact ⟨rfl, BB.out⟩
    · clear g3; have q3H := Lib.hid q3; clear q3
      go_wp2_with fail
      refine (q3H.out _ HT.out).mono ?_
      rintro e w22 ⟨rfl, hb⟩
      have HB := Lib.hid hb
      have hW : Below w21.heap.size w21 w22 := by (repeat' first | exact Below.refl _ _ | assumption | (refine Below.andThen ?_ HB.out) | (exact HB.out.size) | (refine below_drewN ?_ _) | (refine Below.drew ?_) | (refine Below.alloc ?_ ?_ _) | (refine Below.setCell ?_ ?_ _) | (simp; done) | (simp; omega) | omega)
      replace C5 := has3 C5 hW
      replace C6 := has3 C6 hW
      replace C7 := has3 C7 hW
      replace C8 := has3 C8 hW
      replace BB := Lib.hid (Below.andThen BB.out hW)
      replace HT := Lib.hid (HT.out.next hW)
      clear hb hW HB
      clear q3H
      rcases g5.out with rfl | ⟨rfl, rfl, q5⟩
      · clear g5
        rcases g7.out with rfl | ⟨rfl, rfl, q7⟩
        · clear g7
          go_wp2; go_ret; exact ⟨rfl, BB.out⟩
        · clear g7; have q7H := Lib.hid q7; clear q7
          go_wp2_with fail
          refine (q7H.out _ HT.out).mono ?_
          rintro e w23 ⟨rfl, hb⟩
          have HB := Lib.hid hb
          have hW : Below w22.heap.size w22 w23 := by (repeat' first | exact Below.refl _ _ | assumption | (refine Below.andThen ?_ HB.out) | (exact HB.out.size) | (refine below_drewN ?_ _) | (refine Below.drew ?_) | (refine Below.alloc ?_ ?_ _) | (refine Below.setCell ?_ ?_ _) | (simp; done) | (simp; omega) | omega)
          replace BB := Lib.hid (Below.andThen BB.out hW)
          replace HT := Lib.hid (HT.out.next hW)
          clear hb hW HB
          clear q7H
          go_wp2; go_ret; exact ⟨rfl, BB.out⟩
      · clear g5; have q5H := Lib.hid q5; clear q5
        go_wp2_with fail
        refine (q5H.out _ HT.out).mono ?_
        rintro e w23 ⟨rfl, hb⟩
        have HB := Lib.hid hb
        have hW : Below w22.heap.size w22 w23 := by (repeat' first | exact Below.refl _ _ | assumption | (refine Below.andThen ?_ HB.out) | (exact HB.out.size) | (refine below_drewN ?_ _) | (refine Below.drew ?_) | (refine Below.alloc ?_ ?_ _) | (refine Below.setCell ?_ ?_ _) | (simp; done) | (simp; omega) | omega)
        replace C7 := has3 C7 hW
        replace C8 := has3 C8 hW
        replace BB := Lib.hid (Below.andThen BB.out hW)
        replace HT := Lib.hid (HT.out.next hW)
        clear hb hW HB
        clear q5H
        rcases g7.out with rfl | ⟨rfl, rfl, q7⟩
        · clear g7
          go_wp2; go_ret; exact ⟨rfl, BB.out⟩
        · clear g7; have q7H := Lib.hid q7; clear q7
          go_wp2_with fail
          refine (q7H.out _ HT.out).mono ?_
          rintro e w24 ⟨rfl, hb⟩
          have HB := Lib.hid hb
          have hW : Below w23.heap.size w23 w24 := by (repeat' first | exact Below.refl _ _ | assumption | (refine Below.andThen ?_ HB.out) | (exact HB.out.size) | (refine below_drewN ?_ _) | (refine Below.drew ?_) | (refine Below.alloc ?_ ?_ _) | (refine Below.setCell ?_ ?_ _) | (simp; done) | (simp; omega) | omega)
          replace BB := Lib.hid (Below.andThen BB.out hW)
          replace HT := Lib.hid (HT.out.next hW)
          clear hb hW HB
          clear q7H
          go_wp2; go_ret; exact ⟨rfl, BB.out⟩
end Go.Proofs.YtdldokhiefeloaaDoor
