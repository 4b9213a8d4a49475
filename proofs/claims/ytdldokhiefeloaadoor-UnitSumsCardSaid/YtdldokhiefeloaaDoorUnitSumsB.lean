/- UnitSums: the walk, where the first sum is valid. -/
import Derived.Test.YtdldokhiefeloaaDoorUnitSums
import Derived.Test.YtdldokhiefeloaaDoorFree
import Derived.Deep.DeepCutAuto
namespace Go.Proofs.YtdldokhiefeloaaDoor
open Go.RowKit

set_option maxRecDepth 100000 in
set_option maxHeartbeats 16000000 in
theorem sums_walkB (x0 x1 x2 y0 y1 y2 z0 z1 z2 r0 r1 a b x y ux c d uc u rc re tq l1 h1 uz1 e1 l3 h3 uz3 e3 l5 h5 uz5 e5 l6 h6 uz6 e6 l7 h7 uz7 e7 l8 h8 uz8 e8 l9 h9 uz9 e9 : Int) (w : World) (T : Tab w)
    (hM1 : ∀ w, Calls Tryd.prog 16 #[.agg #[.int .i64 x0, .int .i64 x1, .int .i64 x2]] w fun r w' => r = .returned (.agg #[.int .i64 a, .int .i64 b, .int .i64 u]) ∧ Below w.heap.size w w')
    (hM2 : ∀ w, Calls Tryd.prog 16 #[.agg #[.int .i64 y0, .int .i64 y1, .int .i64 y2]] w fun r w' => r = .returned (.agg #[.int .i64 x, .int .i64 y, .int .i64 ux]) ∧ Below w.heap.size w w')
    (hM3 : ∀ w, Calls Tryd.prog 16 #[.agg #[.int .i64 z0, .int .i64 z1, .int .i64 z2]] w fun r w' => r = .returned (.agg #[.int .i64 c, .int .i64 d, .int .i64 uc]) ∧ Below w.heap.size w w')
    (hR : ∀ w, Calls Tryd.prog 23 #[.agg #[.int .i64 r0, .int .i64 r1]] w fun r w' => r = .returned (.agg #[.int .i64 rc, .int .i64 re]) ∧ Below w.heap.size w w')
    (hP : ∀ w, Calls Tryd.prog 38 #[.int .i64 u, .bool true] w fun r w' => r = .returned (.int .i64 tq) ∧ w = w')
    (k1 : ∀ w, Tab w → Calls Tryd.prog 17 #[.agg #[.int .i64 a, .int .i64 b, .int .i64 u], .agg #[.int .i64 x, .int .i64 y, .int .i64 u]] w fun r w' => r = .returned (.tuple #[.agg #[.int .i64 l1, .int .i64 h1, .int .i64 uz1], .int .i64 e1]) ∧ Below w.heap.size w w')
    (k2 : ∀ w, Tab w → Calls Tryd.prog 17 #[.agg #[.int .i64 x, .int .i64 y, .int .i64 u], .agg #[.int .i64 a, .int .i64 b, .int .i64 u]] w fun r w' => r = .returned (.tuple #[.agg #[.int .i64 l1, .int .i64 h1, .int .i64 uz1], .int .i64 e1]) ∧ Below w.heap.size w w')
    (k3 : ∀ w, Tab w → Calls Tryd.prog 17 #[.agg #[.int .i64 x, .int .i64 y, .int .i64 u], .agg #[.int .i64 c, .int .i64 d, .int .i64 u]] w fun r w' => r = .returned (.tuple #[.agg #[.int .i64 l3, .int .i64 h3, .int .i64 uz3], .int .i64 e3]) ∧ Below w.heap.size w w')
    (k5 : ∀ w, Tab w → Calls Tryd.prog 25 #[.agg #[.int .i64 a, .int .i64 b, .int .i64 u], .int .i64 tq, .agg #[.int .i64 rc, .int .i64 re]] w fun r w' => r = .returned (.tuple #[.agg #[.int .i64 l5, .int .i64 h5, .int .i64 uz5], .int .i64 e5]) ∧ Below w.heap.size w w')
    (k6 : ∀ w, Tab w → Calls Tryd.prog 25 #[.agg #[.int .i64 x, .int .i64 y, .int .i64 u], .int .i64 tq, .agg #[.int .i64 rc, .int .i64 re]] w fun r w' => r = .returned (.tuple #[.agg #[.int .i64 l6, .int .i64 h6, .int .i64 uz6], .int .i64 e6]) ∧ Below w.heap.size w w')
    (k7 : ∀ w, Tab w → Calls Tryd.prog 25 #[.agg #[.int .i64 l1, .int .i64 h1, .int .i64 uz1], .int .i64 tq, .agg #[.int .i64 rc, .int .i64 re]] w fun r w' => r = .returned (.tuple #[.agg #[.int .i64 l7, .int .i64 h7, .int .i64 uz7], .int .i64 e7]) ∧ Below w.heap.size w w')
    (k8 : ∀ w, Tab w → Calls Tryd.prog 17 #[.agg #[.int .i64 l5, .int .i64 h5, .int .i64 uz5], .agg #[.int .i64 l6, .int .i64 h6, .int .i64 uz6]] w fun r w' => r = .returned (.tuple #[.agg #[.int .i64 l8, .int .i64 h8, .int .i64 uz8], .int .i64 e8]) ∧ Below w.heap.size w w')
    (k9 : ∀ w, Tab w → Calls Tryd.prog 19 #[.agg #[.int .i64 a, .int .i64 b, .int .i64 u], .agg #[.int .i64 x, .int .i64 y, .int .i64 u]] w fun r w' => r = .returned (.tuple #[.agg #[.int .i64 l9, .int .i64 h9, .int .i64 uz9], .int .i64 e9]) ∧ Below w.heap.size w w')
    (k10 : ∀ w, Tab w → Calls Tryd.prog 19 #[.agg #[.int .i64 x, .int .i64 y, .int .i64 u], .agg #[.int .i64 a, .int .i64 b, .int .i64 u]] w fun r w' => r = .returned (.tuple #[.agg #[.int .i64 l9, .int .i64 h9, .int .i64 uz9], .int .i64 e9]) ∧ Below w.heap.size w w')
    (k11 : ∀ w, Tab w → Calls Tryd.prog 19 #[.agg #[.int .i64 a, .int .i64 b, .int .i64 u], .agg #[.int .i64 a, .int .i64 b, .int .i64 u]] w fun r w' => r = .returned (.tuple #[.agg #[.int .i64 a, .int .i64 b, .int .i64 u], .int .i64 0]) ∧ Below w.heap.size w w')
    (g1 : e1 = 0 ∧ b + y ≤ 999999 ∧ (e3 = 50 ∨ (e3 = 0 ∧ ∃ L H U E, (∀ w, Tab w → Calls Tryd.prog 17 #[.agg #[.int .i64 l1, .int .i64 h1, .int .i64 uz1], .agg #[.int .i64 c, .int .i64 d, .int .i64 u]] w fun r w' => r = .returned (.tuple #[.agg #[.int .i64 L, .int .i64 H, .int .i64 U], .int .i64 E]) ∧ Below w.heap.size w w') ∧ (∀ w, Tab w → Calls Tryd.prog 17 #[.agg #[.int .i64 a, .int .i64 b, .int .i64 u], .agg #[.int .i64 l3, .int .i64 h3, .int .i64 uz3]] w fun r w' => r = .returned (.tuple #[.agg #[.int .i64 L, .int .i64 H, .int .i64 U], .int .i64 E]) ∧ Below w.heap.size w w'))) ∧ (e5 = 50 ∨ (e5 = 0 ∧ (e6 = 50 ∨ (e6 = 0 ∧ (e8 = 50 ∨ (e8 = 0 ∧ e7 = 0 ∧ ∀ w, Tab w → Calls Tryd.prog 21 #[.agg #[.int .i64 l8, .int .i64 h8, .int .i64 uz8], .agg #[.int .i64 l7, .int .i64 h7, .int .i64 uz7]] w fun r w' => r = .returned (.bool true) ∧ Below w.heap.size w w')))))))
    (g9 : (e9 = 50 ∧ min b y < max a x) ∨ (e9 = 0 ∧ max a x ≤ min b y ∧ ∃ l12 h12 uz12 e12 l13 h13 uz13 e13, (∀ w, Tab w → Calls Tryd.prog 19 #[.agg #[.int .i64 l9, .int .i64 h9, .int .i64 uz9], .agg #[.int .i64 c, .int .i64 d, .int .i64 u]] w fun r w' => r = .returned (.tuple #[.agg #[.int .i64 l12, .int .i64 h12, .int .i64 uz12], .int .i64 e12]) ∧ Below w.heap.size w w') ∧ (∀ w, Tab w → Calls Tryd.prog 19 #[.agg #[.int .i64 x, .int .i64 y, .int .i64 u], .agg #[.int .i64 c, .int .i64 d, .int .i64 u]] w fun r w' => r = .returned (.tuple #[.agg #[.int .i64 l13, .int .i64 h13, .int .i64 uz13], .int .i64 e13]) ∧ Below w.heap.size w w') ∧ (e13 = 50 ∨ (e13 = 0 ∧ (∀ w, Tab w → Calls Tryd.prog 19 #[.agg #[.int .i64 a, .int .i64 b, .int .i64 u], .agg #[.int .i64 l13, .int .i64 h13, .int .i64 uz13]] w fun r w' => r = .returned (.tuple #[.agg #[.int .i64 l12, .int .i64 h12, .int .i64 uz12], .int .i64 e12]) ∧ Below w.heap.size w w'))) ∧ (∀ w, Tab w → Calls Tryd.prog 21 #[.agg #[.int .i64 a, .int .i64 b, .int .i64 u], .agg #[.int .i64 l9, .int .i64 h9, .int .i64 uz9]] w fun r w' => r = .returned (.bool true) ∧ Below w.heap.size w w') ∧ (∀ w, Tab w → Calls Tryd.prog 21 #[.agg #[.int .i64 x, .int .i64 y, .int .i64 u], .agg #[.int .i64 l9, .int .i64 h9, .int .i64 uz9]] w fun r w' => r = .returned (.bool true) ∧ Below w.heap.size w w') ∧ ((∀ w, Tab w → Calls Tryd.prog 21 #[.agg #[.int .i64 a, .int .i64 b, .int .i64 u], .agg #[.int .i64 c, .int .i64 d, .int .i64 u]] w fun r w' => r = .returned (.bool false) ∧ Below w.heap.size w w') ∨ ((∀ w, Tab w → Calls Tryd.prog 21 #[.agg #[.int .i64 a, .int .i64 b, .int .i64 u], .agg #[.int .i64 c, .int .i64 d, .int .i64 u]] w fun r w' => r = .returned (.bool true) ∧ Below w.heap.size w w') ∧ (∀ w, Tab w → Calls Tryd.prog 21 #[.agg #[.int .i64 x, .int .i64 y, .int .i64 u], .agg #[.int .i64 c, .int .i64 d, .int .i64 u]] w fun r w' => r = .returned (.bool false) ∧ Below w.heap.size w w')) ∨ ((∀ w, Tab w → Calls Tryd.prog 21 #[.agg #[.int .i64 a, .int .i64 b, .int .i64 u], .agg #[.int .i64 c, .int .i64 d, .int .i64 u]] w fun r w' => r = .returned (.bool true) ∧ Below w.heap.size w w') ∧ (∀ w, Tab w → Calls Tryd.prog 21 #[.agg #[.int .i64 x, .int .i64 y, .int .i64 u], .agg #[.int .i64 c, .int .i64 d, .int .i64 u]] w fun r w' => r = .returned (.bool true) ∧ Below w.heap.size w w') ∧ (∀ w, Tab w → Calls Tryd.prog 21 #[.agg #[.int .i64 l9, .int .i64 h9, .int .i64 uz9], .agg #[.int .i64 c, .int .i64 d, .int .i64 u]] w fun r w' => r = .returned (.bool true) ∧ Below w.heap.size w w')))))
    (b1 : 0 ≤ b) (b2 : b ≤ 999999) (b3 : 0 ≤ y) (b4 : y ≤ 999999) :
    Calls Tryd.prog 7 #[.agg #[.int .i64 x0, .int .i64 x1, .int .i64 x2], .agg #[.int .i64 y0, .int .i64 y1, .int .i64 y2], .agg #[.int .i64 z0, .int .i64 z1, .int .i64 z2], .agg #[.int .i64 r0, .int .i64 r1]] w fun r w' => r = .returned (.bool true) ∧ Below w.heap.size w w' := by
  replace hM1 := Lib.hid hM1
  replace hM2 := Lib.hid hM2
  replace hM3 := Lib.hid hM3
  replace hR := Lib.hid hR
  replace hP := Lib.hid hP
  replace k1 := Lib.hid k1
  replace k2 := Lib.hid k2
  replace k3 := Lib.hid k3
  replace k5 := Lib.hid k5
  replace k6 := Lib.hid k6
  replace k7 := Lib.hid k7
  replace k8 := Lib.hid k8
  replace k9 := Lib.hid k9
  replace k10 := Lib.hid k10
  replace k11 := Lib.hid k11
  replace g1 := Lib.hid g1
  replace g9 := Lib.hid g9
  have HT := Lib.hid T
  have BB := Lib.hid (Below.refl w.heap.size w)
  clear T
  go_enter Tryd.func7, Tryd.ntmps7
  go_wp2_with fail
  refine (sane_any _ (HT.out.next (by (repeat' first | exact Below.refl _ _ | assumption | (refine below_drewN ?_ _) | (refine Below.drew ?_) | (refine Below.alloc ?_ ?_ _) | (refine Below.setCell ?_ ?_ _) | (simp; done) | (simp; omega) | omega)))).mono ?_
  rintro e w1 ⟨rfl, hb⟩
  have HB := Lib.hid hb
  have hW : Below w.heap.size w w1 := by (repeat' first | exact Below.refl _ _ | assumption | (refine Below.andThen ?_ HB.out) | (exact HB.out.size) | (refine below_drewN ?_ _) | (refine Below.drew ?_) | (refine Below.alloc ?_ ?_ _) | (refine Below.setCell ?_ ?_ _) | (simp; done) | (simp; omega) | omega)
  have F0 : Has3 w1 (w.heap.size) (.int .i64 x0) (.int .i64 x1) (.int .i64 x2) := has3 ⟨(by first | (simp; done) | (simp; omega)), by go_simp, by go_simp, by go_simp⟩ hb
  have F1 : Has3 w1 (w.heap.size + 1) (.int .i64 y0) (.int .i64 y1) (.int .i64 y2) := has3 ⟨(by first | (simp; done) | (simp; omega)), by go_simp, by go_simp, by go_simp⟩ hb
  have F2 : Has3 w1 (w.heap.size + 2) (.int .i64 z0) (.int .i64 z1) (.int .i64 z2) := has3 ⟨(by first | (simp; done) | (simp; omega)), by go_simp, by go_simp, by go_simp⟩ hb
  have F3 : Has2 w1 (w.heap.size + 3) (.int .i64 r0) (.int .i64 r1) := has2 ⟨(by first | (simp; done) | (simp; omega)), by go_simp, by go_simp⟩ hb
  replace BB := Lib.hid (Below.andThen BB.out hW)
  replace HT := Lib.hid (HT.out.next hW)
  clear hb hW HB
  go_wp2_with fail
  refine (hM1.out _).mono ?_
  rintro e w2 ⟨rfl, hb⟩
  have HB := Lib.hid hb
  have hW : Below w1.heap.size w1 w2 := by (repeat' first | exact Below.refl _ _ | assumption | (refine Below.andThen ?_ HB.out) | (exact HB.out.size) | (refine below_drewN ?_ _) | (refine Below.drew ?_) | (refine Below.alloc ?_ ?_ _) | (refine Below.setCell ?_ ?_ _) | (simp; done) | (simp; omega) | omega)
  replace F1 := has3 F1 hW
  replace F2 := has3 F2 hW
  replace F3 := has2 F3 hW
  replace BB := Lib.hid (Below.andThen BB.out hW)
  replace HT := Lib.hid (HT.out.next hW)
  clear hb hW HB
  go_wp2_with fail
  refine (hM2.out _).mono ?_
  rintro e w3 ⟨rfl, hb⟩
  have HB := Lib.hid hb
  have hW : Below w2.heap.size w2 w3 := by (repeat' first | exact Below.refl _ _ | assumption | (refine Below.andThen ?_ HB.out) | (exact HB.out.size) | (refine below_drewN ?_ _) | (refine Below.drew ?_) | (refine Below.alloc ?_ ?_ _) | (refine Below.setCell ?_ ?_ _) | (simp; done) | (simp; omega) | omega)
  replace F2 := has3 F2 hW
  replace F3 := has2 F3 hW
  have A1 : Has3 w3 (w2.heap.size) (.int .i64 a) (.int .i64 b) (.int .i64 u) := has3 ⟨(by first | (simp; done) | (simp; omega)), by go_simp, by go_simp, by go_simp⟩ hb
  replace BB := Lib.hid (Below.andThen BB.out hW)
  replace HT := Lib.hid (HT.out.next hW)
  clear hb hW HB
  go_wp2_with fail
  have n21 : w3.heap.size ≠ w2.heap.size := Nat.ne_of_gt A1.1
  have GF3 := F3
  have GA1 := A1
  have BB0 := BB
  have HT0 := HT
  refine (hM3.out _).mono ?_
  rintro e w4 ⟨rfl, hb⟩
  have HB := Lib.hid hb
  have hW : Below w3.heap.size w3 w4 := by (repeat' first | exact Below.refl _ _ | assumption | (refine Below.andThen ?_ HB.out) | (exact HB.out.size) | (refine below_drewN ?_ _) | (refine Below.drew ?_) | (refine Below.alloc ?_ ?_ _) | (refine Below.setCell ?_ ?_ _) | (simp; done) | (simp; omega) | omega)
  replace F3 := has2 F3 hW
  replace A1 := has3 A1 hW
  have A2 : Has3 w4 (w3.heap.size) (.int .i64 x) (.int .i64 y) (.int .i64 ux) := has3 ⟨(by first | (simp; done) | (simp; omega)), by go_simp, by go_simp, by go_simp⟩ hb
  have Z2 : Free w4 (w3.heap.size) := hasf free_new hb
  have HK := Lib.hid hW
  replace BB := Lib.hid (Below.andThen BB.out hW)
  replace HT := Lib.hid (HT.out.next hW)
  clear hb hW HB
  go_wp2_with fail
  refine (hR.out _).mono ?_
  rintro e w5 ⟨rfl, hb⟩
  have HB := Lib.hid hb
  have hW : Below w3.heap.size w3 w5 := by (repeat' first | exact Below.refl _ _ | assumption | (refine Below.andThen ?_ HB.out) | (exact HB.out.size) | (refine Below.andThen ?_ HK.out) | (exact HK.out.size) | (refine below_drewN ?_ _) | (refine Below.drew ?_) | (refine Below.alloc ?_ ?_ _) | (refine Below.setCell ?_ ?_ _) | (simp; done) | (simp; omega) | omega)
  have A2' : Has3 w5 (w3.heap.size) (.int .i64 x) (.int .i64 y) (.int .i64 u) := has3 ⟨(by first | (simp; done) | (simp; omega)), by go_simp, by go_simp, by go_simp⟩ hb
  have A3' : Has3 w5 (w4.heap.size) (.int .i64 c) (.int .i64 d) (.int .i64 u) := has3 ⟨(by first | (simp; done) | (simp; omega)), by go_simp, by go_simp, by go_simp⟩ hb
  clear F3
  have F3 := has2 GF3 hW
  clear GF3
  clear A1
  have A1 := has3 GA1 hW
  clear GA1
  clear BB HT
  have BB := Lib.hid (Below.andThen BB0.out hW)
  have HT := Lib.hid (HT0.out.next hW)
  clear hb hW HB BB0 HT0 HK
  go_wp2_with fail
  have A2 := A2'
  have A3 := A3'
  clear A2' A3' n21
  refine (k1.out _ (HT.out.next (by (repeat' first | exact Below.refl _ _ | assumption | (refine below_drewN ?_ _) | (refine Below.drew ?_) | (refine Below.alloc ?_ ?_ _) | (refine Below.setCell ?_ ?_ _) | (simp; done) | (simp; omega) | omega)))).mono ?_
  rintro e w6 ⟨rfl, hb⟩
  have HB := Lib.hid hb
  have hW : Below w5.heap.size w5 w6 := by (repeat' first | exact Below.refl _ _ | assumption | (refine Below.andThen ?_ HB.out) | (exact HB.out.size) | (refine below_drewN ?_ _) | (refine Below.drew ?_) | (refine Below.alloc ?_ ?_ _) | (refine Below.setCell ?_ ?_ _) | (simp; done) | (simp; omega) | omega)
  replace A1 := has3 A1 hW
  replace A2 := has3 A2 hW
  replace A3 := has3 A3 hW
  have R : Has2 w6 (w5.heap.size) (.int .i64 rc) (.int .i64 re) := has2 ⟨(by first | (simp; done) | (simp; omega)), by go_simp, by go_simp⟩ hb
  replace BB := Lib.hid (Below.andThen BB.out hW)
  replace HT := Lib.hid (HT.out.next hW)
  clear hb hW HB
  go_wp2_with fail
  refine (k2.out _ (HT.out.next (by (repeat' first | exact Below.refl _ _ | assumption | (refine below_drewN ?_ _) | (refine Below.drew ?_) | (refine Below.alloc ?_ ?_ _) | (refine Below.setCell ?_ ?_ _) | (simp; done) | (simp; omega) | omega)))).mono ?_
  rintro e w7 ⟨rfl, hb⟩
  have HB := Lib.hid hb
  have hW : Below w6.heap.size w6 w7 := by (repeat' first | exact Below.refl _ _ | assumption | (refine Below.andThen ?_ HB.out) | (exact HB.out.size) | (refine below_drewN ?_ _) | (refine Below.drew ?_) | (refine Below.alloc ?_ ?_ _) | (refine Below.setCell ?_ ?_ _) | (simp; done) | (simp; omega) | omega)
  replace A1 := has3 A1 hW
  replace A2 := has3 A2 hW
  replace A3 := has3 A3 hW
  replace R := has2 R hW
  have AB : Has3 w7 (w6.heap.size) (.int .i64 l1) (.int .i64 h1) (.int .i64 uz1) := has3 ⟨(by first | (simp; done) | (simp; omega)), by go_simp, by go_simp, by go_simp⟩ hb
  replace BB := Lib.hid (Below.andThen BB.out hW)
  replace HT := Lib.hid (HT.out.next hW)
  clear hb hW HB
  go_wp2_with fail
  refine (k3.out _ (HT.out.next (by (repeat' first | exact Below.refl _ _ | assumption | (refine below_drewN ?_ _) | (refine Below.drew ?_) | (refine Below.alloc ?_ ?_ _) | (refine Below.setCell ?_ ?_ _) | (simp; done) | (simp; omega) | omega)))).mono ?_
  rintro e w8 ⟨rfl, hb⟩
  have HB := Lib.hid hb
  have hW : Below w7.heap.size w7 w8 := by (repeat' first | exact Below.refl _ _ | assumption | (refine Below.andThen ?_ HB.out) | (exact HB.out.size) | (refine below_drewN ?_ _) | (refine Below.drew ?_) | (refine Below.alloc ?_ ?_ _) | (refine Below.setCell ?_ ?_ _) | (simp; done) | (simp; omega) | omega)
  replace A1 := has3 A1 hW
  replace A2 := has3 A2 hW
  replace A3 := has3 A3 hW
  replace R := has2 R hW
  replace AB := has3 AB hW
  have BA : Has3 w8 (w7.heap.size) (.int .i64 l1) (.int .i64 h1) (.int .i64 uz1) := has3 ⟨(by first | (simp; done) | (simp; omega)), by go_simp, by go_simp, by go_simp⟩ hb
  replace BB := Lib.hid (Below.andThen BB.out hW)
  replace HT := Lib.hid (HT.out.next hW)
  clear hb hW HB
  obtain ⟨rfl, g1', g3, gC⟩ := g1.out
  clear g1
  replace g3 := Lib.hid g3
  replace gC := Lib.hid gC
  go_upto_if 104 with (fail)
  refine wp_named fun w9 hw => ?_
  have hW : Below w8.heap.size w8 w9 := by rw [hw]; (repeat' first | exact Below.refl _ _ | assumption | (refine below_drewN ?_ _) | (refine Below.drew ?_) | (refine Below.alloc ?_ ?_ _) | (refine Below.setCell ?_ ?_ _) | (simp; done) | (simp; omega) | omega)
  replace A1 := has3 A1 hW
  replace A2 := has3 A2 hW
  replace A3 := has3 A3 hW
  replace R := has2 R hW
  replace AB := has3 AB hW
  have BC : Has3 w9 (w8.heap.size) (.int .i64 l3) (.int .i64 h3) (.int .i64 uz3) := by rw [hw]; exact ⟨(by first | (simp; done) | (simp; omega)), by go_simp, by go_simp, by go_simp⟩
  replace BB := Lib.hid (Below.andThen BB.out hW)
  replace HT := Lib.hid (HT.out.next hW)
  clear hW hw
  go_cut [] (fun wx => Has3 wx w2.heap.size (.int .i64 a) (.int .i64 b) (.int .i64 u) ∧ Has3 wx w3.heap.size (.int .i64 x) (.int .i64 y) (.int .i64 u) ∧ Has3 wx w4.heap.size (.int .i64 c) (.int .i64 d) (.int .i64 u) ∧ Has2 wx w5.heap.size (.int .i64 rc) (.int .i64 re) ∧ Has3 wx w6.heap.size (.int .i64 l1) (.int .i64 h1) (.int .i64 uz1) ∧ Tab wx ∧ Below w.heap.size w wx)
  case first => as_aux_lemma =>
    rcases g3.out with rfl | ⟨rfl, L, H, U, E, kL, kR⟩
    · clear g3 gC
      go_wp2_with fail
      go_meet
      exact ⟨A1, A2, A3, R, AB, HT.out, BB.out⟩
    · clear g3 gC
      replace kL := Lib.hid kL
      replace kR := Lib.hid kR
      go_wp2_with fail
      refine (kL.out _ HT.out).mono ?_
      rintro e w10 ⟨rfl, hb⟩
      have HB := Lib.hid hb
      have hW : Below w9.heap.size w9 w10 := by (repeat' first | exact Below.refl _ _ | assumption | (refine Below.andThen ?_ HB.out) | (exact HB.out.size) | (refine below_drewN ?_ _) | (refine Below.drew ?_) | (refine Below.alloc ?_ ?_ _) | (refine Below.setCell ?_ ?_ _) | (simp; done) | (simp; omega) | omega)
      replace A1 := has3 A1 hW
      replace A2 := has3 A2 hW
      replace A3 := has3 A3 hW
      replace R := has2 R hW
      replace AB := has3 AB hW
      replace BC := has3 BC hW
      replace BB := Lib.hid (Below.andThen BB.out hW)
      replace HT := Lib.hid (HT.out.next hW)
      clear hb hW HB
      go_wp2_with fail
      refine (kR.out _ (HT.out.next (by (repeat' first | exact Below.refl _ _ | assumption | (refine below_drewN ?_ _) | (refine Below.drew ?_) | (refine Below.alloc ?_ ?_ _) | (refine Below.setCell ?_ ?_ _) | (simp; done) | (simp; omega) | omega)))).mono ?_
      rintro e w11 ⟨rfl, hb⟩
      have HB := Lib.hid hb
      have hW : Below w10.heap.size w10 w11 := by (repeat' first | exact Below.refl _ _ | assumption | (refine Below.andThen ?_ HB.out) | (exact HB.out.size) | (refine below_drewN ?_ _) | (refine Below.drew ?_) | (refine Below.alloc ?_ ?_ _) | (refine Below.setCell ?_ ?_ _) | (simp; done) | (simp; omega) | omega)
      replace A1 := has3 A1 hW
      replace A2 := has3 A2 hW
      replace A3 := has3 A3 hW
      replace R := has2 R hW
      replace AB := has3 AB hW
      have LL : Has3 w11 (w10.heap.size) (.int .i64 L) (.int .i64 H) (.int .i64 U) := has3 ⟨(by first | (simp; done) | (simp; omega)), by go_simp, by go_simp, by go_simp⟩ hb
      replace BB := Lib.hid (Below.andThen BB.out hW)
      replace HT := Lib.hid (HT.out.next hW)
      clear hb hW HB
      go_wp2_with fail
      go_meet
      exact ⟨has3 A1 (by (repeat' first | exact Below.refl _ _ | assumption | (refine below_drewN ?_ _) | (refine Below.drew ?_) | (refine Below.alloc ?_ ?_ _) | (refine Below.setCell ?_ ?_ _) | (simp; done) | (simp; omega) | omega)), has3 A2 (by (repeat' first | exact Below.refl _ _ | assumption | (refine below_drewN ?_ _) | (refine Below.drew ?_) | (refine Below.alloc ?_ ?_ _) | (refine Below.setCell ?_ ?_ _) | (simp; done) | (simp; omega) | omega)), has3 A3 (by (repeat' first | exact Below.refl _ _ | assumption | (refine below_drewN ?_ _) | (refine Below.drew ?_) | (refine Below.alloc ?_ ?_ _) | (refine Below.setCell ?_ ?_ _) | (simp; done) | (simp; omega) | omega)), has2 R (by (repeat' first | exact Below.refl _ _ | assumption | (refine below_drewN ?_ _) | (refine Below.drew ?_) | (refine Below.alloc ?_ ?_ _) | (refine Below.setCell ?_ ?_ _) | (simp; done) | (simp; omega) | omega)), has3 AB (by (repeat' first | exact Below.refl _ _ | assumption | (refine below_drewN ?_ _) | (refine Below.drew ?_) | (refine Below.alloc ?_ ?_ _) | (refine Below.setCell ?_ ?_ _) | (simp; done) | (simp; omega) | omega)), HT.out.next (by (repeat' first | exact Below.refl _ _ | assumption | (refine below_drewN ?_ _) | (refine Below.drew ?_) | (refine Below.alloc ?_ ?_ _) | (refine Below.setCell ?_ ?_ _) | (simp; done) | (simp; omega) | omega)), Below.andThen BB.out (by (repeat' first | exact Below.refl _ _ | assumption | (refine below_drewN ?_ _) | (refine Below.drew ?_) | (refine Below.alloc ?_ ?_ _) | (refine Below.setCell ?_ ?_ _) | (simp; done) | (simp; omega) | omega))⟩
  clear A1 A2 A3 R AB BC HT BB
  obtain ⟨A1, A2, A3, R, AB, HT', BB'⟩ := hcut
  rename World => w10
  have HT := Lib.hid HT'
  have BB := Lib.hid BB'
  clear HT' BB' g3
  go_wp2_with fail
  refine (same_below (hP.out _)).mono ?_
  rintro e w11 ⟨rfl, hb⟩
  have HB := Lib.hid hb
  have hW : Below w10.heap.size w10 w11 := by (repeat' first | exact Below.refl _ _ | assumption | (refine Below.andThen ?_ HB.out) | (exact HB.out.size) | (refine below_drewN ?_ _) | (refine Below.drew ?_) | (refine Below.alloc ?_ ?_ _) | (refine Below.setCell ?_ ?_ _) | (simp; done) | (simp; omega) | omega)
  replace A1 := has3 A1 hW
  replace A2 := has3 A2 hW
  replace A3 := has3 A3 hW
  replace R := has2 R hW
  replace AB := has3 AB hW
  replace BB := Lib.hid (Below.andThen BB.out hW)
  replace HT := Lib.hid (HT.out.next hW)
  clear hb hW HB
  go_wp2_with fail
  refine (k5.out _ HT.out).mono ?_
  rintro e w12 ⟨rfl, hb⟩
  have HB := Lib.hid hb
  have hW : Below w11.heap.size w11 w12 := by (repeat' first | exact Below.refl _ _ | assumption | (refine Below.andThen ?_ HB.out) | (exact HB.out.size) | (refine below_drewN ?_ _) | (refine Below.drew ?_) | (refine Below.alloc ?_ ?_ _) | (refine Below.setCell ?_ ?_ _) | (simp; done) | (simp; omega) | omega)
  replace A1 := has3 A1 hW
  replace A2 := has3 A2 hW
  replace A3 := has3 A3 hW
  replace R := has2 R hW
  replace AB := has3 AB hW
  replace BB := Lib.hid (Below.andThen BB.out hW)
  replace HT := Lib.hid (HT.out.next hW)
  clear hb hW HB
  go_wp2_with fail
  refine (k6.out _ (HT.out.next (by (repeat' first | exact Below.refl _ _ | assumption | (refine below_drewN ?_ _) | (refine Below.drew ?_) | (refine Below.alloc ?_ ?_ _) | (refine Below.setCell ?_ ?_ _) | (simp; done) | (simp; omega) | omega)))).mono ?_
  rintro e w13 ⟨rfl, hb⟩
  have HB := Lib.hid hb
  have hW : Below w12.heap.size w12 w13 := by (repeat' first | exact Below.refl _ _ | assumption | (refine Below.andThen ?_ HB.out) | (exact HB.out.size) | (refine below_drewN ?_ _) | (refine Below.drew ?_) | (refine Below.alloc ?_ ?_ _) | (refine Below.setCell ?_ ?_ _) | (simp; done) | (simp; omega) | omega)
  replace A1 := has3 A1 hW
  replace A2 := has3 A2 hW
  replace A3 := has3 A3 hW
  replace R := has2 R hW
  replace AB := has3 AB hW
  have CP : Has3 w13 (w12.heap.size) (.int .i64 l5) (.int .i64 h5) (.int .i64 uz5) := has3 ⟨(by first | (simp; done) | (simp; omega)), by go_simp, by go_simp, by go_simp⟩ hb
  replace BB := Lib.hid (Below.andThen BB.out hW)
  replace HT := Lib.hid (HT.out.next hW)
  clear hb hW HB
  go_wp2_with fail
  refine (k7.out _ (HT.out.next (by (repeat' first | exact Below.refl _ _ | assumption | (refine below_drewN ?_ _) | (refine Below.drew ?_) | (refine Below.alloc ?_ ?_ _) | (refine Below.setCell ?_ ?_ _) | (simp; done) | (simp; omega) | omega)))).mono ?_
  rintro e w14 ⟨rfl, hb⟩
  have HB := Lib.hid hb
  have hW : Below w13.heap.size w13 w14 := by (repeat' first | exact Below.refl _ _ | assumption | (refine Below.andThen ?_ HB.out) | (exact HB.out.size) | (refine below_drewN ?_ _) | (refine Below.drew ?_) | (refine Below.alloc ?_ ?_ _) | (refine Below.setCell ?_ ?_ _) | (simp; done) | (simp; omega) | omega)
  replace A1 := has3 A1 hW
  replace A2 := has3 A2 hW
  replace A3 := has3 A3 hW
  replace CP := has3 CP hW
  have CQ : Has3 w14 (w13.heap.size) (.int .i64 l6) (.int .i64 h6) (.int .i64 uz6) := has3 ⟨(by first | (simp; done) | (simp; omega)), by go_simp, by go_simp, by go_simp⟩ hb
  replace BB := Lib.hid (Below.andThen BB.out hW)
  replace HT := Lib.hid (HT.out.next hW)
  clear hb hW HB
  go_wp2_with fail
  refine (k8.out _ (HT.out.next (by (repeat' first | exact Below.refl _ _ | assumption | (refine below_drewN ?_ _) | (refine Below.drew ?_) | (refine Below.alloc ?_ ?_ _) | (refine Below.setCell ?_ ?_ _) | (simp; done) | (simp; omega) | omega)))).mono ?_
  rintro e w15 ⟨rfl, hb⟩
  have HB := Lib.hid hb
  have hW : Below w14.heap.size w14 w15 := by (repeat' first | exact Below.refl _ _ | assumption | (refine Below.andThen ?_ HB.out) | (exact HB.out.size) | (refine below_drewN ?_ _) | (refine Below.drew ?_) | (refine Below.alloc ?_ ?_ _) | (refine Below.setCell ?_ ?_ _) | (simp; done) | (simp; omega) | omega)
  replace A1 := has3 A1 hW
  replace A2 := has3 A2 hW
  replace A3 := has3 A3 hW
  have CS : Has3 w15 (w14.heap.size) (.int .i64 l7) (.int .i64 h7) (.int .i64 uz7) := has3 ⟨(by first | (simp; done) | (simp; omega)), by go_simp, by go_simp, by go_simp⟩ hb
  replace BB := Lib.hid (Below.andThen BB.out hW)
  replace HT := Lib.hid (HT.out.next hW)
  clear hb hW HB
  go_upto_region 25 with (fail)
  refine wp_named fun w16 hw => ?_
  have hW : Below w15.heap.size w15 w16 := by rw [hw]; (repeat' first | exact Below.refl _ _ | assumption | (refine below_drewN ?_ _) | (refine Below.drew ?_) | (refine Below.alloc ?_ ?_ _) | (refine Below.setCell ?_ ?_ _) | (simp; done) | (simp; omega) | omega)
  replace A1 := has3 A1 hW
  replace A2 := has3 A2 hW
  replace A3 := has3 A3 hW
  replace CS := has3 CS hW
  have CT : Has3 w16 (w15.heap.size) (.int .i64 l8) (.int .i64 h8) (.int .i64 uz8) := by rw [hw]; exact ⟨(by first | (simp; done) | (simp; omega)), by go_simp, by go_simp, by go_simp⟩
  replace BB := Lib.hid (Below.andThen BB.out hW)
  replace HT := Lib.hid (HT.out.next hW)
  clear hW hw
  go_cut [178] (fun s wx => s = .bool false ∧ Has3 wx w2.heap.size (.int .i64 a) (.int .i64 b) (.int .i64 u) ∧ Has3 wx w3.heap.size (.int .i64 x) (.int .i64 y) (.int .i64 u) ∧ Has3 wx w4.heap.size (.int .i64 c) (.int .i64 d) (.int .i64 u) ∧ Tab wx ∧ Below w.heap.size w wx)
  case first => as_aux_lemma =>
    rcases gC.out with rfl | ⟨rfl, rfl | ⟨rfl, rfl | ⟨rfl, rfl, q⟩⟩⟩
    · go_wp2_with fail
      go_meet
      exact ⟨rfl, A1, A2, A3, HT.out, BB.out⟩
    · go_wp2_with fail
      go_meet
      exact ⟨rfl, A1, A2, A3, HT.out, BB.out⟩
    · go_wp2_with fail
      go_meet
      exact ⟨rfl, A1, A2, A3, HT.out, BB.out⟩
    · replace q := Lib.hid q
      clear gC
      go_wp2_with fail
      refine (q.out _ HT.out).mono ?_
      rintro e w17 ⟨rfl, hb⟩
      have HB := Lib.hid hb
      have hW : Below w16.heap.size w16 w17 := by (repeat' first | exact Below.refl _ _ | assumption | (refine Below.andThen ?_ HB.out) | (exact HB.out.size) | (refine below_drewN ?_ _) | (refine Below.drew ?_) | (refine Below.alloc ?_ ?_ _) | (refine Below.setCell ?_ ?_ _) | (simp; done) | (simp; omega) | omega)
      replace A1 := has3 A1 hW
      replace A2 := has3 A2 hW
      replace A3 := has3 A3 hW
      replace BB := Lib.hid (Below.andThen BB.out hW)
      replace HT := Lib.hid (HT.out.next hW)
      clear hb hW HB
      go_wp2_with fail
      go_meet
      exact ⟨rfl, A1, A2, A3, HT.out, BB.out⟩
  clear A1 A2 A3 CS CT HT BB gC
  obtain ⟨rfl, A1, A2, A3, HT', BB'⟩ := hcut
  rename World => w17
  have HT := Lib.hid HT'
  have BB := Lib.hid BB'
  clear HT' BB'
  go_wp2_with fail
  refine (k9.out _ HT.out).mono ?_
  rintro e w21 ⟨rfl, hb⟩
  have HB := Lib.hid hb
  have hW : Below w17.heap.size w17 w21 := by (repeat' first | exact Below.refl _ _ | assumption | (refine Below.andThen ?_ HB.out) | (exact HB.out.size) | (refine below_drewN ?_ _) | (refine Below.drew ?_) | (refine Below.alloc ?_ ?_ _) | (refine Below.setCell ?_ ?_ _) | (simp; done) | (simp; omega) | omega)
  replace A1 := has3 A1 hW
  replace A2 := has3 A2 hW
  replace A3 := has3 A3 hW
  replace BB := Lib.hid (Below.andThen BB.out hW)
  replace HT := Lib.hid (HT.out.next hW)
  clear hb hW HB
  go_wp2_with fail
  refine (k10.out _ (HT.out.next (by (repeat' first | exact Below.refl _ _ | assumption | (refine below_drewN ?_ _) | (refine Below.drew ?_) | (refine Below.alloc ?_ ?_ _) | (refine Below.setCell ?_ ?_ _) | (simp; done) | (simp; omega) | omega)))).mono ?_
  rintro e w22 ⟨rfl, hb⟩
  have HB := Lib.hid hb
  have hW : Below w21.heap.size w21 w22 := by (repeat' first | exact Below.refl _ _ | assumption | (refine Below.andThen ?_ HB.out) | (exact HB.out.size) | (refine below_drewN ?_ _) | (refine Below.drew ?_) | (refine Below.alloc ?_ ?_ _) | (refine Below.setCell ?_ ?_ _) | (simp; done) | (simp; omega) | omega)
  replace A1 := has3 A1 hW
  replace A2 := has3 A2 hW
  replace A3 := has3 A3 hW
  have M9 : Has3 w22 (w21.heap.size) (.int .i64 l9) (.int .i64 h9) (.int .i64 uz9) := has3 ⟨(by first | (simp; done) | (simp; omega)), by go_simp, by go_simp, by go_simp⟩ hb
  replace BB := Lib.hid (Below.andThen BB.out hW)
  replace HT := Lib.hid (HT.out.next hW)
  clear hb hW HB
  go_wp2_with fail
  refine (k11.out _ (HT.out.next (by (repeat' first | exact Below.refl _ _ | assumption | (refine below_drewN ?_ _) | (refine Below.drew ?_) | (refine Below.alloc ?_ ?_ _) | (refine Below.setCell ?_ ?_ _) | (simp; done) | (simp; omega) | omega)))).mono ?_
  rintro e w23 ⟨rfl, hb⟩
  have HB := Lib.hid hb
  have hW : Below w22.heap.size w22 w23 := by (repeat' first | exact Below.refl _ _ | assumption | (refine Below.andThen ?_ HB.out) | (exact HB.out.size) | (refine below_drewN ?_ _) | (refine Below.drew ?_) | (refine Below.alloc ?_ ?_ _) | (refine Below.setCell ?_ ?_ _) | (simp; done) | (simp; omega) | omega)
  replace A1 := has3 A1 hW
  replace A2 := has3 A2 hW
  replace A3 := has3 A3 hW
  replace M9 := has3 M9 hW
  have M10 : Has3 w23 (w22.heap.size) (.int .i64 l9) (.int .i64 h9) (.int .i64 uz9) := has3 ⟨(by first | (simp; done) | (simp; omega)), by go_simp, by go_simp, by go_simp⟩ hb
  replace BB := Lib.hid (Below.andThen BB.out hW)
  replace HT := Lib.hid (HT.out.next hW)
  clear hb hW HB
  go_upto_region 30 with (fail)
  refine wp_named fun w24 hw => ?_
  have hW : Below w23.heap.size w23 w24 := by rw [hw]; (repeat' first | exact Below.refl _ _ | assumption | (refine below_drewN ?_ _) | (refine Below.drew ?_) | (refine Below.alloc ?_ ?_ _) | (refine Below.setCell ?_ ?_ _) | (simp; done) | (simp; omega) | omega)
  replace A1 := has3 A1 hW
  replace A2 := has3 A2 hW
  replace A3 := has3 A3 hW
  replace M9 := has3 M9 hW
  replace M10 := has3 M10 hW
  have M11 : Has3 w24 (w23.heap.size) (.int .i64 a) (.int .i64 b) (.int .i64 u) := by rw [hw]; exact ⟨(by first | (simp; done) | (simp; omega)), by go_simp, by go_simp, by go_simp⟩
  replace BB := Lib.hid (Below.andThen BB.out hW)
  replace HT := Lib.hid (HT.out.next hW)
  clear hW hw
  go_cut [229] (fun s wx => s = .bool false ∧ wx = w24)
  case first => as_aux_lemma =>
    rcases g9.out with ⟨rfl, g9'⟩ | ⟨rfl, g9', _⟩
    all_goals
      clear g9
      go_wp2_with fail
    all_goals (go_meet; refine ⟨congrArg Value.bool ?_, rfl⟩; simp; omega)
  case rest =>
    obtain ⟨rfl, rfl⟩ := hcut
    rename World => w24
    rcases g9.out with ⟨rfl, g9'⟩ | ⟨rfl, g9', l12, h12, uz12, e12, l13, h13, uz13, e13, k12, k13, g13, q1, q2, q3⟩
    · clear g9
      go_wp2
      go_ret
      exact ⟨rfl, BB.out⟩
    · as_aux_lemma =>
      clear g9
      replace k12 := Lib.hid k12
      replace k13 := Lib.hid k13
      replace g13 := Lib.hid g13
      replace q1 := Lib.hid q1
      replace q2 := Lib.hid q2
      replace q3 := Lib.hid q3
      go_wp2_with fail
      refine (k12.out _ HT.out).mono ?_
      rintro e w25 ⟨rfl, hb⟩
      have HB := Lib.hid hb
      have hW : Below w24.heap.size w24 w25 := by (repeat' first | exact Below.refl _ _ | assumption | (refine Below.andThen ?_ HB.out) | (exact HB.out.size) | (refine below_drewN ?_ _) | (refine Below.drew ?_) | (refine Below.alloc ?_ ?_ _) | (refine Below.setCell ?_ ?_ _) | (simp; done) | (simp; omega) | omega)
      replace A1 := has3 A1 hW
      replace A2 := has3 A2 hW
      replace A3 := has3 A3 hW
      replace M9 := has3 M9 hW
      replace BB := Lib.hid (Below.andThen BB.out hW)
      replace HT := Lib.hid (HT.out.next hW)
      clear hb hW HB
      go_wp2_with fail
      refine (k13.out _ (HT.out.next (by (repeat' first | exact Below.refl _ _ | assumption | (refine below_drewN ?_ _) | (refine Below.drew ?_) | (refine Below.alloc ?_ ?_ _) | (refine Below.setCell ?_ ?_ _) | (simp; done) | (simp; omega) | omega)))).mono ?_
      rintro e w26 ⟨rfl, hb⟩
      have HB := Lib.hid hb
      have hW : Below w25.heap.size w25 w26 := by (repeat' first | exact Below.refl _ _ | assumption | (refine Below.andThen ?_ HB.out) | (exact HB.out.size) | (refine below_drewN ?_ _) | (refine Below.drew ?_) | (refine Below.alloc ?_ ?_ _) | (refine Below.setCell ?_ ?_ _) | (simp; done) | (simp; omega) | omega)
      replace A1 := has3 A1 hW
      replace A2 := has3 A2 hW
      replace A3 := has3 A3 hW
      replace M9 := has3 M9 hW
      have M12 : Has3 w26 (w25.heap.size) (.int .i64 l12) (.int .i64 h12) (.int .i64 uz12) := has3 ⟨(by first | (simp; done) | (simp; omega)), by go_simp, by go_simp, by go_simp⟩ hb
      replace BB := Lib.hid (Below.andThen BB.out hW)
      replace HT := Lib.hid (HT.out.next hW)
      clear hb hW HB
      rcases g13.out with rfl | ⟨rfl, k14⟩
      · clear g13
        go_wp2_with fail
        refine (q1.out _ (HT.out.next (by (repeat' first | exact Below.refl _ _ | assumption | (refine below_drewN ?_ _) | (refine Below.drew ?_) | (refine Below.alloc ?_ ?_ _) | (refine Below.setCell ?_ ?_ _) | (simp; done) | (simp; omega) | omega)))).mono ?_
        rintro e w27 ⟨rfl, hb⟩
        have HB := Lib.hid hb
        have hW : Below w26.heap.size w26 w27 := by (repeat' first | exact Below.refl _ _ | assumption | (refine Below.andThen ?_ HB.out) | (exact HB.out.size) | (refine below_drewN ?_ _) | (refine Below.drew ?_) | (refine Below.alloc ?_ ?_ _) | (refine Below.setCell ?_ ?_ _) | (simp; done) | (simp; omega) | omega)
        replace A1 := has3 A1 hW
        replace A2 := has3 A2 hW
        replace A3 := has3 A3 hW
        replace M9 := has3 M9 hW
        replace BB := Lib.hid (Below.andThen BB.out hW)
        replace HT := Lib.hid (HT.out.next hW)
        clear hb hW HB
        go_wp2_with fail
        refine (q2.out _ HT.out).mono ?_
        rintro e w28 ⟨rfl, hb⟩
        have HB := Lib.hid hb
        have hW : Below w27.heap.size w27 w28 := by (repeat' first | exact Below.refl _ _ | assumption | (refine Below.andThen ?_ HB.out) | (exact HB.out.size) | (refine below_drewN ?_ _) | (refine Below.drew ?_) | (refine Below.alloc ?_ ?_ _) | (refine Below.setCell ?_ ?_ _) | (simp; done) | (simp; omega) | omega)
        replace A1 := has3 A1 hW
        replace A2 := has3 A2 hW
        replace A3 := has3 A3 hW
        replace M9 := has3 M9 hW
        replace BB := Lib.hid (Below.andThen BB.out hW)
        replace HT := Lib.hid (HT.out.next hW)
        clear hb hW HB
        rcases q3.out with q4 | ⟨q4, q5⟩ | ⟨q4, q5, q6⟩
        · replace q4 := Lib.hid q4
          clear q3
          go_wp2_with fail
          refine (q4.out _ HT.out).mono ?_
          rintro e w29 ⟨rfl, hb⟩
          have HB := Lib.hid hb
          have hW : Below w28.heap.size w28 w29 := by (repeat' first | exact Below.refl _ _ | assumption | (refine Below.andThen ?_ HB.out) | (exact HB.out.size) | (refine below_drewN ?_ _) | (refine Below.drew ?_) | (refine Below.alloc ?_ ?_ _) | (refine Below.setCell ?_ ?_ _) | (simp; done) | (simp; omega) | omega)
          replace A1 := has3 A1 hW
          replace A2 := has3 A2 hW
          replace A3 := has3 A3 hW
          replace M9 := has3 M9 hW
          replace BB := Lib.hid (Below.andThen BB.out hW)
          replace HT := Lib.hid (HT.out.next hW)
          clear hb hW HB
          go_wp2
          go_ret
          exact ⟨rfl, BB.out⟩
        · replace q4 := Lib.hid q4
          replace q5 := Lib.hid q5
          clear q3
          go_wp2_with fail
          refine (q4.out _ HT.out).mono ?_
          rintro e w29 ⟨rfl, hb⟩
          have HB := Lib.hid hb
          have hW : Below w28.heap.size w28 w29 := by (repeat' first | exact Below.refl _ _ | assumption | (refine Below.andThen ?_ HB.out) | (exact HB.out.size) | (refine below_drewN ?_ _) | (refine Below.drew ?_) | (refine Below.alloc ?_ ?_ _) | (refine Below.setCell ?_ ?_ _) | (simp; done) | (simp; omega) | omega)
          replace A1 := has3 A1 hW
          replace A2 := has3 A2 hW
          replace A3 := has3 A3 hW
          replace M9 := has3 M9 hW
          replace BB := Lib.hid (Below.andThen BB.out hW)
          replace HT := Lib.hid (HT.out.next hW)
          clear hb hW HB
          go_wp2_with fail
          refine (q5.out _ HT.out).mono ?_
          rintro e w30 ⟨rfl, hb⟩
          have HB := Lib.hid hb
          have hW : Below w29.heap.size w29 w30 := by (repeat' first | exact Below.refl _ _ | assumption | (refine Below.andThen ?_ HB.out) | (exact HB.out.size) | (refine below_drewN ?_ _) | (refine Below.drew ?_) | (refine Below.alloc ?_ ?_ _) | (refine Below.setCell ?_ ?_ _) | (simp; done) | (simp; omega) | omega)
          replace A1 := has3 A1 hW
          replace A2 := has3 A2 hW
          replace A3 := has3 A3 hW
          replace M9 := has3 M9 hW
          replace BB := Lib.hid (Below.andThen BB.out hW)
          replace HT := Lib.hid (HT.out.next hW)
          clear hb hW HB
          go_wp2
          go_ret
          exact ⟨rfl, BB.out⟩
        · replace q4 := Lib.hid q4
          replace q5 := Lib.hid q5
          replace q6 := Lib.hid q6
          clear q3
          go_wp2_with fail
          refine (q4.out _ HT.out).mono ?_
          rintro e w29 ⟨rfl, hb⟩
          have HB := Lib.hid hb
          have hW : Below w28.heap.size w28 w29 := by (repeat' first | exact Below.refl _ _ | assumption | (refine Below.andThen ?_ HB.out) | (exact HB.out.size) | (refine below_drewN ?_ _) | (refine Below.drew ?_) | (refine Below.alloc ?_ ?_ _) | (refine Below.setCell ?_ ?_ _) | (simp; done) | (simp; omega) | omega)
          replace A1 := has3 A1 hW
          replace A2 := has3 A2 hW
          replace A3 := has3 A3 hW
          replace M9 := has3 M9 hW
          replace BB := Lib.hid (Below.andThen BB.out hW)
          replace HT := Lib.hid (HT.out.next hW)
          clear hb hW HB
          go_wp2_with fail
          refine (q5.out _ HT.out).mono ?_
          rintro e w30 ⟨rfl, hb⟩
          have HB := Lib.hid hb
          have hW : Below w29.heap.size w29 w30 := by (repeat' first | exact Below.refl _ _ | assumption | (refine Below.andThen ?_ HB.out) | (exact HB.out.size) | (refine below_drewN ?_ _) | (refine Below.drew ?_) | (refine Below.alloc ?_ ?_ _) | (refine Below.setCell ?_ ?_ _) | (simp; done) | (simp; omega) | omega)
          replace A1 := has3 A1 hW
          replace A2 := has3 A2 hW
          replace A3 := has3 A3 hW
          replace M9 := has3 M9 hW
          replace BB := Lib.hid (Below.andThen BB.out hW)
          replace HT := Lib.hid (HT.out.next hW)
          clear hb hW HB
          go_wp2_with fail
          refine (q6.out _ HT.out).mono ?_
          rintro e w31 ⟨rfl, hb⟩
          have HB := Lib.hid hb
          have hW : Below w30.heap.size w30 w31 := by (repeat' first | exact Below.refl _ _ | assumption | (refine Below.andThen ?_ HB.out) | (exact HB.out.size) | (refine below_drewN ?_ _) | (refine Below.drew ?_) | (refine Below.alloc ?_ ?_ _) | (refine Below.setCell ?_ ?_ _) | (simp; done) | (simp; omega) | omega)
          replace A1 := has3 A1 hW
          replace A2 := has3 A2 hW
          replace A3 := has3 A3 hW
          replace M9 := has3 M9 hW
          replace BB := Lib.hid (Below.andThen BB.out hW)
          replace HT := Lib.hid (HT.out.next hW)
          clear hb hW HB
          go_wp2
          go_ret
          exact ⟨rfl, BB.out⟩
      · clear g13
        replace k14 := Lib.hid k14
        go_wp2_with fail
        refine (k14.out _ (HT.out.next (by (repeat' first | exact Below.refl _ _ | assumption | (refine below_drewN ?_ _) | (refine Below.drew ?_) | (refine Below.alloc ?_ ?_ _) | (refine Below.setCell ?_ ?_ _) | (simp; done) | (simp; omega) | omega)))).mono ?_
        rintro e w27 ⟨rfl, hb⟩
        have HB := Lib.hid hb
        have hW : Below w26.heap.size w26 w27 := by (repeat' first | exact Below.refl _ _ | assumption | (refine Below.andThen ?_ HB.out) | (exact HB.out.size) | (refine below_drewN ?_ _) | (refine Below.drew ?_) | (refine Below.alloc ?_ ?_ _) | (refine Below.setCell ?_ ?_ _) | (simp; done) | (simp; omega) | omega)
        replace A1 := has3 A1 hW
        replace A2 := has3 A2 hW
        replace A3 := has3 A3 hW
        replace M9 := has3 M9 hW
        replace M12 := has3 M12 hW
        have M13 : Has3 w27 (w26.heap.size) (.int .i64 l13) (.int .i64 h13) (.int .i64 uz13) := has3 ⟨(by first | (simp; done) | (simp; omega)), by go_simp, by go_simp, by go_simp⟩ hb
        replace BB := Lib.hid (Below.andThen BB.out hW)
        replace HT := Lib.hid (HT.out.next hW)
        clear hb hW HB
        go_wp2_with fail
        refine (q1.out _ (HT.out.next (by (repeat' first | exact Below.refl _ _ | assumption | (refine below_drewN ?_ _) | (refine Below.drew ?_) | (refine Below.alloc ?_ ?_ _) | (refine Below.setCell ?_ ?_ _) | (simp; done) | (simp; omega) | omega)))).mono ?_
        rintro e w28 ⟨rfl, hb⟩
        have HB := Lib.hid hb
        have hW : Below w27.heap.size w27 w28 := by (repeat' first | exact Below.refl _ _ | assumption | (refine Below.andThen ?_ HB.out) | (exact HB.out.size) | (refine below_drewN ?_ _) | (refine Below.drew ?_) | (refine Below.alloc ?_ ?_ _) | (refine Below.setCell ?_ ?_ _) | (simp; done) | (simp; omega) | omega)
        replace A1 := has3 A1 hW
        replace A2 := has3 A2 hW
        replace A3 := has3 A3 hW
        replace M9 := has3 M9 hW
        replace BB := Lib.hid (Below.andThen BB.out hW)
        replace HT := Lib.hid (HT.out.next hW)
        clear hb hW HB
        go_wp2_with fail
        refine (q2.out _ HT.out).mono ?_
        rintro e w29 ⟨rfl, hb⟩
        have HB := Lib.hid hb
        have hW : Below w28.heap.size w28 w29 := by (repeat' first | exact Below.refl _ _ | assumption | (refine Below.andThen ?_ HB.out) | (exact HB.out.size) | (refine below_drewN ?_ _) | (refine Below.drew ?_) | (refine Below.alloc ?_ ?_ _) | (refine Below.setCell ?_ ?_ _) | (simp; done) | (simp; omega) | omega)
        replace A1 := has3 A1 hW
        replace A2 := has3 A2 hW
        replace A3 := has3 A3 hW
        replace M9 := has3 M9 hW
        replace BB := Lib.hid (Below.andThen BB.out hW)
        replace HT := Lib.hid (HT.out.next hW)
        clear hb hW HB
        rcases q3.out with q4 | ⟨q4, q5⟩ | ⟨q4, q5, q6⟩
        · replace q4 := Lib.hid q4
          clear q3
          go_wp2_with fail
          refine (q4.out _ HT.out).mono ?_
          rintro e w30 ⟨rfl, hb⟩
          have HB := Lib.hid hb
          have hW : Below w29.heap.size w29 w30 := by (repeat' first | exact Below.refl _ _ | assumption | (refine Below.andThen ?_ HB.out) | (exact HB.out.size) | (refine below_drewN ?_ _) | (refine Below.drew ?_) | (refine Below.alloc ?_ ?_ _) | (refine Below.setCell ?_ ?_ _) | (simp; done) | (simp; omega) | omega)
          replace A1 := has3 A1 hW
          replace A2 := has3 A2 hW
          replace A3 := has3 A3 hW
          replace M9 := has3 M9 hW
          replace BB := Lib.hid (Below.andThen BB.out hW)
          replace HT := Lib.hid (HT.out.next hW)
          clear hb hW HB
          go_wp2
          go_ret
          exact ⟨rfl, BB.out⟩
        · replace q4 := Lib.hid q4
          replace q5 := Lib.hid q5
          clear q3
          go_wp2_with fail
          refine (q4.out _ HT.out).mono ?_
          rintro e w30 ⟨rfl, hb⟩
          have HB := Lib.hid hb
          have hW : Below w29.heap.size w29 w30 := by (repeat' first | exact Below.refl _ _ | assumption | (refine Below.andThen ?_ HB.out) | (exact HB.out.size) | (refine below_drewN ?_ _) | (refine Below.drew ?_) | (refine Below.alloc ?_ ?_ _) | (refine Below.setCell ?_ ?_ _) | (simp; done) | (simp; omega) | omega)
          replace A1 := has3 A1 hW
          replace A2 := has3 A2 hW
          replace A3 := has3 A3 hW
          replace M9 := has3 M9 hW
          replace BB := Lib.hid (Below.andThen BB.out hW)
          replace HT := Lib.hid (HT.out.next hW)
          clear hb hW HB
          go_wp2_with fail
          refine (q5.out _ HT.out).mono ?_
          rintro e w31 ⟨rfl, hb⟩
          have HB := Lib.hid hb
          have hW : Below w30.heap.size w30 w31 := by (repeat' first | exact Below.refl _ _ | assumption | (refine Below.andThen ?_ HB.out) | (exact HB.out.size) | (refine below_drewN ?_ _) | (refine Below.drew ?_) | (refine Below.alloc ?_ ?_ _) | (refine Below.setCell ?_ ?_ _) | (simp; done) | (simp; omega) | omega)
          replace A1 := has3 A1 hW
          replace A2 := has3 A2 hW
          replace A3 := has3 A3 hW
          replace M9 := has3 M9 hW
          replace BB := Lib.hid (Below.andThen BB.out hW)
          replace HT := Lib.hid (HT.out.next hW)
          clear hb hW HB
          go_wp2
          go_ret
          exact ⟨rfl, BB.out⟩
        · replace q4 := Lib.hid q4
          replace q5 := Lib.hid q5
          replace q6 := Lib.hid q6
          clear q3
          go_wp2_with fail
          refine (q4.out _ HT.out).mono ?_
          rintro e w30 ⟨rfl, hb⟩
          have HB := Lib.hid hb
          have hW : Below w29.heap.size w29 w30 := by (repeat' first | exact Below.refl _ _ | assumption | (refine Below.andThen ?_ HB.out) | (exact HB.out.size) | (refine below_drewN ?_ _) | (refine Below.drew ?_) | (refine Below.alloc ?_ ?_ _) | (refine Below.setCell ?_ ?_ _) | (simp; done) | (simp; omega) | omega)
          replace A1 := has3 A1 hW
          replace A2 := has3 A2 hW
          replace A3 := has3 A3 hW
          replace M9 := has3 M9 hW
          replace BB := Lib.hid (Below.andThen BB.out hW)
          replace HT := Lib.hid (HT.out.next hW)
          clear hb hW HB
          go_wp2_with fail
          refine (q5.out _ HT.out).mono ?_
          rintro e w31 ⟨rfl, hb⟩
          have HB := Lib.hid hb
          have hW : Below w30.heap.size w30 w31 := by (repeat' first | exact Below.refl _ _ | assumption | (refine Below.andThen ?_ HB.out) | (exact HB.out.size) | (refine below_drewN ?_ _) | (refine Below.drew ?_) | (refine Below.alloc ?_ ?_ _) | (refine Below.setCell ?_ ?_ _) | (simp; done) | (simp; omega) | omega)
          replace A1 := has3 A1 hW
          replace A2 := has3 A2 hW
          replace A3 := has3 A3 hW
          replace M9 := has3 M9 hW
          replace BB := Lib.hid (Below.andThen BB.out hW)
          replace HT := Lib.hid (HT.out.next hW)
          clear hb hW HB
          go_wp2_with fail
          refine (q6.out _ HT.out).mono ?_
          rintro e w32 ⟨rfl, hb⟩
          have HB := Lib.hid hb
          have hW : Below w31.heap.size w31 w32 := by (repeat' first | exact Below.refl _ _ | assumption | (refine Below.andThen ?_ HB.out) | (exact HB.out.size) | (refine below_drewN ?_ _) | (refine Below.drew ?_) | (refine Below.alloc ?_ ?_ _) | (refine Below.setCell ?_ ?_ _) | (simp; done) | (simp; omega) | omega)
          replace A1 := has3 A1 hW
          replace A2 := has3 A2 hW
          replace A3 := has3 A3 hW
          replace M9 := has3 M9 hW
          replace BB := Lib.hid (Below.andThen BB.out hW)
          replace HT := Lib.hid (HT.out.next hW)
          clear hb hW HB
          go_wp2
          go_ret
          exact ⟨rfl, BB.out⟩
end Go.Proofs.YtdldokhiefeloaaDoor
