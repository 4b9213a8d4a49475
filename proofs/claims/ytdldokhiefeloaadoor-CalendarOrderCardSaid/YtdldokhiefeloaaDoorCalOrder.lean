/- For every input, CalendarOrder returns true and leaves its arguments as they were; the tables hold what the program's text lays. -/
import Derived.Test.YtdldokhiefeloaaDoorCalOB
import Derived.Lib.MinMax
namespace Go.Proofs.YtdldokhiefeloaaDoor
open Go.RowKit Go.ChangeShapes Go.WideShapes Go.ChangeAt

set_option maxRecDepth 100000 in
set_option maxHeartbeats 4000000 in
theorem order_false (x1 x2 x3 a b b0 b1 o0 o p1 p2 p3 p4 p5 p6 q1 q2 q3 q4 q5 q6 : Int) (P Q R S : ByteArray) (w : World) (T : CW w)
    (ho : o = o0 - 840) (hb : b = a + 1 + b0) (ba : 0 ≤ a ∧ a < 50000000) (bb0 : 0 ≤ b0 ∧ b0 < 50000000 - a) (bb1 : 0 ≤ b1 ∧ b1 < 3000) (bo : 0 ≤ o0 ∧ o0 < 1681)
    (HP : ∀ w, Calls Tryd.prog 42 #[.int .i64 x1, .int .i64 50000000] w fun e w' => e = .returned (.int .i64 a) ∧ w = w')
    (HQ : ∀ w, Calls Tryd.prog 42 #[.int .i64 x2, .int .i64 (50000000 - a)] w fun e w' => e = .returned (.int .i64 b0) ∧ w = w') (HM2 : True)
    (HO : ∀ w, Calls Tryd.prog 42 #[.int .i64 x3, .int .i64 1681] w fun e w' => e = .returned (.int .i64 o0) ∧ w = w')
    (HA : ∀ w, CTab w → Calls Tryd.prog 43 #[.int .i64 a, .int .i64 o] w fun r w' => r = .returned (.tuple #[civV p1 p2 p3 p4 p5 p6, .int .i64 0]) ∧ Below w.heap.size w w')
    (HB : ∀ w, CTab w → Calls Tryd.prog 43 #[.int .i64 b, .int .i64 o] w fun r w' => r = .returned (.tuple #[civV q1 q2 q3 q4 q5 q6, .int .i64 0]) ∧ Below w.heap.size w w')
    (HC : ∀ w, CTab w → Calls Tryd.prog 45 #[.int .i64 a, .int .i64 o] w fun r w' => r = .returned (.tuple #[.string P, .string Q, .int .i64 0]) ∧ Below w.heap.size w w')
    (HD : ∀ w, CTab w → Calls Tryd.prog 45 #[.int .i64 b, .int .i64 o] w fun r w' => r = .returned (.tuple #[.string R, .string S, .int .i64 0]) ∧ Below w.heap.size w w')
    (HX : ∀ w, Calls Tryd.prog 53 #[civV p1 p2 p3 p4 p5 p6, civV q1 q2 q3 q4 q5 q6] w fun r w' => r = .returned (.bool true) ∧ Below w.heap.size w w')
    (HY : ∀ w, Calls Tryd.prog 53 #[civV q1 q2 q3 q4 q5 q6, civV p1 p2 p3 p4 p5 p6] w fun r w' => r = .returned (.bool false) ∧ Below w.heap.size w w')
    (sP : P.size = 10) (sQ : Q.size = 5) (sR : R.size = 10) (sS : S.size = 5) (less : Op.bytesLess (P ++ Q).toList (R ++ S).toList = true) :
    Calls Tryd.prog 11 #[.int .i64 x1, .int .i64 x2, .int .i64 x3, .bool false] w fun r w' => r = .returned (.bool true) ∧ Below w.heap.size w w' := by
  have HT := Lib.hid T
  have BB := Lib.hid (Below.refl w.heap.size w)
  have GP := Lib.hid HP
  have GQ := Lib.hid HQ
  have GM := Lib.hid HM2
  have GO := Lib.hid HO
  have GA := Lib.hid HA
  have GB := Lib.hid HB
  have GC := Lib.hid HC
  have GD := Lib.hid HD
  have GX := Lib.hid HX
  have GY := Lib.hid HY
  obtain ⟨ba1, ba2⟩ := ba
  obtain ⟨bb01, bb02⟩ := bb0
  obtain ⟨bb11, bb12⟩ := bb1
  obtain ⟨bo1, bo2⟩ := bo
  have o1 : -840 ≤ o := by omega
  have o2 : o ≤ 840 := by omega
  have v1 : 0 ≤ b := by omega
  have v2 : b ≤ 50000000 := by omega
  have ho' := Lib.hid ho
  have hb' := Lib.hid hb
  clear T HP HQ HM2 HO HA HB HC HD HX HY ho hb
  go_enter Tryd.func11, Tryd.ntmps11
  go_wp2_with fail
  refine (saneC_any _ HT.out).mono ?_
  rintro e w1 ⟨rfl, hb⟩
  have HB := Lib.hid hb
  have hW : Below w.heap.size w w1 := by (repeat' first | exact Below.refl _ _ | assumption | (refine Below.andThen ?_ HB.out) | (exact HB.out.size) | (refine below_drewN ?_ _) | (refine Below.drew ?_) | (refine Below.alloc ?_ ?_ _) | (refine Below.setCell ?_ ?_ _) | (simp; done) | (simp; omega) | omega)
  replace BB := Lib.hid (Below.andThen BB.out hW)
  replace HT := Lib.hid (HT.out.next hW)
  clear hb hW HB
  go_wp2_with fail
  refine (sameB (GP.out _)).mono ?_
  rintro e w2 ⟨rfl, hb⟩
  have HB := Lib.hid hb
  have hW : Below w1.heap.size w1 w2 := by (repeat' first | exact Below.refl _ _ | assumption | (refine Below.andThen ?_ HB.out) | (exact HB.out.size) | (refine below_drewN ?_ _) | (refine Below.drew ?_) | (refine Below.alloc ?_ ?_ _) | (refine Below.setCell ?_ ?_ _) | (simp; done) | (simp; omega) | omega)
  replace BB := Lib.hid (Below.andThen BB.out hW)
  replace HT := Lib.hid (HT.out.next hW)
  clear hb hW HB
  go_wp2_with fail
  refine (sameB (GQ.out _)).mono ?_
  rintro e w3 ⟨rfl, hb⟩
  have HB := Lib.hid hb
  have hW : Below w2.heap.size w2 w3 := by (repeat' first | exact Below.refl _ _ | assumption | (refine Below.andThen ?_ HB.out) | (exact HB.out.size) | (refine below_drewN ?_ _) | (refine Below.drew ?_) | (refine Below.alloc ?_ ?_ _) | (refine Below.setCell ?_ ?_ _) | (simp; done) | (simp; omega) | omega)
  replace BB := Lib.hid (Below.andThen BB.out hW)
  replace HT := Lib.hid (HT.out.next hW)
  clear hb hW HB
  go_wp2_with (first | (with_reducible refine Calls.mono (GM.out _) ?_; rintro e w' ⟨rfl, rfl⟩) | (with_reducible refine Calls.mono (GO.out _) ?_; rintro e w' ⟨rfl, rfl⟩))
  rw [← ho'.out, ← hb'.out]
  clear bo1 bo2 ho' hb'
  refine (GA.out _ HT.out.tab).mono ?_
  rintro e w4 ⟨rfl, hb⟩
  have HB := Lib.hid hb
  have hW : Below w3.heap.size w3 w4 := by (repeat' first | exact Below.refl _ _ | assumption | (refine Below.andThen ?_ HB.out) | (exact HB.out.size) | (refine below_drewN ?_ _) | (refine Below.drew ?_) | (refine Below.alloc ?_ ?_ _) | (refine Below.setCell ?_ ?_ _) | (simp; done) | (simp; omega) | omega)
  replace BB := Lib.hid (Below.andThen BB.out hW)
  replace HT := Lib.hid (HT.out.next hW)
  clear hb hW HB
  go_wp2_with fail
  refine (GB.out _ (HT.out.next (by (repeat' first | with_reducible exact Below.refl _ _ | with_reducible assumption | (with_reducible refine below_drewN ?_ _) | (with_reducible refine Below.drew ?_) | (with_reducible refine Below.alloc ?_ ?_ _) | (with_reducible refine Below.setCell ?_ ?_ _) | omega | (simp; done) | (simp; omega)))).tab).mono ?_
  rintro e w5 ⟨rfl, hb⟩
  have HB := Lib.hid hb
  have hW : Below w4.heap.size w4 w5 := by (repeat' first | exact Below.refl _ _ | assumption | (refine Below.andThen ?_ HB.out) | (exact HB.out.size) | (refine below_drewN ?_ _) | (refine Below.drew ?_) | (refine Below.alloc ?_ ?_ _) | (refine Below.setCell ?_ ?_ _) | (simp; done) | (simp; omega) | omega)
  have F1 : Has6 w5 (w4.heap.size) (.int .i64 p1) (.int .i64 p2) (.int .i64 p3) (.int .i64 p4) (.int .i64 p5) (.int .i64 p6) := has6 ⟨(by first | (simp; done) | (simp; omega)), by go_simp, by go_simp, by go_simp, by go_simp, by go_simp, by go_simp⟩ hb
  replace BB := Lib.hid (Below.andThen BB.out hW)
  replace HT := Lib.hid (HT.out.next hW)
  clear hb hW HB
  go_wp2_with fail
  refine (GC.out _ (HT.out.next (by (repeat' first | with_reducible exact Below.refl _ _ | with_reducible assumption | (with_reducible refine below_drewN ?_ _) | (with_reducible refine Below.drew ?_) | (with_reducible refine Below.alloc ?_ ?_ _) | (with_reducible refine Below.setCell ?_ ?_ _) | omega | (simp; done) | (simp; omega)))).tab).mono ?_
  rintro e w6 ⟨rfl, hb⟩
  have HB := Lib.hid hb
  have hW : Below w5.heap.size w5 w6 := by (repeat' first | exact Below.refl _ _ | assumption | (refine Below.andThen ?_ HB.out) | (exact HB.out.size) | (refine below_drewN ?_ _) | (refine Below.drew ?_) | (refine Below.alloc ?_ ?_ _) | (refine Below.setCell ?_ ?_ _) | (simp; done) | (simp; omega) | omega)
  replace F1 := has6 F1 hW
  have F2 : Has6 w6 (w5.heap.size) (.int .i64 q1) (.int .i64 q2) (.int .i64 q3) (.int .i64 q4) (.int .i64 q5) (.int .i64 q6) := has6 ⟨(by first | (simp; done) | (simp; omega)), by go_simp, by go_simp, by go_simp, by go_simp, by go_simp, by go_simp⟩ hb
  replace BB := Lib.hid (Below.andThen BB.out hW)
  replace HT := Lib.hid (HT.out.next hW)
  clear hb hW HB
  go_wp2_with fail
  refine (GD.out _ HT.out.tab).mono ?_
  rintro e w7 ⟨rfl, hb⟩
  have HB := Lib.hid hb
  have hW : Below w6.heap.size w6 w7 := by (repeat' first | exact Below.refl _ _ | assumption | (refine Below.andThen ?_ HB.out) | (exact HB.out.size) | (refine below_drewN ?_ _) | (refine Below.drew ?_) | (refine Below.alloc ?_ ?_ _) | (refine Below.setCell ?_ ?_ _) | (simp; done) | (simp; omega) | omega)
  replace F1 := has6 F1 hW
  replace F2 := has6 F2 hW
  replace BB := Lib.hid (Below.andThen BB.out hW)
  replace HT := Lib.hid (HT.out.next hW)
  clear hb hW HB
  go_wp2_with fail
  refine (GX.out _).mono ?_
  rintro e w8 ⟨rfl, hb⟩
  have HB := Lib.hid hb
  have hW : Below w7.heap.size w7 w8 := by (repeat' first | exact Below.refl _ _ | assumption | (refine Below.andThen ?_ HB.out) | (exact HB.out.size) | (refine below_drewN ?_ _) | (refine Below.drew ?_) | (refine Below.alloc ?_ ?_ _) | (refine Below.setCell ?_ ?_ _) | (simp; done) | (simp; omega) | omega)
  replace F1 := has6 F1 hW
  replace F2 := has6 F2 hW
  replace BB := Lib.hid (Below.andThen BB.out hW)
  replace HT := Lib.hid (HT.out.next hW)
  clear hb hW HB
  go_wp2_with fail
  refine (GY.out _).mono ?_
  rintro e w9 ⟨rfl, hb⟩
  have HB := Lib.hid hb
  have hW : Below w8.heap.size w8 w9 := by (repeat' first | exact Below.refl _ _ | assumption | (refine Below.andThen ?_ HB.out) | (exact HB.out.size) | (refine below_drewN ?_ _) | (refine Below.drew ?_) | (refine Below.alloc ?_ ?_ _) | (refine Below.setCell ?_ ?_ _) | (simp; done) | (simp; omega) | omega)
  replace F1 := has6 F1 hW
  replace F2 := has6 F2 hW
  replace BB := Lib.hid (Below.andThen BB.out hW)
  replace HT := Lib.hid (HT.out.next hW)
  clear hb hW HB
  go_wp2
  go_ret
  exact ⟨rfl, BB.out⟩

set_option maxRecDepth 100000 in
set_option maxHeartbeats 4000000 in
theorem order_true (x1 x2 x3 a b b0 b1 o0 o p1 p2 p3 p4 p5 p6 q1 q2 q3 q4 q5 q6 : Int) (P Q R S : ByteArray) (w : World) (T : CW w)
    (ho : o = o0 - 840) (hb : b = min 50000000 (a + 1 + b1)) (ba : 0 ≤ a ∧ a < 50000000) (bb0 : 0 ≤ b0 ∧ b0 < 50000000 - a) (bb1 : 0 ≤ b1 ∧ b1 < 3000) (bo : 0 ≤ o0 ∧ o0 < 1681)
    (HP : ∀ w, Calls Tryd.prog 42 #[.int .i64 x1, .int .i64 50000000] w fun e w' => e = .returned (.int .i64 a) ∧ w = w')
    (HQ : ∀ w, Calls Tryd.prog 42 #[.int .i64 x2, .int .i64 (50000000 - a)] w fun e w' => e = .returned (.int .i64 b0) ∧ w = w') (HM2 : ∀ w, Calls Tryd.prog 42 #[.int .i64 x2, .int .i64 3000] w fun e w' => e = .returned (.int .i64 b1) ∧ w = w')
    (HO : ∀ w, Calls Tryd.prog 42 #[.int .i64 x3, .int .i64 1681] w fun e w' => e = .returned (.int .i64 o0) ∧ w = w')
    (HA : ∀ w, CTab w → Calls Tryd.prog 43 #[.int .i64 a, .int .i64 o] w fun r w' => r = .returned (.tuple #[civV p1 p2 p3 p4 p5 p6, .int .i64 0]) ∧ Below w.heap.size w w')
    (HB : ∀ w, CTab w → Calls Tryd.prog 43 #[.int .i64 b, .int .i64 o] w fun r w' => r = .returned (.tuple #[civV q1 q2 q3 q4 q5 q6, .int .i64 0]) ∧ Below w.heap.size w w')
    (HC : ∀ w, CTab w → Calls Tryd.prog 45 #[.int .i64 a, .int .i64 o] w fun r w' => r = .returned (.tuple #[.string P, .string Q, .int .i64 0]) ∧ Below w.heap.size w w')
    (HD : ∀ w, CTab w → Calls Tryd.prog 45 #[.int .i64 b, .int .i64 o] w fun r w' => r = .returned (.tuple #[.string R, .string S, .int .i64 0]) ∧ Below w.heap.size w w')
    (HX : ∀ w, Calls Tryd.prog 53 #[civV p1 p2 p3 p4 p5 p6, civV q1 q2 q3 q4 q5 q6] w fun r w' => r = .returned (.bool true) ∧ Below w.heap.size w w')
    (HY : ∀ w, Calls Tryd.prog 53 #[civV q1 q2 q3 q4 q5 q6, civV p1 p2 p3 p4 p5 p6] w fun r w' => r = .returned (.bool false) ∧ Below w.heap.size w w')
    (sP : P.size = 10) (sQ : Q.size = 5) (sR : R.size = 10) (sS : S.size = 5) (less : Op.bytesLess (P ++ Q).toList (R ++ S).toList = true) :
    Calls Tryd.prog 11 #[.int .i64 x1, .int .i64 x2, .int .i64 x3, .bool true] w fun r w' => r = .returned (.bool true) ∧ Below w.heap.size w w' := by
  have HT := Lib.hid T
  have BB := Lib.hid (Below.refl w.heap.size w)
  have GP := Lib.hid HP
  have GQ := Lib.hid HQ
  have GM := Lib.hid HM2
  have GO := Lib.hid HO
  have GA := Lib.hid HA
  have GB := Lib.hid HB
  have GC := Lib.hid HC
  have GD := Lib.hid HD
  have GX := Lib.hid HX
  have GY := Lib.hid HY
  obtain ⟨ba1, ba2⟩ := ba
  obtain ⟨bb01, bb02⟩ := bb0
  obtain ⟨bb11, bb12⟩ := bb1
  obtain ⟨bo1, bo2⟩ := bo
  have o1 : -840 ≤ o := by omega
  have o2 : o ≤ 840 := by omega
  have v1 : 0 ≤ b := by omega
  have v2 : b ≤ 50000000 := by omega
  have ho' := Lib.hid ho
  have hb' := Lib.hid hb
  clear T HP HQ HM2 HO HA HB HC HD HX HY ho hb
  go_enter Tryd.func11, Tryd.ntmps11
  go_wp2_with fail
  refine (saneC_any _ HT.out).mono ?_
  rintro e w1 ⟨rfl, hb⟩
  have HB := Lib.hid hb
  have hW : Below w.heap.size w w1 := by (repeat' first | exact Below.refl _ _ | assumption | (refine Below.andThen ?_ HB.out) | (exact HB.out.size) | (refine below_drewN ?_ _) | (refine Below.drew ?_) | (refine Below.alloc ?_ ?_ _) | (refine Below.setCell ?_ ?_ _) | (simp; done) | (simp; omega) | omega)
  replace BB := Lib.hid (Below.andThen BB.out hW)
  replace HT := Lib.hid (HT.out.next hW)
  clear hb hW HB
  go_wp2_with fail
  refine (sameB (GP.out _)).mono ?_
  rintro e w2 ⟨rfl, hb⟩
  have HB := Lib.hid hb
  have hW : Below w1.heap.size w1 w2 := by (repeat' first | exact Below.refl _ _ | assumption | (refine Below.andThen ?_ HB.out) | (exact HB.out.size) | (refine below_drewN ?_ _) | (refine Below.drew ?_) | (refine Below.alloc ?_ ?_ _) | (refine Below.setCell ?_ ?_ _) | (simp; done) | (simp; omega) | omega)
  replace BB := Lib.hid (Below.andThen BB.out hW)
  replace HT := Lib.hid (HT.out.next hW)
  clear hb hW HB
  go_wp2_with fail
  refine (sameB (GQ.out _)).mono ?_
  rintro e w3 ⟨rfl, hb⟩
  have HB := Lib.hid hb
  have hW : Below w2.heap.size w2 w3 := by (repeat' first | exact Below.refl _ _ | assumption | (refine Below.andThen ?_ HB.out) | (exact HB.out.size) | (refine below_drewN ?_ _) | (refine Below.drew ?_) | (refine Below.alloc ?_ ?_ _) | (refine Below.setCell ?_ ?_ _) | (simp; done) | (simp; omega) | omega)
  replace BB := Lib.hid (Below.andThen BB.out hW)
  replace HT := Lib.hid (HT.out.next hW)
  clear hb hW HB
  go_wp2_with (first | (with_reducible refine Calls.mono (GM.out _) ?_; rintro e w' ⟨rfl, rfl⟩) | (with_reducible refine Calls.mono (GO.out _) ?_; rintro e w' ⟨rfl, rfl⟩))
  rw [← ho'.out, ← hb'.out]
  clear bo1 bo2 ho' hb'
  refine (GA.out _ HT.out.tab).mono ?_
  rintro e w4 ⟨rfl, hb⟩
  have HB := Lib.hid hb
  have hW : Below w3.heap.size w3 w4 := by (repeat' first | exact Below.refl _ _ | assumption | (refine Below.andThen ?_ HB.out) | (exact HB.out.size) | (refine below_drewN ?_ _) | (refine Below.drew ?_) | (refine Below.alloc ?_ ?_ _) | (refine Below.setCell ?_ ?_ _) | (simp; done) | (simp; omega) | omega)
  replace BB := Lib.hid (Below.andThen BB.out hW)
  replace HT := Lib.hid (HT.out.next hW)
  clear hb hW HB
  go_wp2_with fail
  refine (GB.out _ (HT.out.next (by (repeat' first | with_reducible exact Below.refl _ _ | with_reducible assumption | (with_reducible refine below_drewN ?_ _) | (with_reducible refine Below.drew ?_) | (with_reducible refine Below.alloc ?_ ?_ _) | (with_reducible refine Below.setCell ?_ ?_ _) | omega | (simp; done) | (simp; omega)))).tab).mono ?_
  rintro e w5 ⟨rfl, hb⟩
  have HB := Lib.hid hb
  have hW : Below w4.heap.size w4 w5 := by (repeat' first | exact Below.refl _ _ | assumption | (refine Below.andThen ?_ HB.out) | (exact HB.out.size) | (refine below_drewN ?_ _) | (refine Below.drew ?_) | (refine Below.alloc ?_ ?_ _) | (refine Below.setCell ?_ ?_ _) | (simp; done) | (simp; omega) | omega)
  have F1 : Has6 w5 (w4.heap.size) (.int .i64 p1) (.int .i64 p2) (.int .i64 p3) (.int .i64 p4) (.int .i64 p5) (.int .i64 p6) := has6 ⟨(by first | (simp; done) | (simp; omega)), by go_simp, by go_simp, by go_simp, by go_simp, by go_simp, by go_simp⟩ hb
  replace BB := Lib.hid (Below.andThen BB.out hW)
  replace HT := Lib.hid (HT.out.next hW)
  clear hb hW HB
  go_wp2_with fail
  refine (GC.out _ (HT.out.next (by (repeat' first | with_reducible exact Below.refl _ _ | with_reducible assumption | (with_reducible refine below_drewN ?_ _) | (with_reducible refine Below.drew ?_) | (with_reducible refine Below.alloc ?_ ?_ _) | (with_reducible refine Below.setCell ?_ ?_ _) | omega | (simp; done) | (simp; omega)))).tab).mono ?_
  rintro e w6 ⟨rfl, hb⟩
  have HB := Lib.hid hb
  have hW : Below w5.heap.size w5 w6 := by (repeat' first | exact Below.refl _ _ | assumption | (refine Below.andThen ?_ HB.out) | (exact HB.out.size) | (refine below_drewN ?_ _) | (refine Below.drew ?_) | (refine Below.alloc ?_ ?_ _) | (refine Below.setCell ?_ ?_ _) | (simp; done) | (simp; omega) | omega)
  replace F1 := has6 F1 hW
  have F2 : Has6 w6 (w5.heap.size) (.int .i64 q1) (.int .i64 q2) (.int .i64 q3) (.int .i64 q4) (.int .i64 q5) (.int .i64 q6) := has6 ⟨(by first | (simp; done) | (simp; omega)), by go_simp, by go_simp, by go_simp, by go_simp, by go_simp, by go_simp⟩ hb
  replace BB := Lib.hid (Below.andThen BB.out hW)
  replace HT := Lib.hid (HT.out.next hW)
  clear hb hW HB
  go_wp2_with fail
  refine (GD.out _ HT.out.tab).mono ?_
  rintro e w7 ⟨rfl, hb⟩
  have HB := Lib.hid hb
  have hW : Below w6.heap.size w6 w7 := by (repeat' first | exact Below.refl _ _ | assumption | (refine Below.andThen ?_ HB.out) | (exact HB.out.size) | (refine below_drewN ?_ _) | (refine Below.drew ?_) | (refine Below.alloc ?_ ?_ _) | (refine Below.setCell ?_ ?_ _) | (simp; done) | (simp; omega) | omega)
  replace F1 := has6 F1 hW
  replace F2 := has6 F2 hW
  replace BB := Lib.hid (Below.andThen BB.out hW)
  replace HT := Lib.hid (HT.out.next hW)
  clear hb hW HB
  go_wp2_with fail
  refine (GX.out _).mono ?_
  rintro e w8 ⟨rfl, hb⟩
  have HB := Lib.hid hb
  have hW : Below w7.heap.size w7 w8 := by (repeat' first | exact Below.refl _ _ | assumption | (refine Below.andThen ?_ HB.out) | (exact HB.out.size) | (refine below_drewN ?_ _) | (refine Below.drew ?_) | (refine Below.alloc ?_ ?_ _) | (refine Below.setCell ?_ ?_ _) | (simp; done) | (simp; omega) | omega)
  replace F1 := has6 F1 hW
  replace F2 := has6 F2 hW
  replace BB := Lib.hid (Below.andThen BB.out hW)
  replace HT := Lib.hid (HT.out.next hW)
  clear hb hW HB
  go_wp2_with fail
  refine (GY.out _).mono ?_
  rintro e w9 ⟨rfl, hb⟩
  have HB := Lib.hid hb
  have hW : Below w8.heap.size w8 w9 := by (repeat' first | exact Below.refl _ _ | assumption | (refine Below.andThen ?_ HB.out) | (exact HB.out.size) | (refine below_drewN ?_ _) | (refine Below.drew ?_) | (refine Below.alloc ?_ ?_ _) | (refine Below.setCell ?_ ?_ _) | (simp; done) | (simp; omega) | omega)
  replace F1 := has6 F1 hW
  replace F2 := has6 F2 hW
  replace BB := Lib.hid (Below.andThen BB.out hW)
  replace HT := Lib.hid (HT.out.next hW)
  clear hb hW HB
  go_wp2
  go_ret
  exact ⟨rfl, BB.out⟩

theorem calendarOrder_any (x1 x2 x3 : Int) (near : Bool) (w : World) (T : CW w) (c1 : -9223372036854775808 ≤ x1 ∧ x1 ≤ 9223372036854775807) (c2 : -9223372036854775808 ≤ x2 ∧ x2 ≤ 9223372036854775807) (c3 : -9223372036854775808 ≤ x3 ∧ x3 ≤ 9223372036854775807) :
    Calls Tryd.prog 11 #[.int .i64 x1, .int .i64 x2, .int .i64 x3, .bool near] w fun r w' => r = .returned (.bool true) ∧ Below w.heap.size w w' := by
  have q1 := pick_bd x1 50000000 (by omega)
  have q3 := pick_bd x3 1681 (by omega)
  have q4 := pick_bd x2 3000 (by omega)
  have HP := fun w => pickC_any x1 50000000 w (by omega) c1.1 c1.2
  have HO := fun w => pickC_any x3 1681 w (by omega) c3.1 c3.2
  have HM2 := fun w => pickC_any x2 3000 w (by omega) c2.1 c2.2
  generalize pickZ x1 50000000 = a at *
  generalize pickZ x2 3000 = b1 at *
  have q2 := pick_bd x2 (50000000 - a) (by omega)
  have HQ := fun w => pickC_any x2 (50000000 - a) w (by omega) c2.1 c2.2
  generalize pickZ x2 (50000000 - a) = b0 at *
  obtain ⟨o, ho⟩ : ∃ o, o = pickZ x3 1681 - 840 := ⟨_, rfl⟩
  have key : ∀ b, a < b ∧ b ≤ 50000000 → ∀ (G : ∀ (p1 p2 p3 p4 p5 p6 q1 q2 q3 q4 q5 q6 : Int) (P Q R S : ByteArray),
      (∀ w, CTab w → Calls Tryd.prog 43 #[.int .i64 a, .int .i64 o] w fun r w' => r = .returned (.tuple #[civV p1 p2 p3 p4 p5 p6, .int .i64 0]) ∧ Below w.heap.size w w') →
      (∀ w, CTab w → Calls Tryd.prog 43 #[.int .i64 b, .int .i64 o] w fun r w' => r = .returned (.tuple #[civV q1 q2 q3 q4 q5 q6, .int .i64 0]) ∧ Below w.heap.size w w') →
      (∀ w, CTab w → Calls Tryd.prog 45 #[.int .i64 a, .int .i64 o] w fun r w' => r = .returned (.tuple #[.string P, .string Q, .int .i64 0]) ∧ Below w.heap.size w w') →
      (∀ w, CTab w → Calls Tryd.prog 45 #[.int .i64 b, .int .i64 o] w fun r w' => r = .returned (.tuple #[.string R, .string S, .int .i64 0]) ∧ Below w.heap.size w w') →
      (∀ w, Calls Tryd.prog 53 #[civV p1 p2 p3 p4 p5 p6, civV q1 q2 q3 q4 q5 q6] w fun r w' => r = .returned (.bool true) ∧ Below w.heap.size w w') →
      (∀ w, Calls Tryd.prog 53 #[civV q1 q2 q3 q4 q5 q6, civV p1 p2 p3 p4 p5 p6] w fun r w' => r = .returned (.bool false) ∧ Below w.heap.size w w') →
      P.size = 10 → Q.size = 5 → R.size = 10 → S.size = 5 → Op.bytesLess (P ++ Q).toList (R ++ S).toList = true →
      Calls Tryd.prog 11 #[.int .i64 x1, .int .i64 x2, .int .i64 x3, .bool near] w fun r w' => r = .returned (.bool true) ∧ Below w.heap.size w w'),
      Calls Tryd.prog 11 #[.int .i64 x1, .int .i64 x2, .int .i64 x3, .bool near] w fun r w' => r = .returned (.bool true) ∧ Below w.heap.size w w' := by
    intro b hb G
    obtain ⟨_, e1, e2⟩ := parts_ok (m := a) (o := o) (by omega) (by omega)
    obtain ⟨_, e3, e4⟩ := parts_ok (m := b) (o := o) (by omega) (by omega)
    obtain ⟨f1, i1⟩ := print_ok (m := a) (o := o) (by omega) (by omega)
    obtain ⟨f2, i2⟩ := print_ok (m := b) (o := o) (by omega) (by omega)
    have ord := civ_order (L := a + o) (M := b + o) (by omega) (by omega) (by omega)
    obtain ⟨l1, l2⟩ := before_of ord
    have h1 := fun w => before_any (civOf (a + o)) (civOf (b + o)) w
    have h2 := fun w => before_any (civOf (b + o)) (civOf (a + o)) w
    rw [l1] at h1
    rw [l2] at h2
    exact G _ _ _ _ _ _ _ _ _ _ _ _ _ _ _ _ (parts_v e1 e2) (parts_v e3 e4) (print_v f1) (print_v f2) h1 h2 (date_size _) (clock_size _) (date_size _) (clock_size _) (printed_less i1 i2 ord)
  cases near
  · refine key (a + 1 + b0) (by omega) fun p1 p2 p3 p4 p5 p6 r1 r2 r3 r4 r5 r6 P Q R S g1 g2 g3 g4 g5 g6 s1 s2 s3 s4 s5 => ?_
    exact order_false x1 x2 x3 a _ b0 b1 _ o p1 p2 p3 p4 p5 p6 r1 r2 r3 r4 r5 r6 P Q R S w T ho rfl q1 q2 q4 q3 HP HQ trivial HO g1 g2 g3 g4 g5 g6 s1 s2 s3 s4 s5
  · refine key (min 50000000 (a + 1 + b1)) (by omega) fun p1 p2 p3 p4 p5 p6 r1 r2 r3 r4 r5 r6 P Q R S g1 g2 g3 g4 g5 g6 s1 s2 s3 s4 s5 => ?_
    exact order_true x1 x2 x3 a _ b0 b1 _ o p1 p2 p3 p4 p5 p6 r1 r2 r3 r4 r5 r6 P Q R S w T ho rfl q1 q2 q4 q3 HP HQ HM2 HO g1 g2 g3 g4 g5 g6 s1 s2 s3 s4 s5

namespace calendarOrder
set_option maxRecDepth 100000 in
theorem contract (H : Type) (enc : TypeId × Value → H) (W : World) (base : Nat) (args : Array Value) (ds gs : List (DataW H)) (before : List MemPlace)
    (hval : ∀ (j : Nat) t v, Tryd.f11.params[j]? = some t → args[j]? = some v → Value.okWide Tryd.prog W .any base t v)
    (hW : DataW.Whole enc Tryd.prog Tryd.f11.params.toList Rows.calendarOrderSpec.vars false W args.toList ds gs before) (hL : laidMetH Tryd.prog Rows.calendarOrderRow.laid W) (hsh : W.ShapedOpen Tryd.prog) :
    Calls Tryd.prog 11 args W fun e W' => ∃ v, e = .returned v ∧ Rows.calendarOrderSpec.post enc Tryd.prog Tryd.f11 false true false false W args v W' := by
  have hW' := hW
  obtain ⟨p, q, hA0, hV, rfl, hfz, hnd⟩ := hW
  have hA : DataW.TrodAll enc Tryd.prog W 0 (fun _ => true) true Tryd.f11.params.toList args.toList ds p := hA0
  rw [Tryd.params11] at hA hval
  obtain ⟨v0, vs0, d0, ds0, p0, q0, hargs, rfl, rfl, h0, r0⟩ := trodAll_cons hA
  obtain ⟨v1, vs1, d1, ds1, p1, q1, rfl, rfl, rfl, h1, r1⟩ := trodAll_cons r0
  obtain ⟨v2, vs2, d2, ds2, p2, q2, rfl, rfl, rfl, h2, r2⟩ := trodAll_cons r1
  obtain ⟨v3, vs3, d3, ds3, p3, q3, rfl, rfl, rfl, h3, r3⟩ := trodAll_cons r2
  obtain ⟨rfl, rfl, rfl⟩ := trodAll_nil r3
  obtain rfl : args = #[v0, v1, v2, v3] := by cases args; simp_all
  obtain ⟨a0, rfl, rfl, rfl, k0⟩ := open_int Tryd.underlying3 (hval 0 _ _ rfl rfl) h0
  obtain ⟨a1, rfl, rfl, rfl, k1⟩ := open_int Tryd.underlying3 (hval 1 _ _ rfl rfl) h1
  obtain ⟨a2, rfl, rfl, rfl, k2⟩ := open_int Tryd.underlying3 (hval 2 _ _ rfl rfl) h2
  obtain ⟨a3, rfl, rfl, rfl⟩ := open_bool Tryd.underlying4 (hval 3 _ _ rfl rfl) h3
  refine (calendarOrder_any a0 a1 a2 a3 W (cw hL hsh) (bd_i64 k0) (bd_i64 k1) (bd_i64 k2)).mono fun e W' ⟨he, hb⟩ => ?_
  subst he
  obtain ⟨rfl, _⟩ := trodVars_none hV
  exact ⟨_, rfl, law_post laidOut (by kernel_rfl) rfl (by kernel_rfl) Tryd.underlying4 hW' rfl hb⟩

def args0 : Array Value := #[.int .i64 0, .int .i64 0, .int .i64 0, .bool false]
theorem laid_met (os : Os) : laidMet Tryd.prog Rows.calendarOrderRow.laid ((laidWorld os).forCall (fun _ _ => 0) ⟨#[], args0, []⟩).memory :=
  laidMet_of_run' 8 (by kernel_rfl) (by kernel_rfl)
theorem reads (os : Os) {H : Type} (enc : TypeId × Value → H) : ∃ places, DataW.whole enc Tryd.prog ((laidWorld os).forCall (fun _ _ => 0) ⟨#[], args0, []⟩).memory Tryd.f11.params.toList Rows.calendarOrderSpec.vars false args0.toList 8 = some ([.lit (.int .i64 0), .lit (.int .i64 0), .lit (.int .i64 0), .lit (.bool false)], [], places) :=
  ⟨[], by kernel_rfl⟩

set_option maxRecDepth 100000 in
theorem lifted (os : Os) (started : os.Started) (H : Type) (enc : TypeId × Value → H) (F : Stop.Interp) :
    ReturnsInHanded {} Tryd.checked os 11 .any ((OpenSpec.ofChange Rows.calendarOrderSpec).preRow enc Tryd.prog Tryd.f11 Rows.calendarOrderRow.domain false Rows.calendarOrderRow.laid) (((OpenSpec.ofChange Rows.calendarOrderSpec).at F).post enc Tryd.prog Tryd.f11 false true false false) := by
  obtain ⟨places, hx⟩ := reads os enc
  refine returnsInHanded_of_row (C := Tryd.checked) (s := OpenSpec.ofChange Rows.calendarOrderSpec) own started (by kernel_rfl) Tryd.func11
    (witness_row_at (enc := enc) (C := Tryd.checked) false (laidWorld os) args0 rfl (by kernel_rfl) (by kernel_rfl) (by kernel_rfl)
      (OpenSpec.preRow_of_cond 8 hx (by kernel_rfl) (fun k hk => by cases hk) (by kernel_rfl) (laid_met os))) ?_
  intro W base args ds gs before hval hW _ _ _ hL hsh _
  exact contract H enc W base args ds gs before hval hW hL hsh

theorem said : Rows.CalendarOrderSaid :=
  OpenClaim.holds_of_cond 11 Tryd.f11 rfl rfl rfl rfl rfl rfl rfl ⟨rfl, rfl, rfl, rfl, rfl⟩ rfl rfl rfl rfl rfl (by kernel_rfl) Tryd.func11 (by kernel_rfl)
    (of_decide_eq_true (by kernel_rfl)) (by unfold Func.isWrapper; first | (rw [if_pos (by decide +kernel)]; kernel_rfl) | (rw [if_neg (by decide +kernel)]; exact ⟨rfl, rfl⟩))
    (fun os started H enc _ F => by rw [OpenClaim.pre_eq_preRow]; exact lifted os started H enc F)

theorem plain (f : FuncId) (fn : Func) (hf : Tryd.pinned.checked.prog.funcNamed "newswire/newswirelaw06.CalendarOrder" = some f) (hfn : Tryd.pinned.checked.prog.funcs[f]? = some fn) :
    false = Tryd.pinned.checked.prog.looks [] ∧ ∀ (j : Nat) t, fn.params[j]? = some t → Tryd.pinned.checked.prog.wantsStandIn t = false := by
  obtain rfl : f = 11 := Option.some.inj ((show Tryd.prog.funcNamed "newswire/newswirelaw06.CalendarOrder" = some 11 by kernel_rfl).symm.trans hf) |>.symm
  obtain rfl : fn = Tryd.f11 := (Option.some.inj (Tryd.func11.symm.trans hfn)).symm
  refine ⟨by kernel_rfl, fun j t ht => ?_⟩
  have all : (Tryd.f11.params.toList.all fun t => Tryd.prog.wantsStandIn t == false) = true := by kernel_rfl
  have := List.all_eq_true.1 all t (by rw [← Array.mem_def]; exact Array.mem_of_getElem? ht)
  exact (show Tryd.prog.wantsStandIn t = false by simpa using this)

/-- The statement. -/
theorem card : Rows.CalendarOrderCardSaid :=
  Claim7.holds_tied_plain_at .later [] _ _ _ _ said (fun _ h => by cases h) (by kernel_rfl) (fun _ h => by cases h) calendarOrder_row_tie rfl ⟨rfl, rfl⟩ (by kernel_rfl) rfl plain (by kernel_rfl)
end calendarOrder
end Go.Proofs.YtdldokhiefeloaaDoor
