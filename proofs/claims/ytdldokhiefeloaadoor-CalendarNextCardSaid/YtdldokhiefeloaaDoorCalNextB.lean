/- CalendarNext's walk, the month's last day, not in December. -/
import Derived.Test.YtdldokhiefeloaaDoorCalX
import Derived.Test.YtdldokhiefeloaaDoorFree
namespace Go.Proofs.YtdldokhiefeloaaDoor
open Go.RowKit

set_option maxRecDepth 100000 in
set_option maxHeartbeats 4000000 in
theorem next_BX (x1 x2 m o0 o a1 a2 a3 a4 a5 a6 D d1 d2 d3 : Int) (w : World) (T : CW w) (ho : o = o0 - 840) (bm : 0 ≤ m ∧ m < 49989920) (bo : 0 ≤ o0 ∧ o0 < 1681)
    (HM : ∀ w, Calls Tryd.prog 42 #[.int .i64 x1, .int .i64 49989920] w fun e w' => e = .returned (.int .i64 m) ∧ w = w')
    (HO : ∀ w, Calls Tryd.prog 42 #[.int .i64 x2, .int .i64 1681] w fun e w' => e = .returned (.int .i64 o0) ∧ w = w')
    (HA : ∀ w, CTab w → Calls Tryd.prog 43 #[.int .i64 m, .int .i64 o] w fun r w' => r = .returned (.tuple #[civV a1 a2 a3 a4 a5 a6, .int .i64 0]) ∧ Below w.heap.size w w')
    (HB : ∀ w, CTab w → Calls Tryd.prog 43 #[.int .i64 (m + 1), .int .i64 o] w fun r w' => r = .returned (.tuple #[civV (a1) (a2) (a3) (a4) (a5 + 1) (a6), .int .i64 0]) ∧ Below w.heap.size w w')
    (HC : ∀ w, CTab w → Calls Tryd.prog 43 #[.int .i64 (m + 1440), .int .i64 o] w fun r w' => r = .returned (.tuple #[civV (a1) (a2 + 1) (1) a4 a5 ((a6 + 1) % 7), .int .i64 0]) ∧ Below w.heap.size w w')
    (HE : ∀ w, CTab w → Calls Tryd.prog 43 #[.int .i64 (m + 10080), .int .i64 o] w fun r w' => r = .returned (.tuple #[civV d1 d2 d3 a4 a5 a6, .int .i64 0]) ∧ Below w.heap.size w w')
    (HD : ∀ w, CTab w → Calls Tryd.prog 51 #[.int .i64 a1, .int .i64 a2] w fun e w' => e = .returned (.int .i64 D) ∧ w = w')
    (ba1 : 0 ≤ a1 ∧ a1 ≤ 9999) (ba2 : 1 ≤ a2 ∧ a2 ≤ 12) (ba3 : 1 ≤ a3 ∧ a3 ≤ 31) (ba4 : 0 ≤ a4 ∧ a4 < 24) (ba5 : 0 ≤ a5 ∧ a5 < 60) (ba6 : 0 ≤ a6 ∧ a6 < 7)
    (g1 : (a3 == D) = true) (g2 : (a2 + 1 == 13) = false) (g3 : (a5 + 1 == 60) = false) (g4 : (a4 == 24) = false) :
    Calls Tryd.prog 12 #[.int .i64 x1, .int .i64 x2] w fun r w' => r = .returned (.bool true) ∧ Below w.heap.size w w' := by
  have HT := Lib.hid T
  have BB := Lib.hid (Below.refl w.heap.size w)
  have GM := Lib.hid HM
  have GO := Lib.hid HO
  have GA := Lib.hid HA
  have GB := Lib.hid HB
  have GC := Lib.hid HC
  have GE := Lib.hid HE
  have GD := Lib.hid HD
  obtain ⟨ba10, ba11⟩ := ba1
  obtain ⟨ba20, ba21⟩ := ba2
  obtain ⟨ba30, ba31⟩ := ba3
  obtain ⟨ba40, ba41⟩ := ba4
  obtain ⟨ba50, ba51⟩ := ba5
  obtain ⟨ba60, ba61⟩ := ba6
  have ba62 : 0 ≤ (a6 + 1) % 7 := by omega
  obtain ⟨bm1, bm2⟩ := bm
  have o1 : -840 ≤ o := by omega
  have o2 : o ≤ 840 := by omega
  obtain ⟨bo1, bo2⟩ := bo
  have ho' := Lib.hid ho
  clear T HM HO HA HB HC HE HD ho
  go_enter Tryd.func12, Tryd.ntmps12
  go_wp2_with fail
  refine (saneC_any _ HT.out).mono ?_
  rintro e w1 ⟨rfl, hb⟩
  have HB := Lib.hid hb
  have hW : Below w.heap.size w w1 := by (repeat' first | exact Below.refl _ _ | assumption | (refine Below.andThen ?_ HB.out) | (exact HB.out.size) | (refine below_drewN ?_ _) | (refine Below.drew ?_) | (refine Below.alloc ?_ ?_ _) | (refine Below.setCell ?_ ?_ _) | (simp; done) | (simp; omega) | omega)
  replace BB := Lib.hid (Below.andThen BB.out hW)
  replace HT := Lib.hid (HT.out.next hW)
  clear hb hW HB
  go_wp2_with fail
  refine (sameB (GM.out _)).mono ?_
  rintro e w2 ⟨rfl, hb⟩
  have HB := Lib.hid hb
  have hW : Below w1.heap.size w1 w2 := by (repeat' first | exact Below.refl _ _ | assumption | (refine Below.andThen ?_ HB.out) | (exact HB.out.size) | (refine below_drewN ?_ _) | (refine Below.drew ?_) | (refine Below.alloc ?_ ?_ _) | (refine Below.setCell ?_ ?_ _) | (simp; done) | (simp; omega) | omega)
  replace BB := Lib.hid (Below.andThen BB.out hW)
  replace HT := Lib.hid (HT.out.next hW)
  clear hb hW HB
  go_wp2_with fail
  refine (sameB (GO.out _)).mono ?_
  rintro e w3 ⟨rfl, hb⟩
  have HB := Lib.hid hb
  have hW : Below w2.heap.size w2 w3 := by (repeat' first | exact Below.refl _ _ | assumption | (refine Below.andThen ?_ HB.out) | (exact HB.out.size) | (refine below_drewN ?_ _) | (refine Below.drew ?_) | (refine Below.alloc ?_ ?_ _) | (refine Below.setCell ?_ ?_ _) | (simp; done) | (simp; omega) | omega)
  replace BB := Lib.hid (Below.andThen BB.out hW)
  replace HT := Lib.hid (HT.out.next hW)
  clear hb hW HB
  go_wp2_with fail
  rw [← ho'.out]
  clear bo1 bo2 ho'
  refine (GA.out _ HT.out.tab).mono ?_
  rintro e w4 ⟨rfl, hb⟩
  have HB := Lib.hid hb
  have hW : Below w3.heap.size w3 w4 := by (repeat' first | exact Below.refl _ _ | assumption | (refine Below.andThen ?_ HB.out) | (exact HB.out.size) | (refine below_drewN ?_ _) | (refine Below.drew ?_) | (refine Below.alloc ?_ ?_ _) | (refine Below.setCell ?_ ?_ _) | (simp; done) | (simp; omega) | omega)
  replace BB := Lib.hid (Below.andThen BB.out hW)
  replace HT := Lib.hid (HT.out.next hW)
  clear hb hW HB
  go_wp2_with fail
  refine (GB.out _ (HT.out.next (by (repeat' first | with_reducible exact Below.refl _ _ | with_reducible assumption | (with_reducible refine below_drewN ?_ _) | (with_reducible refine Below.drew ?_) | (with_reducible refine Below.alloc ?_ ?_ _) | (with_reducible refine Below.setCell ?_ ?_ _) | omega | (simp; done) | (simp; omega)))).tab).mono ?_
  rintro e w5 ⟨rfl, hb⟩
  have HB := Lib.hid hb
  have hW : Below w4.heap.size w4 w5 := by (repeat' first | exact Below.refl _ _ | assumption | (refine Below.andThen ?_ HB.out) | (exact HB.out.size) | (refine below_drewN ?_ _) | (refine Below.drew ?_) | (refine Below.alloc ?_ ?_ _) | (refine Below.setCell ?_ ?_ _) | (simp; done) | (simp; omega) | omega)
  have F1 : Has6 w5 (w4.heap.size) (.int .i64 a1) (.int .i64 a2) (.int .i64 a3) (.int .i64 a4) (.int .i64 a5) (.int .i64 a6) := has6 ⟨(by first | (simp; done) | (simp; omega)), by go_simp, by go_simp, by go_simp, by go_simp, by go_simp, by go_simp⟩ hb
  replace BB := Lib.hid (Below.andThen BB.out hW)
  replace HT := Lib.hid (HT.out.next hW)
  clear hb hW HB
  go_wp2_with fail
  refine (GC.out _ (HT.out.next (by (repeat' first | with_reducible exact Below.refl _ _ | with_reducible assumption | (with_reducible refine below_drewN ?_ _) | (with_reducible refine Below.drew ?_) | (with_reducible refine Below.alloc ?_ ?_ _) | (with_reducible refine Below.setCell ?_ ?_ _) | omega | (simp; done) | (simp; omega)))).tab).mono ?_
  rintro e w6 ⟨rfl, hb⟩
  have HB := Lib.hid hb
  have hW : Below w5.heap.size w5 w6 := by (repeat' first | exact Below.refl _ _ | assumption | (refine Below.andThen ?_ HB.out) | (exact HB.out.size) | (refine below_drewN ?_ _) | (refine Below.drew ?_) | (refine Below.alloc ?_ ?_ _) | (refine Below.setCell ?_ ?_ _) | (simp; done) | (simp; omega) | omega)
  replace F1 := has6 F1 hW
  have F2 : Has6 w6 (w5.heap.size) (.int .i64 (a1)) (.int .i64 (a2)) (.int .i64 (a3)) (.int .i64 (a4)) (.int .i64 (a5 + 1)) (.int .i64 (a6)) := has6 ⟨(by first | (simp; done) | (simp; omega)), by go_simp, by go_simp, by go_simp, by go_simp, by go_simp, by go_simp⟩ hb
  replace BB := Lib.hid (Below.andThen BB.out hW)
  replace HT := Lib.hid (HT.out.next hW)
  clear hb hW HB
  go_wp2_with fail
  refine (GE.out _ (HT.out.next (by (repeat' first | with_reducible exact Below.refl _ _ | with_reducible assumption | (with_reducible refine below_drewN ?_ _) | (with_reducible refine Below.drew ?_) | (with_reducible refine Below.alloc ?_ ?_ _) | (with_reducible refine Below.setCell ?_ ?_ _) | omega | (simp; done) | (simp; omega)))).tab).mono ?_
  rintro e w7 ⟨rfl, hb⟩
  have HB := Lib.hid hb
  have hW : Below w6.heap.size w6 w7 := by (repeat' first | exact Below.refl _ _ | assumption | (refine Below.andThen ?_ HB.out) | (exact HB.out.size) | (refine below_drewN ?_ _) | (refine Below.drew ?_) | (refine Below.alloc ?_ ?_ _) | (refine Below.setCell ?_ ?_ _) | (simp; done) | (simp; omega) | omega)
  replace F1 := has6 F1 hW
  replace F2 := has6 F2 hW
  have F3 : Has6 w7 (w6.heap.size) (.int .i64 (a1)) (.int .i64 (a2 + 1)) (.int .i64 (1)) (.int .i64 a4) (.int .i64 a5) (.int .i64 ((a6 + 1) % 7)) := has6 ⟨(by first | (simp; done) | (simp; omega)), by go_simp, by go_simp, by go_simp, by go_simp, by go_simp, by go_simp⟩ hb
  replace BB := Lib.hid (Below.andThen BB.out hW)
  replace HT := Lib.hid (HT.out.next hW)
  clear hb hW HB
  have sz7 := BB.out.size
  have l4 : w4.heap.size < w7.heap.size + 2 := by omega
  have n4 : w7.heap.size + 1 ≠ w4.heap.size := by omega
  have n5 : w7.heap.size + 1 ≠ w5.heap.size := by omega
  have n6 : w7.heap.size + 1 ≠ w6.heap.size := by omega
  have n7 : w7.heap.size + 1 ≠ w7.heap.size := by omega
  have HT8 := Lib.hid (HT.out.next (show Below w7.heap.size w7 ((w7.alloc (.cells #[.int .i64 d1, .int .i64 d2, .int .i64 d3, .int .i64 a4, .int .i64 a5, .int .i64 a6] 57)).alloc (.cells #[.int .i64 a1, .int .i64 a2, .int .i64 (a3 + 1), .int .i64 a4, .int .i64 a5, .int .i64 ((a6 + 1) % 7)] 57)) by (repeat' first | with_reducible exact Below.refl _ _ | with_reducible assumption | (with_reducible refine below_drewN ?_ _) | (with_reducible refine Below.drew ?_) | (with_reducible refine Below.alloc ?_ ?_ _) | (with_reducible refine Below.setCell ?_ ?_ _) | omega | (simp; done) | (simp; omega)))).tab
  go_wp2_with fail
  refine wp_region_kin (by kernel_rfl) (by kernel_rfl) (w7.heap.size) 2 (by first | assumption | (simp; done) | (simp; omega) | omega | (have := HS.out; omega)) (fun hk => ?_)
  repeat (go_big_quiet_step ((go_at_call 51; exact Calls.kin_same (GD.out _ (HT8.out.next (Kin.below _))))))
  refine wpQuiet_nil ?_
  clear hk
  intro w8 hb
  have HB := Lib.hid hb
  have hW : Below w7.heap.size w7 w8 := by (repeat' first | exact Below.refl _ _ | assumption | (refine Below.andThen ?_ HB.out) | (exact HB.out.size) | (refine below_drewN ?_ _) | (refine Below.drew ?_) | (refine Below.alloc ?_ ?_ _) | (refine Below.setCell ?_ ?_ _) | (simp; done) | (simp; omega) | omega)
  replace F1 := has6 F1 hW
  replace F2 := has6 F2 hW
  replace F3 := has6 F3 hW
  have F4 : Has6 w8 (w7.heap.size) (.int .i64 d1) (.int .i64 d2) (.int .i64 d3) (.int .i64 a4) (.int .i64 a5) (.int .i64 a6) := has6 ⟨(by first | (simp; done) | (simp; omega)), by go_simp, by go_simp, by go_simp, by go_simp, by go_simp, by go_simp⟩ hb
  have F5 : Has6 w8 (w7.heap.size + 1) (.int .i64 a1) (.int .i64 a2) (.int .i64 (a3 + 1)) (.int .i64 a4) (.int .i64 a5) (.int .i64 ((a6 + 1) % 7)) := has6 ⟨(by first | (simp; done) | (simp; omega)), by go_simp, by go_simp, by go_simp, by go_simp, by go_simp, by go_simp⟩ hb
  have G5 : Free w8 (w7.heap.size + 1) := hasf (by first | exact free_new | exact free_at (by simp)) hb
  replace BB := Lib.hid (Below.andThen BB.out hW)
  replace HT := Lib.hid (HT.out.next hW)
  clear hb hW HB
  obtain ⟨l5, fr5⟩ := G5
  go_wp2
  go_ret
  have bb := BB.out
  exact ⟨rfl, by (repeat' first | with_reducible exact Below.refl _ _ | with_reducible assumption | (with_reducible refine below_drewN ?_ _) | (with_reducible refine Below.drew ?_) | (with_reducible refine Below.alloc ?_ ?_ _) | (with_reducible refine Below.setCell ?_ ?_ _) | omega | (simp; done) | (simp; omega))⟩

set_option maxRecDepth 100000 in
set_option maxHeartbeats 4000000 in
theorem next_BY (x1 x2 m o0 o a1 a2 a3 a4 a5 a6 D d1 d2 d3 : Int) (w : World) (T : CW w) (ho : o = o0 - 840) (bm : 0 ≤ m ∧ m < 49989920) (bo : 0 ≤ o0 ∧ o0 < 1681)
    (HM : ∀ w, Calls Tryd.prog 42 #[.int .i64 x1, .int .i64 49989920] w fun e w' => e = .returned (.int .i64 m) ∧ w = w')
    (HO : ∀ w, Calls Tryd.prog 42 #[.int .i64 x2, .int .i64 1681] w fun e w' => e = .returned (.int .i64 o0) ∧ w = w')
    (HA : ∀ w, CTab w → Calls Tryd.prog 43 #[.int .i64 m, .int .i64 o] w fun r w' => r = .returned (.tuple #[civV a1 a2 a3 a4 a5 a6, .int .i64 0]) ∧ Below w.heap.size w w')
    (HB : ∀ w, CTab w → Calls Tryd.prog 43 #[.int .i64 (m + 1), .int .i64 o] w fun r w' => r = .returned (.tuple #[civV (a1) (a2) (a3) (a4 + 1) (0) (a6), .int .i64 0]) ∧ Below w.heap.size w w')
    (HC : ∀ w, CTab w → Calls Tryd.prog 43 #[.int .i64 (m + 1440), .int .i64 o] w fun r w' => r = .returned (.tuple #[civV (a1) (a2 + 1) (1) a4 a5 ((a6 + 1) % 7), .int .i64 0]) ∧ Below w.heap.size w w')
    (HE : ∀ w, CTab w → Calls Tryd.prog 43 #[.int .i64 (m + 10080), .int .i64 o] w fun r w' => r = .returned (.tuple #[civV d1 d2 d3 a4 a5 a6, .int .i64 0]) ∧ Below w.heap.size w w')
    (HD : ∀ w, CTab w → Calls Tryd.prog 51 #[.int .i64 a1, .int .i64 a2] w fun e w' => e = .returned (.int .i64 D) ∧ w = w')
    (ba1 : 0 ≤ a1 ∧ a1 ≤ 9999) (ba2 : 1 ≤ a2 ∧ a2 ≤ 12) (ba3 : 1 ≤ a3 ∧ a3 ≤ 31) (ba4 : 0 ≤ a4 ∧ a4 < 24) (ba5 : 0 ≤ a5 ∧ a5 < 60) (ba6 : 0 ≤ a6 ∧ a6 < 7)
    (g1 : (a3 == D) = true) (g2 : (a2 + 1 == 13) = false) (g3 : (a5 + 1 == 60) = true) (g4 : (a4 + 1 == 24) = false) :
    Calls Tryd.prog 12 #[.int .i64 x1, .int .i64 x2] w fun r w' => r = .returned (.bool true) ∧ Below w.heap.size w w' := by
  have HT := Lib.hid T
  have BB := Lib.hid (Below.refl w.heap.size w)
  have GM := Lib.hid HM
  have GO := Lib.hid HO
  have GA := Lib.hid HA
  have GB := Lib.hid HB
  have GC := Lib.hid HC
  have GE := Lib.hid HE
  have GD := Lib.hid HD
  obtain ⟨ba10, ba11⟩ := ba1
  obtain ⟨ba20, ba21⟩ := ba2
  obtain ⟨ba30, ba31⟩ := ba3
  obtain ⟨ba40, ba41⟩ := ba4
  obtain ⟨ba50, ba51⟩ := ba5
  obtain ⟨ba60, ba61⟩ := ba6
  have ba62 : 0 ≤ (a6 + 1) % 7 := by omega
  obtain ⟨bm1, bm2⟩ := bm
  have o1 : -840 ≤ o := by omega
  have o2 : o ≤ 840 := by omega
  obtain ⟨bo1, bo2⟩ := bo
  have ho' := Lib.hid ho
  clear T HM HO HA HB HC HE HD ho
  go_enter Tryd.func12, Tryd.ntmps12
  go_wp2_with fail
  refine (saneC_any _ HT.out).mono ?_
  rintro e w1 ⟨rfl, hb⟩
  have HB := Lib.hid hb
  have hW : Below w.heap.size w w1 := by (repeat' first | exact Below.refl _ _ | assumption | (refine Below.andThen ?_ HB.out) | (exact HB.out.size) | (refine below_drewN ?_ _) | (refine Below.drew ?_) | (refine Below.alloc ?_ ?_ _) | (refine Below.setCell ?_ ?_ _) | (simp; done) | (simp; omega) | omega)
  replace BB := Lib.hid (Below.andThen BB.out hW)
  replace HT := Lib.hid (HT.out.next hW)
  clear hb hW HB
  go_wp2_with fail
  refine (sameB (GM.out _)).mono ?_
  rintro e w2 ⟨rfl, hb⟩
  have HB := Lib.hid hb
  have hW : Below w1.heap.size w1 w2 := by (repeat' first | exact Below.refl _ _ | assumption | (refine Below.andThen ?_ HB.out) | (exact HB.out.size) | (refine below_drewN ?_ _) | (refine Below.drew ?_) | (refine Below.alloc ?_ ?_ _) | (refine Below.setCell ?_ ?_ _) | (simp; done) | (simp; omega) | omega)
  replace BB := Lib.hid (Below.andThen BB.out hW)
  replace HT := Lib.hid (HT.out.next hW)
  clear hb hW HB
  go_wp2_with fail
  refine (sameB (GO.out _)).mono ?_
  rintro e w3 ⟨rfl, hb⟩
  have HB := Lib.hid hb
  have hW : Below w2.heap.size w2 w3 := by (repeat' first | exact Below.refl _ _ | assumption | (refine Below.andThen ?_ HB.out) | (exact HB.out.size) | (refine below_drewN ?_ _) | (refine Below.drew ?_) | (refine Below.alloc ?_ ?_ _) | (refine Below.setCell ?_ ?_ _) | (simp; done) | (simp; omega) | omega)
  replace BB := Lib.hid (Below.andThen BB.out hW)
  replace HT := Lib.hid (HT.out.next hW)
  clear hb hW HB
  go_wp2_with fail
  rw [← ho'.out]
  clear bo1 bo2 ho'
  refine (GA.out _ HT.out.tab).mono ?_
  rintro e w4 ⟨rfl, hb⟩
  have HB := Lib.hid hb
  have hW : Below w3.heap.size w3 w4 := by (repeat' first | exact Below.refl _ _ | assumption | (refine Below.andThen ?_ HB.out) | (exact HB.out.size) | (refine below_drewN ?_ _) | (refine Below.drew ?_) | (refine Below.alloc ?_ ?_ _) | (refine Below.setCell ?_ ?_ _) | (simp; done) | (simp; omega) | omega)
  replace BB := Lib.hid (Below.andThen BB.out hW)
  replace HT := Lib.hid (HT.out.next hW)
  clear hb hW HB
  go_wp2_with fail
  refine (GB.out _ (HT.out.next (by (repeat' first | with_reducible exact Below.refl _ _ | with_reducible assumption | (with_reducible refine below_drewN ?_ _) | (with_reducible refine Below.drew ?_) | (with_reducible refine Below.alloc ?_ ?_ _) | (with_reducible refine Below.setCell ?_ ?_ _) | omega | (simp; done) | (simp; omega)))).tab).mono ?_
  rintro e w5 ⟨rfl, hb⟩
  have HB := Lib.hid hb
  have hW : Below w4.heap.size w4 w5 := by (repeat' first | exact Below.refl _ _ | assumption | (refine Below.andThen ?_ HB.out) | (exact HB.out.size) | (refine below_drewN ?_ _) | (refine Below.drew ?_) | (refine Below.alloc ?_ ?_ _) | (refine Below.setCell ?_ ?_ _) | (simp; done) | (simp; omega) | omega)
  have F1 : Has6 w5 (w4.heap.size) (.int .i64 a1) (.int .i64 a2) (.int .i64 a3) (.int .i64 a4) (.int .i64 a5) (.int .i64 a6) := has6 ⟨(by first | (simp; done) | (simp; omega)), by go_simp, by go_simp, by go_simp, by go_simp, by go_simp, by go_simp⟩ hb
  replace BB := Lib.hid (Below.andThen BB.out hW)
  replace HT := Lib.hid (HT.out.next hW)
  clear hb hW HB
  go_wp2_with fail
  refine (GC.out _ (HT.out.next (by (repeat' first | with_reducible exact Below.refl _ _ | with_reducible assumption | (with_reducible refine below_drewN ?_ _) | (with_reducible refine Below.drew ?_) | (with_reducible refine Below.alloc ?_ ?_ _) | (with_reducible refine Below.setCell ?_ ?_ _) | omega | (simp; done) | (simp; omega)))).tab).mono ?_
  rintro e w6 ⟨rfl, hb⟩
  have HB := Lib.hid hb
  have hW : Below w5.heap.size w5 w6 := by (repeat' first | exact Below.refl _ _ | assumption | (refine Below.andThen ?_ HB.out) | (exact HB.out.size) | (refine below_drewN ?_ _) | (refine Below.drew ?_) | (refine Below.alloc ?_ ?_ _) | (refine Below.setCell ?_ ?_ _) | (simp; done) | (simp; omega) | omega)
  replace F1 := has6 F1 hW
  have F2 : Has6 w6 (w5.heap.size) (.int .i64 (a1)) (.int .i64 (a2)) (.int .i64 (a3)) (.int .i64 (a4 + 1)) (.int .i64 (0)) (.int .i64 (a6)) := has6 ⟨(by first | (simp; done) | (simp; omega)), by go_simp, by go_simp, by go_simp, by go_simp, by go_simp, by go_simp⟩ hb
  replace BB := Lib.hid (Below.andThen BB.out hW)
  replace HT := Lib.hid (HT.out.next hW)
  clear hb hW HB
  go_wp2_with fail
  refine (GE.out _ (HT.out.next (by (repeat' first | with_reducible exact Below.refl _ _ | with_reducible assumption | (with_reducible refine below_drewN ?_ _) | (with_reducible refine Below.drew ?_) | (with_reducible refine Below.alloc ?_ ?_ _) | (with_reducible refine Below.setCell ?_ ?_ _) | omega | (simp; done) | (simp; omega)))).tab).mono ?_
  rintro e w7 ⟨rfl, hb⟩
  have HB := Lib.hid hb
  have hW : Below w6.heap.size w6 w7 := by (repeat' first | exact Below.refl _ _ | assumption | (refine Below.andThen ?_ HB.out) | (exact HB.out.size) | (refine below_drewN ?_ _) | (refine Below.drew ?_) | (refine Below.alloc ?_ ?_ _) | (refine Below.setCell ?_ ?_ _) | (simp; done) | (simp; omega) | omega)
  replace F1 := has6 F1 hW
  replace F2 := has6 F2 hW
  have F3 : Has6 w7 (w6.heap.size) (.int .i64 (a1)) (.int .i64 (a2 + 1)) (.int .i64 (1)) (.int .i64 a4) (.int .i64 a5) (.int .i64 ((a6 + 1) % 7)) := has6 ⟨(by first | (simp; done) | (simp; omega)), by go_simp, by go_simp, by go_simp, by go_simp, by go_simp, by go_simp⟩ hb
  replace BB := Lib.hid (Below.andThen BB.out hW)
  replace HT := Lib.hid (HT.out.next hW)
  clear hb hW HB
  have sz7 := BB.out.size
  have l4 : w4.heap.size < w7.heap.size + 2 := by omega
  have n4 : w7.heap.size + 1 ≠ w4.heap.size := by omega
  have n5 : w7.heap.size + 1 ≠ w5.heap.size := by omega
  have n6 : w7.heap.size + 1 ≠ w6.heap.size := by omega
  have n7 : w7.heap.size + 1 ≠ w7.heap.size := by omega
  have HT8 := Lib.hid (HT.out.next (show Below w7.heap.size w7 ((w7.alloc (.cells #[.int .i64 d1, .int .i64 d2, .int .i64 d3, .int .i64 a4, .int .i64 a5, .int .i64 a6] 57)).alloc (.cells #[.int .i64 a1, .int .i64 a2, .int .i64 (a3 + 1), .int .i64 a4, .int .i64 a5, .int .i64 ((a6 + 1) % 7)] 57)) by (repeat' first | with_reducible exact Below.refl _ _ | with_reducible assumption | (with_reducible refine below_drewN ?_ _) | (with_reducible refine Below.drew ?_) | (with_reducible refine Below.alloc ?_ ?_ _) | (with_reducible refine Below.setCell ?_ ?_ _) | omega | (simp; done) | (simp; omega)))).tab
  go_wp2_with fail
  refine wp_region_kin (by kernel_rfl) (by kernel_rfl) (w7.heap.size) 2 (by first | assumption | (simp; done) | (simp; omega) | omega | (have := HS.out; omega)) (fun hk => ?_)
  repeat (go_big_quiet_step ((go_at_call 51; exact Calls.kin_same (GD.out _ (HT8.out.next (Kin.below _))))))
  refine wpQuiet_nil ?_
  clear hk
  intro w8 hb
  have HB := Lib.hid hb
  have hW : Below w7.heap.size w7 w8 := by (repeat' first | exact Below.refl _ _ | assumption | (refine Below.andThen ?_ HB.out) | (exact HB.out.size) | (refine below_drewN ?_ _) | (refine Below.drew ?_) | (refine Below.alloc ?_ ?_ _) | (refine Below.setCell ?_ ?_ _) | (simp; done) | (simp; omega) | omega)
  replace F1 := has6 F1 hW
  replace F2 := has6 F2 hW
  replace F3 := has6 F3 hW
  have F4 : Has6 w8 (w7.heap.size) (.int .i64 d1) (.int .i64 d2) (.int .i64 d3) (.int .i64 a4) (.int .i64 a5) (.int .i64 a6) := has6 ⟨(by first | (simp; done) | (simp; omega)), by go_simp, by go_simp, by go_simp, by go_simp, by go_simp, by go_simp⟩ hb
  have F5 : Has6 w8 (w7.heap.size + 1) (.int .i64 a1) (.int .i64 a2) (.int .i64 (a3 + 1)) (.int .i64 a4) (.int .i64 a5) (.int .i64 ((a6 + 1) % 7)) := has6 ⟨(by first | (simp; done) | (simp; omega)), by go_simp, by go_simp, by go_simp, by go_simp, by go_simp, by go_simp⟩ hb
  have G5 : Free w8 (w7.heap.size + 1) := hasf (by first | exact free_new | exact free_at (by simp)) hb
  replace BB := Lib.hid (Below.andThen BB.out hW)
  replace HT := Lib.hid (HT.out.next hW)
  clear hb hW HB
  obtain ⟨l5, fr5⟩ := G5
  go_wp2
  go_ret
  have bb := BB.out
  exact ⟨rfl, by (repeat' first | with_reducible exact Below.refl _ _ | with_reducible assumption | (with_reducible refine below_drewN ?_ _) | (with_reducible refine Below.drew ?_) | (with_reducible refine Below.alloc ?_ ?_ _) | (with_reducible refine Below.setCell ?_ ?_ _) | omega | (simp; done) | (simp; omega))⟩

set_option maxRecDepth 100000 in
set_option maxHeartbeats 4000000 in
theorem next_BZ (x1 x2 m o0 o a1 a2 a3 a4 a5 a6 D d1 d2 d3 : Int) (w : World) (T : CW w) (ho : o = o0 - 840) (bm : 0 ≤ m ∧ m < 49989920) (bo : 0 ≤ o0 ∧ o0 < 1681)
    (HM : ∀ w, Calls Tryd.prog 42 #[.int .i64 x1, .int .i64 49989920] w fun e w' => e = .returned (.int .i64 m) ∧ w = w')
    (HO : ∀ w, Calls Tryd.prog 42 #[.int .i64 x2, .int .i64 1681] w fun e w' => e = .returned (.int .i64 o0) ∧ w = w')
    (HA : ∀ w, CTab w → Calls Tryd.prog 43 #[.int .i64 m, .int .i64 o] w fun r w' => r = .returned (.tuple #[civV a1 a2 a3 a4 a5 a6, .int .i64 0]) ∧ Below w.heap.size w w')
    (HB : ∀ w, CTab w → Calls Tryd.prog 43 #[.int .i64 (m + 1), .int .i64 o] w fun r w' => r = .returned (.tuple #[civV (a1) (a2 + 1) (1) (0) (0) ((a6 + 1) % 7), .int .i64 0]) ∧ Below w.heap.size w w')
    (HC : ∀ w, CTab w → Calls Tryd.prog 43 #[.int .i64 (m + 1440), .int .i64 o] w fun r w' => r = .returned (.tuple #[civV (a1) (a2 + 1) (1) a4 a5 ((a6 + 1) % 7), .int .i64 0]) ∧ Below w.heap.size w w')
    (HE : ∀ w, CTab w → Calls Tryd.prog 43 #[.int .i64 (m + 10080), .int .i64 o] w fun r w' => r = .returned (.tuple #[civV d1 d2 d3 a4 a5 a6, .int .i64 0]) ∧ Below w.heap.size w w')
    (HD : ∀ w, CTab w → Calls Tryd.prog 51 #[.int .i64 a1, .int .i64 a2] w fun e w' => e = .returned (.int .i64 D) ∧ w = w')
    (ba1 : 0 ≤ a1 ∧ a1 ≤ 9999) (ba2 : 1 ≤ a2 ∧ a2 ≤ 12) (ba3 : 1 ≤ a3 ∧ a3 ≤ 31) (ba4 : 0 ≤ a4 ∧ a4 < 24) (ba5 : 0 ≤ a5 ∧ a5 < 60) (ba6 : 0 ≤ a6 ∧ a6 < 7)
    (g1 : (a3 == D) = true) (g2 : (a2 + 1 == 13) = false) (g3 : (a5 + 1 == 60) = true) (g4 : (a4 + 1 == 24) = true) :
    Calls Tryd.prog 12 #[.int .i64 x1, .int .i64 x2] w fun r w' => r = .returned (.bool true) ∧ Below w.heap.size w w' := by
  have HT := Lib.hid T
  have BB := Lib.hid (Below.refl w.heap.size w)
  have GM := Lib.hid HM
  have GO := Lib.hid HO
  have GA := Lib.hid HA
  have GB := Lib.hid HB
  have GC := Lib.hid HC
  have GE := Lib.hid HE
  have GD := Lib.hid HD
  obtain ⟨ba10, ba11⟩ := ba1
  obtain ⟨ba20, ba21⟩ := ba2
  obtain ⟨ba30, ba31⟩ := ba3
  obtain ⟨ba40, ba41⟩ := ba4
  obtain ⟨ba50, ba51⟩ := ba5
  obtain ⟨ba60, ba61⟩ := ba6
  have ba62 : 0 ≤ (a6 + 1) % 7 := by omega
  obtain ⟨bm1, bm2⟩ := bm
  have o1 : -840 ≤ o := by omega
  have o2 : o ≤ 840 := by omega
  obtain ⟨bo1, bo2⟩ := bo
  have ho' := Lib.hid ho
  clear T HM HO HA HB HC HE HD ho
  go_enter Tryd.func12, Tryd.ntmps12
  go_wp2_with fail
  refine (saneC_any _ HT.out).mono ?_
  rintro e w1 ⟨rfl, hb⟩
  have HB := Lib.hid hb
  have hW : Below w.heap.size w w1 := by (repeat' first | exact Below.refl _ _ | assumption | (refine Below.andThen ?_ HB.out) | (exact HB.out.size) | (refine below_drewN ?_ _) | (refine Below.drew ?_) | (refine Below.alloc ?_ ?_ _) | (refine Below.setCell ?_ ?_ _) | (simp; done) | (simp; omega) | omega)
  replace BB := Lib.hid (Below.andThen BB.out hW)
  replace HT := Lib.hid (HT.out.next hW)
  clear hb hW HB
  go_wp2_with fail
  refine (sameB (GM.out _)).mono ?_
  rintro e w2 ⟨rfl, hb⟩
  have HB := Lib.hid hb
  have hW : Below w1.heap.size w1 w2 := by (repeat' first | exact Below.refl _ _ | assumption | (refine Below.andThen ?_ HB.out) | (exact HB.out.size) | (refine below_drewN ?_ _) | (refine Below.drew ?_) | (refine Below.alloc ?_ ?_ _) | (refine Below.setCell ?_ ?_ _) | (simp; done) | (simp; omega) | omega)
  replace BB := Lib.hid (Below.andThen BB.out hW)
  replace HT := Lib.hid (HT.out.next hW)
  clear hb hW HB
  go_wp2_with fail
  refine (sameB (GO.out _)).mono ?_
  rintro e w3 ⟨rfl, hb⟩
  have HB := Lib.hid hb
  have hW : Below w2.heap.size w2 w3 := by (repeat' first | exact Below.refl _ _ | assumption | (refine Below.andThen ?_ HB.out) | (exact HB.out.size) | (refine below_drewN ?_ _) | (refine Below.drew ?_) | (refine Below.alloc ?_ ?_ _) | (refine Below.setCell ?_ ?_ _) | (simp; done) | (simp; omega) | omega)
  replace BB := Lib.hid (Below.andThen BB.out hW)
  replace HT := Lib.hid (HT.out.next hW)
  clear hb hW HB
  go_wp2_with fail
  rw [← ho'.out]
  clear bo1 bo2 ho'
  refine (GA.out _ HT.out.tab).mono ?_
  rintro e w4 ⟨rfl, hb⟩
  have HB := Lib.hid hb
  have hW : Below w3.heap.size w3 w4 := by (repeat' first | exact Below.refl _ _ | assumption | (refine Below.andThen ?_ HB.out) | (exact HB.out.size) | (refine below_drewN ?_ _) | (refine Below.drew ?_) | (refine Below.alloc ?_ ?_ _) | (refine Below.setCell ?_ ?_ _) | (simp; done) | (simp; omega) | omega)
  replace BB := Lib.hid (Below.andThen BB.out hW)
  replace HT := Lib.hid (HT.out.next hW)
  clear hb hW HB
  go_wp2_with fail
  refine (GB.out _ (HT.out.next (by (repeat' first | with_reducible exact Below.refl _ _ | with_reducible assumption | (with_reducible refine below_drewN ?_ _) | (with_reducible refine Below.drew ?_) | (with_reducible refine Below.alloc ?_ ?_ _) | (with_reducible refine Below.setCell ?_ ?_ _) | omega | (simp; done) | (simp; omega)))).tab).mono ?_
  rintro e w5 ⟨rfl, hb⟩
  have HB := Lib.hid hb
  have hW : Below w4.heap.size w4 w5 := by (repeat' first | exact Below.refl _ _ | assumption | (refine Below.andThen ?_ HB.out) | (exact HB.out.size) | (refine below_drewN ?_ _) | (refine Below.drew ?_) | (refine Below.alloc ?_ ?_ _) | (refine Below.setCell ?_ ?_ _) | (simp; done) | (simp; omega) | omega)
  have F1 : Has6 w5 (w4.heap.size) (.int .i64 a1) (.int .i64 a2) (.int .i64 a3) (.int .i64 a4) (.int .i64 a5) (.int .i64 a6) := has6 ⟨(by first | (simp; done) | (simp; omega)), by go_simp, by go_simp, by go_simp, by go_simp, by go_simp, by go_simp⟩ hb
  replace BB := Lib.hid (Below.andThen BB.out hW)
  replace HT := Lib.hid (HT.out.next hW)
  clear hb hW HB
  go_wp2_with fail
  refine (GC.out _ (HT.out.next (by (repeat' first | with_reducible exact Below.refl _ _ | with_reducible assumption | (with_reducible refine below_drewN ?_ _) | (with_reducible refine Below.drew ?_) | (with_reducible refine Below.alloc ?_ ?_ _) | (with_reducible refine Below.setCell ?_ ?_ _) | omega | (simp; done) | (simp; omega)))).tab).mono ?_
  rintro e w6 ⟨rfl, hb⟩
  have HB := Lib.hid hb
  have hW : Below w5.heap.size w5 w6 := by (repeat' first | exact Below.refl _ _ | assumption | (refine Below.andThen ?_ HB.out) | (exact HB.out.size) | (refine below_drewN ?_ _) | (refine Below.drew ?_) | (refine Below.alloc ?_ ?_ _) | (refine Below.setCell ?_ ?_ _) | (simp; done) | (simp; omega) | omega)
  replace F1 := has6 F1 hW
  have F2 : Has6 w6 (w5.heap.size) (.int .i64 (a1)) (.int .i64 (a2 + 1)) (.int .i64 (1)) (.int .i64 (0)) (.int .i64 (0)) (.int .i64 ((a6 + 1) % 7)) := has6 ⟨(by first | (simp; done) | (simp; omega)), by go_simp, by go_simp, by go_simp, by go_simp, by go_simp, by go_simp⟩ hb
  replace BB := Lib.hid (Below.andThen BB.out hW)
  replace HT := Lib.hid (HT.out.next hW)
  clear hb hW HB
  go_wp2_with fail
  refine (GE.out _ (HT.out.next (by (repeat' first | with_reducible exact Below.refl _ _ | with_reducible assumption | (with_reducible refine below_drewN ?_ _) | (with_reducible refine Below.drew ?_) | (with_reducible refine Below.alloc ?_ ?_ _) | (with_reducible refine Below.setCell ?_ ?_ _) | omega | (simp; done) | (simp; omega)))).tab).mono ?_
  rintro e w7 ⟨rfl, hb⟩
  have HB := Lib.hid hb
  have hW : Below w6.heap.size w6 w7 := by (repeat' first | exact Below.refl _ _ | assumption | (refine Below.andThen ?_ HB.out) | (exact HB.out.size) | (refine below_drewN ?_ _) | (refine Below.drew ?_) | (refine Below.alloc ?_ ?_ _) | (refine Below.setCell ?_ ?_ _) | (simp; done) | (simp; omega) | omega)
  replace F1 := has6 F1 hW
  replace F2 := has6 F2 hW
  have F3 : Has6 w7 (w6.heap.size) (.int .i64 (a1)) (.int .i64 (a2 + 1)) (.int .i64 (1)) (.int .i64 a4) (.int .i64 a5) (.int .i64 ((a6 + 1) % 7)) := has6 ⟨(by first | (simp; done) | (simp; omega)), by go_simp, by go_simp, by go_simp, by go_simp, by go_simp, by go_simp⟩ hb
  replace BB := Lib.hid (Below.andThen BB.out hW)
  replace HT := Lib.hid (HT.out.next hW)
  clear hb hW HB
  have sz7 := BB.out.size
  have l4 : w4.heap.size < w7.heap.size + 2 := by omega
  have n4 : w7.heap.size + 1 ≠ w4.heap.size := by omega
  have n5 : w7.heap.size + 1 ≠ w5.heap.size := by omega
  have n6 : w7.heap.size + 1 ≠ w6.heap.size := by omega
  have n7 : w7.heap.size + 1 ≠ w7.heap.size := by omega
  have HT8 := Lib.hid (HT.out.next (show Below w7.heap.size w7 ((w7.alloc (.cells #[.int .i64 d1, .int .i64 d2, .int .i64 d3, .int .i64 a4, .int .i64 a5, .int .i64 a6] 57)).alloc (.cells #[.int .i64 a1, .int .i64 a2, .int .i64 (a3 + 1), .int .i64 a4, .int .i64 a5, .int .i64 ((a6 + 1) % 7)] 57)) by (repeat' first | with_reducible exact Below.refl _ _ | with_reducible assumption | (with_reducible refine below_drewN ?_ _) | (with_reducible refine Below.drew ?_) | (with_reducible refine Below.alloc ?_ ?_ _) | (with_reducible refine Below.setCell ?_ ?_ _) | omega | (simp; done) | (simp; omega)))).tab
  go_wp2_with fail
  refine wp_region_kin (by kernel_rfl) (by kernel_rfl) (w7.heap.size) 2 (by first | assumption | (simp; done) | (simp; omega) | omega | (have := HS.out; omega)) (fun hk => ?_)
  repeat (go_big_quiet_step ((go_at_call 51; exact Calls.kin_same (GD.out _ (HT8.out.next (Kin.below _))))))
  refine wpQuiet_nil ?_
  clear hk
  intro w8 hb
  have HB := Lib.hid hb
  have hW : Below w7.heap.size w7 w8 := by (repeat' first | exact Below.refl _ _ | assumption | (refine Below.andThen ?_ HB.out) | (exact HB.out.size) | (refine below_drewN ?_ _) | (refine Below.drew ?_) | (refine Below.alloc ?_ ?_ _) | (refine Below.setCell ?_ ?_ _) | (simp; done) | (simp; omega) | omega)
  replace F1 := has6 F1 hW
  replace F2 := has6 F2 hW
  replace F3 := has6 F3 hW
  have F4 : Has6 w8 (w7.heap.size) (.int .i64 d1) (.int .i64 d2) (.int .i64 d3) (.int .i64 a4) (.int .i64 a5) (.int .i64 a6) := has6 ⟨(by first | (simp; done) | (simp; omega)), by go_simp, by go_simp, by go_simp, by go_simp, by go_simp, by go_simp⟩ hb
  have F5 : Has6 w8 (w7.heap.size + 1) (.int .i64 a1) (.int .i64 a2) (.int .i64 (a3 + 1)) (.int .i64 a4) (.int .i64 a5) (.int .i64 ((a6 + 1) % 7)) := has6 ⟨(by first | (simp; done) | (simp; omega)), by go_simp, by go_simp, by go_simp, by go_simp, by go_simp, by go_simp⟩ hb
  have G5 : Free w8 (w7.heap.size + 1) := hasf (by first | exact free_new | exact free_at (by simp)) hb
  replace BB := Lib.hid (Below.andThen BB.out hW)
  replace HT := Lib.hid (HT.out.next hW)
  clear hb hW HB
  obtain ⟨l5, fr5⟩ := G5
  go_wp2
  go_ret
  have bb := BB.out
  exact ⟨rfl, by (repeat' first | with_reducible exact Below.refl _ _ | with_reducible assumption | (with_reducible refine below_drewN ?_ _) | (with_reducible refine Below.drew ?_) | (with_reducible refine Below.alloc ?_ ?_ _) | (with_reducible refine Below.setCell ?_ ?_ _) | omega | (simp; done) | (simp; omega))⟩

end Go.Proofs.YtdldokhiefeloaaDoor
