/- The fixed examples with which each statement begins come out as they should. -/
import Derived.Test.YtdldokhiefeloaaDoorUnitH
import Derived.Test.YtdldokhiefeloaaDoorMem
import Derived.KernelRfl
namespace Go.Proofs.YtdldokhiefeloaaDoor
open Go.RowKit

theorem sane_c1 : convR 100 120 3 2 100 92 = Res.mk 30 37 2 0 := by kernel_rfl
theorem sane_c2 : convR 10 10 4 5 100 92 = Res.mk 22 23 5 0 := by kernel_rfl
theorem sane_c3 : convR 1000 1000 6 7 100 92 = Res.mk 920 920 7 0 := by kernel_rfl
theorem sane_c4 : coarseR 1234 1250 1 100 = ⟨1200, 1300, 1, 0⟩ := by kernel_rfl
theorem sane_c5 : shareR 10 11 1 1 3 = ⟨3, 4, 1, 0⟩ := by kernel_rfl
theorem sane_c6 : meetR 3 9 2 7 12 2 = ⟨7, 9, 2, 0⟩ := by kernel_rfl
theorem sane_c7 : meetR 3 5 2 7 12 2 = ⟨0, 0, 0, 50⟩ := by kernel_rfl
theorem sane_c8 : addR 7 9 2 7 9 2 = ⟨14, 18, 2, 0⟩ := by kernel_rfl

theorem lit_res {f : FuncId} {args : Array Value} {w : World} {R : Res} {a b c d : Int} (h : R = ⟨a, b, c, d⟩) (hc : Calls Tryd.prog f args w fun r w' => r = .returned (resV R) ∧ Below w.heap.size w w') :
    Calls Tryd.prog f args w fun r w' => r = .returned (.tuple #[.agg #[.int .i64 a, .int .i64 b, .int .i64 c], .int .i64 d]) ∧ Below w.heap.size w w' := by
  subst h
  exact hc

theorem lit_b {f : FuncId} {args : Array Value} {w : World} {a b : Bool} (h : a = b) (hc : Calls Tryd.prog f args w fun r w' => r = .returned (.bool a) ∧ Below w.heap.size w w') :
    Calls Tryd.prog f args w fun r w' => r = .returned (.bool b) ∧ Below w.heap.size w w' := by
  subst h
  exact hc
theorem lit_i {f : FuncId} {args : Array Value} {w : World} {a b : Int} (h : a = b) (hc : Calls Tryd.prog f args w fun r w' => r = .returned (.int .i64 a) ∧ w = w') :
    Calls Tryd.prog f args w fun r w' => r = .returned (.int .i64 b) ∧ Below w.heap.size w w' := by
  subst h
  exact hc.mono fun e w' h => ⟨h.1, by rw [← h.2]; exact Below.refl _ _⟩

set_option maxRecDepth 100000 in
set_option maxHeartbeats 2000000 in
theorem sane_any (w : World) (T : Tab w) : Calls Tryd.prog 15 #[] w fun r w' => r = .returned (.bool true) ∧ Below w.heap.size w w' := by
  have HT := Lib.hid T
  have BB := Lib.hid (Below.refl w.heap.size w)
  clear T
  go_enter Tryd.func15, Tryd.ntmps15
  go_wp2_with fail
  refine (lit_res sane_c1 (convert_any _ _ _ _ _ _ _ (HT.out.next (by (repeat' first | exact Below.refl _ _ | assumption | (refine below_drewN ?_ _) | (refine Below.drew ?_) | (refine Below.alloc ?_ ?_ _) | (refine Below.setCell ?_ ?_ _) | (simp; done) | (simp; omega) | omega))))).mono ?_
  rintro e w1 ⟨rfl, hb⟩
  have HB := Lib.hid hb
  have hW : Below w.heap.size w w1 := by (repeat' first | exact Below.refl _ _ | assumption | (refine Below.andThen ?_ HB.out) | (exact HB.out.size) | (refine below_drewN ?_ _) | (refine Below.drew ?_) | (refine Below.alloc ?_ ?_ _) | (refine Below.setCell ?_ ?_ _) | (simp; done) | (simp; omega) | omega)
  have F0 : Has2 w1 (w.heap.size) (.int .i64 100) (.int .i64 92) := has2 ⟨(by first | (simp; done) | (simp; omega)), by go_simp, by go_simp⟩ hb
  replace BB := Lib.hid (Below.andThen BB.out hW)
  replace HT := Lib.hid (HT.out.next hW)
  clear hb hW HB
  go_wp2_with fail
  refine (lit_res sane_c2 (convert_any _ _ _ _ _ _ _ (HT.out.next (by (repeat' first | exact Below.refl _ _ | assumption | (refine below_drewN ?_ _) | (refine Below.drew ?_) | (refine Below.alloc ?_ ?_ _) | (refine Below.setCell ?_ ?_ _) | (simp; done) | (simp; omega) | omega))))).mono ?_
  rintro e w2 ⟨rfl, hb⟩
  have HB := Lib.hid hb
  have hW : Below w1.heap.size w1 w2 := by (repeat' first | exact Below.refl _ _ | assumption | (refine Below.andThen ?_ HB.out) | (exact HB.out.size) | (refine below_drewN ?_ _) | (refine Below.drew ?_) | (refine Below.alloc ?_ ?_ _) | (refine Below.setCell ?_ ?_ _) | (simp; done) | (simp; omega) | omega)
  replace F0 := has2 F0 hW
  have F1 : Has3 w2 (w1.heap.size) (.int .i64 30) (.int .i64 37) (.int .i64 2) := has3 ⟨(by first | (simp; done) | (simp; omega)), by go_simp, by go_simp, by go_simp⟩ hb
  replace BB := Lib.hid (Below.andThen BB.out hW)
  replace HT := Lib.hid (HT.out.next hW)
  clear hb hW HB
  go_wp2_with fail
  refine (lit_res sane_c3 (convert_any _ _ _ _ _ _ _ (HT.out.next (by (repeat' first | exact Below.refl _ _ | assumption | (refine below_drewN ?_ _) | (refine Below.drew ?_) | (refine Below.alloc ?_ ?_ _) | (refine Below.setCell ?_ ?_ _) | (simp; done) | (simp; omega) | omega))))).mono ?_
  rintro e w3 ⟨rfl, hb⟩
  have HB := Lib.hid hb
  have hW : Below w2.heap.size w2 w3 := by (repeat' first | exact Below.refl _ _ | assumption | (refine Below.andThen ?_ HB.out) | (exact HB.out.size) | (refine below_drewN ?_ _) | (refine Below.drew ?_) | (refine Below.alloc ?_ ?_ _) | (refine Below.setCell ?_ ?_ _) | (simp; done) | (simp; omega) | omega)
  replace F0 := has2 F0 hW
  replace F1 := has3 F1 hW
  have F2 : Has3 w3 (w2.heap.size) (.int .i64 22) (.int .i64 23) (.int .i64 5) := has3 ⟨(by first | (simp; done) | (simp; omega)), by go_simp, by go_simp, by go_simp⟩ hb
  replace BB := Lib.hid (Below.andThen BB.out hW)
  replace HT := Lib.hid (HT.out.next hW)
  clear hb hW HB
  go_wp2_with fail
  refine (lit_res sane_c4 (coarse_any _ _ _ _ _ (HT.out.next (by (repeat' first | exact Below.refl _ _ | assumption | (refine below_drewN ?_ _) | (refine Below.drew ?_) | (refine Below.alloc ?_ ?_ _) | (refine Below.setCell ?_ ?_ _) | (simp; done) | (simp; omega) | omega))))).mono ?_
  rintro e w4 ⟨rfl, hb⟩
  have HB := Lib.hid hb
  have hW : Below w3.heap.size w3 w4 := by (repeat' first | exact Below.refl _ _ | assumption | (refine Below.andThen ?_ HB.out) | (exact HB.out.size) | (refine below_drewN ?_ _) | (refine Below.drew ?_) | (refine Below.alloc ?_ ?_ _) | (refine Below.setCell ?_ ?_ _) | (simp; done) | (simp; omega) | omega)
  replace F0 := has2 F0 hW
  replace F1 := has3 F1 hW
  replace F2 := has3 F2 hW
  have F3 : Has3 w4 (w3.heap.size) (.int .i64 920) (.int .i64 920) (.int .i64 7) := has3 ⟨(by first | (simp; done) | (simp; omega)), by go_simp, by go_simp, by go_simp⟩ hb
  replace BB := Lib.hid (Below.andThen BB.out hW)
  replace HT := Lib.hid (HT.out.next hW)
  clear hb hW HB
  go_wp2_with fail
  refine (lit_res sane_c5 (share_any _ _ _ _ _ _ (HT.out.next (by (repeat' first | exact Below.refl _ _ | assumption | (refine below_drewN ?_ _) | (refine Below.drew ?_) | (refine Below.alloc ?_ ?_ _) | (refine Below.setCell ?_ ?_ _) | (simp; done) | (simp; omega) | omega))))).mono ?_
  rintro e w5 ⟨rfl, hb⟩
  have HB := Lib.hid hb
  have hW : Below w4.heap.size w4 w5 := by (repeat' first | exact Below.refl _ _ | assumption | (refine Below.andThen ?_ HB.out) | (exact HB.out.size) | (refine below_drewN ?_ _) | (refine Below.drew ?_) | (refine Below.alloc ?_ ?_ _) | (refine Below.setCell ?_ ?_ _) | (simp; done) | (simp; omega) | omega)
  replace F0 := has2 F0 hW
  replace F1 := has3 F1 hW
  replace F2 := has3 F2 hW
  replace F3 := has3 F3 hW
  have F4 : Has3 w5 (w4.heap.size) (.int .i64 1200) (.int .i64 1300) (.int .i64 1) := has3 ⟨(by first | (simp; done) | (simp; omega)), by go_simp, by go_simp, by go_simp⟩ hb
  replace BB := Lib.hid (Below.andThen BB.out hW)
  replace HT := Lib.hid (HT.out.next hW)
  clear hb hW HB
  go_wp2_with fail
  refine (lit_res sane_c6 (meet_any _ _ _ _ _ _ _ (HT.out.next (by (repeat' first | exact Below.refl _ _ | assumption | (refine below_drewN ?_ _) | (refine Below.drew ?_) | (refine Below.alloc ?_ ?_ _) | (refine Below.setCell ?_ ?_ _) | (simp; done) | (simp; omega) | omega))))).mono ?_
  rintro e w6 ⟨rfl, hb⟩
  have HB := Lib.hid hb
  have hW : Below w5.heap.size w5 w6 := by (repeat' first | exact Below.refl _ _ | assumption | (refine Below.andThen ?_ HB.out) | (exact HB.out.size) | (refine below_drewN ?_ _) | (refine Below.drew ?_) | (refine Below.alloc ?_ ?_ _) | (refine Below.setCell ?_ ?_ _) | (simp; done) | (simp; omega) | omega)
  replace F0 := has2 F0 hW
  replace F1 := has3 F1 hW
  replace F2 := has3 F2 hW
  replace F3 := has3 F3 hW
  replace F4 := has3 F4 hW
  have F5 : Has3 w6 (w5.heap.size) (.int .i64 3) (.int .i64 4) (.int .i64 1) := has3 ⟨(by first | (simp; done) | (simp; omega)), by go_simp, by go_simp, by go_simp⟩ hb
  replace BB := Lib.hid (Below.andThen BB.out hW)
  replace HT := Lib.hid (HT.out.next hW)
  clear hb hW HB
  go_wp2_with fail
  refine (lit_res sane_c7 (meet_any _ _ _ _ _ _ _ (HT.out.next (by (repeat' first | exact Below.refl _ _ | assumption | (refine below_drewN ?_ _) | (refine Below.drew ?_) | (refine Below.alloc ?_ ?_ _) | (refine Below.setCell ?_ ?_ _) | (simp; done) | (simp; omega) | omega))))).mono ?_
  rintro e w7 ⟨rfl, hb⟩
  have HB := Lib.hid hb
  have hW : Below w6.heap.size w6 w7 := by (repeat' first | exact Below.refl _ _ | assumption | (refine Below.andThen ?_ HB.out) | (exact HB.out.size) | (refine below_drewN ?_ _) | (refine Below.drew ?_) | (refine Below.alloc ?_ ?_ _) | (refine Below.setCell ?_ ?_ _) | (simp; done) | (simp; omega) | omega)
  replace F0 := has2 F0 hW
  replace F1 := has3 F1 hW
  replace F2 := has3 F2 hW
  replace F3 := has3 F3 hW
  replace F4 := has3 F4 hW
  replace F5 := has3 F5 hW
  have F6 : Has3 w7 (w6.heap.size) (.int .i64 7) (.int .i64 9) (.int .i64 2) := has3 ⟨(by first | (simp; done) | (simp; omega)), by go_simp, by go_simp, by go_simp⟩ hb
  replace BB := Lib.hid (Below.andThen BB.out hW)
  replace HT := Lib.hid (HT.out.next hW)
  clear hb hW HB
  go_wp2_with fail
  refine (lit_res sane_c8 (add_any _ _ _ _ _ _ _ (HT.out.next (by (repeat' first | exact Below.refl _ _ | assumption | (refine below_drewN ?_ _) | (refine Below.drew ?_) | (refine Below.alloc ?_ ?_ _) | (refine Below.setCell ?_ ?_ _) | (simp; done) | (simp; omega) | omega))))).mono ?_
  rintro e w8 ⟨rfl, hb⟩
  have HB := Lib.hid hb
  have hW : Below w7.heap.size w7 w8 := by (repeat' first | exact Below.refl _ _ | assumption | (refine Below.andThen ?_ HB.out) | (exact HB.out.size) | (refine below_drewN ?_ _) | (refine Below.drew ?_) | (refine Below.alloc ?_ ?_ _) | (refine Below.setCell ?_ ?_ _) | (simp; done) | (simp; omega) | omega)
  replace F0 := has2 F0 hW
  replace F1 := has3 F1 hW
  replace F2 := has3 F2 hW
  replace F3 := has3 F3 hW
  replace F4 := has3 F4 hW
  replace F5 := has3 F5 hW
  replace F6 := has3 F6 hW
  have F7 : Has3 w8 (w7.heap.size) (.int .i64 0) (.int .i64 0) (.int .i64 0) := has3 ⟨(by first | (simp; done) | (simp; omega)), by go_simp, by go_simp, by go_simp⟩ hb
  replace BB := Lib.hid (Below.andThen BB.out hW)
  replace HT := Lib.hid (HT.out.next hW)
  clear hb hW HB
  go_wp2_with fail
  clear F3 F5 F6 F7
  refine (lit_b (by decide : validB 0 0 0 = true) (valid_any _ _ _ _ (HT.out.next (by (repeat' first | exact Below.refl _ _ | assumption | (refine below_drewN ?_ _) | (refine Below.drew ?_) | (refine Below.alloc ?_ ?_ _) | (refine Below.setCell ?_ ?_ _) | (simp; done) | (simp; omega) | omega))))).mono ?_
  rintro e w9 ⟨rfl, hb⟩
  have HB := Lib.hid hb
  have hW : Below w8.heap.size w8 w9 := by (repeat' first | exact Below.refl _ _ | assumption | (refine Below.andThen ?_ HB.out) | (exact HB.out.size) | (refine below_drewN ?_ _) | (refine Below.drew ?_) | (refine Below.alloc ?_ ?_ _) | (refine Below.setCell ?_ ?_ _) | (simp; done) | (simp; omega) | omega)
  replace F0 := has2 F0 hW
  replace F1 := has3 F1 hW
  replace F2 := has3 F2 hW
  replace F4 := has3 F4 hW
  replace BB := Lib.hid (Below.andThen BB.out hW)
  replace HT := Lib.hid (HT.out.next hW)
  clear hb hW HB
  go_wp2_with fail
  refine (lit_b (by decide : validB 1 0 0 = false) (valid_any _ _ _ _ HT.out)).mono ?_
  rintro e w10 ⟨rfl, hb⟩
  have HB := Lib.hid hb
  have hW : Below w9.heap.size w9 w10 := by (repeat' first | exact Below.refl _ _ | assumption | (refine Below.andThen ?_ HB.out) | (exact HB.out.size) | (refine below_drewN ?_ _) | (refine Below.drew ?_) | (refine Below.alloc ?_ ?_ _) | (refine Below.setCell ?_ ?_ _) | (simp; done) | (simp; omega) | omega)
  replace F0 := has2 F0 hW
  replace F1 := has3 F1 hW
  replace F2 := has3 F2 hW
  replace F4 := has3 F4 hW
  replace BB := Lib.hid (Below.andThen BB.out hW)
  replace HT := Lib.hid (HT.out.next hW)
  clear hb hW HB
  go_wp2_with fail
  refine (lit_b (by decide : ratesB 100 92 = true) (rates_any _ _ _)).mono ?_
  rintro e w11 ⟨rfl, hb⟩
  have HB := Lib.hid hb
  have hW : Below w10.heap.size w10 w11 := by (repeat' first | exact Below.refl _ _ | assumption | (refine Below.andThen ?_ HB.out) | (exact HB.out.size) | (refine below_drewN ?_ _) | (refine Below.drew ?_) | (refine Below.alloc ?_ ?_ _) | (refine Below.setCell ?_ ?_ _) | (simp; done) | (simp; omega) | omega)
  replace F1 := has3 F1 hW
  replace F2 := has3 F2 hW
  replace F4 := has3 F4 hW
  replace BB := Lib.hid (Below.andThen BB.out hW)
  replace HT := Lib.hid (HT.out.next hW)
  clear hb hW HB
  go_wp2_with fail
  refine (lit_b (by decide : ratesB 0 0 = false) (rates_any _ _ _)).mono ?_
  rintro e w12 ⟨rfl, hb⟩
  have HB := Lib.hid hb
  have hW : Below w11.heap.size w11 w12 := by (repeat' first | exact Below.refl _ _ | assumption | (refine Below.andThen ?_ HB.out) | (exact HB.out.size) | (refine below_drewN ?_ _) | (refine Below.drew ?_) | (refine Below.alloc ?_ ?_ _) | (refine Below.setCell ?_ ?_ _) | (simp; done) | (simp; omega) | omega)
  replace F1 := has3 F1 hW
  replace F2 := has3 F2 hW
  replace F4 := has3 F4 hW
  replace BB := Lib.hid (Below.andThen BB.out hW)
  replace HT := Lib.hid (HT.out.next hW)
  clear hb hW HB
  go_wp2_with fail
  refine (lit_i (by decide : kindZ 5 = 3) (kind_any _ _ HT.out)).mono ?_
  rintro e w13 ⟨rfl, hb⟩
  have HB := Lib.hid hb
  have hW : Below w12.heap.size w12 w13 := by (repeat' first | exact Below.refl _ _ | assumption | (refine Below.andThen ?_ HB.out) | (exact HB.out.size) | (refine below_drewN ?_ _) | (refine Below.drew ?_) | (refine Below.alloc ?_ ?_ _) | (refine Below.setCell ?_ ?_ _) | (simp; done) | (simp; omega) | omega)
  replace F1 := has3 F1 hW
  replace F2 := has3 F2 hW
  replace F4 := has3 F4 hW
  replace BB := Lib.hid (Below.andThen BB.out hW)
  replace HT := Lib.hid (HT.out.next hW)
  clear hb hW HB
  go_wp2_with fail
  refine (lit_b (by decide : containsB 1200 1300 1 1200 1300 1 = true) (contains_any _ _ _ _ _ _ _ HT.out)).mono ?_
  rintro e w14 ⟨rfl, hb⟩
  have HB := Lib.hid hb
  have hW : Below w13.heap.size w13 w14 := by (repeat' first | exact Below.refl _ _ | assumption | (refine Below.andThen ?_ HB.out) | (exact HB.out.size) | (refine below_drewN ?_ _) | (refine Below.drew ?_) | (refine Below.alloc ?_ ?_ _) | (refine Below.setCell ?_ ?_ _) | (simp; done) | (simp; omega) | omega)
  replace F1 := has3 F1 hW
  replace F2 := has3 F2 hW
  replace BB := Lib.hid (Below.andThen BB.out hW)
  replace HT := Lib.hid (HT.out.next hW)
  clear hb hW HB
  go_wp2_with fail
  refine (lit_b (by decide : containsB 30 37 2 22 23 5 = false) (contains_any _ _ _ _ _ _ _ HT.out)).mono ?_
  rintro e w15 ⟨rfl, hb⟩
  have HB := Lib.hid hb
  have hW : Below w14.heap.size w14 w15 := by (repeat' first | exact Below.refl _ _ | assumption | (refine Below.andThen ?_ HB.out) | (exact HB.out.size) | (refine below_drewN ?_ _) | (refine Below.drew ?_) | (refine Below.alloc ?_ ?_ _) | (refine Below.setCell ?_ ?_ _) | (simp; done) | (simp; omega) | omega)
  replace BB := Lib.hid (Below.andThen BB.out hW)
  replace HT := Lib.hid (HT.out.next hW)
  clear hb hW HB
  go_wp2
  go_ret
  exact ⟨rfl, BB.out⟩
end Go.Proofs.YtdldokhiefeloaaDoor
