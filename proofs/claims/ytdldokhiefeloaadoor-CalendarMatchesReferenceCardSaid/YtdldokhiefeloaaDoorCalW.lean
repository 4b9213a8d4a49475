/- The fixed examples with which each statement begins; pick. -/
import Derived.Test.YtdldokhiefeloaaDoorCalV
import Derived.KernelRfl
namespace Go.Proofs.YtdldokhiefeloaaDoor
open Go.RowKit

theorem sane_p1 : partsR 0 0 = ⟨2000, 1, 1, 0, 0, 5⟩ := by kernel_rfl
theorem sane_p2 : partsR 0 (-60) = ⟨1999, 12, 31, 23, 0, 4⟩ := by kernel_rfl
theorem sane_p3 : printR 84960 60 = (⟨#[50, 48, 48, 48, 45, 48, 50, 45, 50, 57]⟩, ⟨#[48, 49, 58, 48, 48]⟩, 0) := by kernel_rfl
theorem sane_r1 : readR ⟨#[50, 48, 48, 48, 45, 48, 50, 45, 50, 57]⟩ ⟨#[48, 49, 58, 48, 48]⟩ 60 = (84960, 0) := by kernel_rfl
theorem sane_r2 : readR ⟨#[50, 48, 48, 48, 45, 48, 50, 45, 51, 48]⟩ ⟨#[48, 48, 58, 48, 48]⟩ 0 = (0, 60) := by kernel_rfl
theorem sane_r3 : readR ⟨#[49, 57, 57, 57, 45, 49, 50, 45, 51, 49]⟩ ⟨#[50, 51, 58, 53, 57]⟩ 0 = (0, 60) := by kernel_rfl
theorem sane_m : minuteR ⟨2000, 1, 2, 0, 1, 6⟩ 0 = (1441, 0) := by kernel_rfl

theorem put_v {f : FuncId} {args : Array Value} {w : World} {a b : Value} (h : a = b) (hc : Calls Tryd.prog f args w fun r w' => r = .returned a ∧ Below w.heap.size w w') :
    Calls Tryd.prog f args w fun r w' => r = .returned b ∧ Below w.heap.size w w' := h ▸ hc
theorem sameB {f : FuncId} {args : Array Value} {w : World} {v : Value} (h : Calls Tryd.prog f args w fun e w' => e = .returned v ∧ w = w') : Calls Tryd.prog f args w fun e w' => e = .returned v ∧ Below w.heap.size w w' :=
  h.mono fun _ _ ⟨he, hb⟩ => ⟨he, by rw [← hb]; exact Below.refl _ _⟩
theorem parts_v {m o : Int} {c : Civ} {e : Int} (h1 : partsR m o = c) (h2 : partsE m o = e) (w : World) (T : CTab w) :
    Calls Tryd.prog 43 #[.int .i64 m, .int .i64 o] w fun r w' => r = .returned (.tuple #[civA c, .int .i64 e]) ∧ Below w.heap.size w w' := by subst h1 h2; exact parts_any m o w T
theorem print_v {m o : Int} {V : ByteArray × ByteArray × Int} (h : printR m o = V) (w : World) (T : CTab w) :
    Calls Tryd.prog 45 #[.int .i64 m, .int .i64 o] w fun e w' => e = .returned (.tuple #[.string V.1, .string V.2.1, .int .i64 V.2.2]) ∧ Below w.heap.size w w' := by subst h; exact print_any m o w T
theorem minute_v {c : Civ} {o : Int} {V : Int × Int} (h : minuteR c o = V) (w : World) (T : CTab w) :
    Calls Tryd.prog 47 #[civA c, .int .i64 o] w fun e w' => e = .returned (.tuple #[.int .i64 V.1, .int .i64 V.2]) ∧ Below w.heap.size w w' := by subst h; exact minute_any c o w T
theorem read_v {s t : ByteArray} {o : Int} {V : Int × Int} (h : readR s t o = V) (w : World) (T : CW w) (hs : s.size < 4294967281) (ht : t.size < 4294967281) :
    Calls Tryd.prog 49 #[.string s, .string t, .int .i64 o] w fun e w' => e = .returned (.tuple #[.int .i64 V.1, .int .i64 V.2]) ∧ Below w.heap.size w w' := by subst h; exact read_any s t o w T hs ht
theorem days_v {y m d : Int} (h : daysZ y m = d) (w : World) (T : CTab w) : Calls Tryd.prog 51 #[.int .i64 y, .int .i64 m] w fun e w' => e = .returned (.int .i64 d) ∧ w = w' := by subst h; exact days_any y m w T

theorem pickC_any (c n : Int) (w : World) (hn : 0 < n) (hc' : -9223372036854775808 ≤ c) (hc : c ≤ 9223372036854775807) :
    Calls Tryd.prog 42 #[.int .i64 c, .int .i64 n] w fun e w' => e = .returned (.int .i64 (pickZ c n)) ∧ w = w' := by
  by_cases h : c < 0
  · have h0 : 0 ≤ -(c + 1) := by omega
    have e : (-(c + 1)).tmod n = pickZ c n := by rw [Int.tmod_eq_emod_of_nonneg h0]; simp [pickZ, h]
    have E := Lib.hid e
    clear e
    go_enter Tryd.func42, Tryd.ntmps42
    go_wp2
    go_ret
    exact ⟨retv (vint (by rw [← E.out, Int.neg_tmod])), rfl⟩
  · have h0 : 0 ≤ c := by omega
    have e : c % n = pickZ c n := by simp [pickZ, h]
    have E := Lib.hid e
    clear e
    go_enter Tryd.func42, Tryd.ntmps42
    go_wp2
    go_ret
    exact ⟨retv (vint E.out), rfl⟩

set_option maxRecDepth 100000 in
set_option maxHeartbeats 4000000 in
theorem saneC_any (w : World) (T : CW w) : Calls Tryd.prog 41 #[] w fun r w' => r = .returned (.bool true) ∧ Below w.heap.size w w' := by
  have HT := Lib.hid T
  have BB := Lib.hid (Below.refl w.heap.size w)
  clear T
  go_enter Tryd.func41, Tryd.ntmps41
  go_wp2_with fail
  refine (parts_v sane_p1 (by decide : partsE 0 0 = 0) _ HT.out.tab).mono ?_
  rintro e w1 ⟨rfl, hb⟩
  have HB := Lib.hid hb
  have hW : Below w.heap.size w w1 := by (repeat' first | exact Below.refl _ _ | assumption | (refine Below.andThen ?_ HB.out) | (exact HB.out.size) | (refine below_drewN ?_ _) | (refine Below.drew ?_) | (refine Below.alloc ?_ ?_ _) | (refine Below.setCell ?_ ?_ _) | (simp; done) | (simp; omega) | omega)
  replace BB := Lib.hid (Below.andThen BB.out hW)
  replace HT := Lib.hid (HT.out.next hW)
  clear hb hW HB
  go_wp2_with fail
  refine (parts_v sane_p2 (by decide : partsE 0 (-60) = 0) _ (HT.out.next (by (repeat' first | with_reducible exact Below.refl _ _ | with_reducible assumption | (with_reducible refine below_drewN ?_ _) | (with_reducible refine Below.drew ?_) | (with_reducible refine Below.alloc ?_ ?_ _) | (with_reducible refine Below.setCell ?_ ?_ _) | omega | (simp; done) | (simp; omega)))).tab).mono ?_
  rintro e w2 ⟨rfl, hb⟩
  have HB := Lib.hid hb
  have hW : Below w1.heap.size w1 w2 := by (repeat' first | exact Below.refl _ _ | assumption | (refine Below.andThen ?_ HB.out) | (exact HB.out.size) | (refine below_drewN ?_ _) | (refine Below.drew ?_) | (refine Below.alloc ?_ ?_ _) | (refine Below.setCell ?_ ?_ _) | (simp; done) | (simp; omega) | omega)
  have F1 : Has6 w2 (w1.heap.size) (.int .i64 2000) (.int .i64 1) (.int .i64 1) (.int .i64 0) (.int .i64 0) (.int .i64 5) := has6 ⟨(by first | (simp; done) | (simp; omega)), by go_simp, by go_simp, by go_simp, by go_simp, by go_simp, by go_simp⟩ hb
  replace BB := Lib.hid (Below.andThen BB.out hW)
  replace HT := Lib.hid (HT.out.next hW)
  clear hb hW HB
  go_wp2_with fail
  refine (print_v sane_p3 _ (HT.out.next (by (repeat' first | with_reducible exact Below.refl _ _ | with_reducible assumption | (with_reducible refine below_drewN ?_ _) | (with_reducible refine Below.drew ?_) | (with_reducible refine Below.alloc ?_ ?_ _) | (with_reducible refine Below.setCell ?_ ?_ _) | omega | (simp; done) | (simp; omega)))).tab).mono ?_
  rintro e w3 ⟨rfl, hb⟩
  have HB := Lib.hid hb
  have hW : Below w2.heap.size w2 w3 := by (repeat' first | exact Below.refl _ _ | assumption | (refine Below.andThen ?_ HB.out) | (exact HB.out.size) | (refine below_drewN ?_ _) | (refine Below.drew ?_) | (refine Below.alloc ?_ ?_ _) | (refine Below.setCell ?_ ?_ _) | (simp; done) | (simp; omega) | omega)
  replace F1 := has6 F1 hW
  have F2 : Has6 w3 (w2.heap.size) (.int .i64 1999) (.int .i64 12) (.int .i64 31) (.int .i64 23) (.int .i64 0) (.int .i64 4) := has6 ⟨(by first | (simp; done) | (simp; omega)), by go_simp, by go_simp, by go_simp, by go_simp, by go_simp, by go_simp⟩ hb
  replace BB := Lib.hid (Below.andThen BB.out hW)
  replace HT := Lib.hid (HT.out.next hW)
  clear hb hW HB
  go_wp2_with fail
  refine (read_v sane_r1 _ HT.out (by decide) (by decide)).mono ?_
  rintro e w4 ⟨rfl, hb⟩
  have HB := Lib.hid hb
  have hW : Below w3.heap.size w3 w4 := by (repeat' first | exact Below.refl _ _ | assumption | (refine Below.andThen ?_ HB.out) | (exact HB.out.size) | (refine below_drewN ?_ _) | (refine Below.drew ?_) | (refine Below.alloc ?_ ?_ _) | (refine Below.setCell ?_ ?_ _) | (simp; done) | (simp; omega) | omega)
  replace F1 := has6 F1 hW
  replace F2 := has6 F2 hW
  replace BB := Lib.hid (Below.andThen BB.out hW)
  replace HT := Lib.hid (HT.out.next hW)
  clear hb hW HB
  go_wp2_with fail
  refine (read_v sane_r2 _ HT.out (by decide) (by decide)).mono ?_
  rintro e w5 ⟨rfl, hb⟩
  have HB := Lib.hid hb
  have hW : Below w4.heap.size w4 w5 := by (repeat' first | exact Below.refl _ _ | assumption | (refine Below.andThen ?_ HB.out) | (exact HB.out.size) | (refine below_drewN ?_ _) | (refine Below.drew ?_) | (refine Below.alloc ?_ ?_ _) | (refine Below.setCell ?_ ?_ _) | (simp; done) | (simp; omega) | omega)
  replace F1 := has6 F1 hW
  replace F2 := has6 F2 hW
  replace BB := Lib.hid (Below.andThen BB.out hW)
  replace HT := Lib.hid (HT.out.next hW)
  clear hb hW HB
  go_wp2_with fail
  refine (read_v sane_r3 _ HT.out (by decide) (by decide)).mono ?_
  rintro e w6 ⟨rfl, hb⟩
  have HB := Lib.hid hb
  have hW : Below w5.heap.size w5 w6 := by (repeat' first | exact Below.refl _ _ | assumption | (refine Below.andThen ?_ HB.out) | (exact HB.out.size) | (refine below_drewN ?_ _) | (refine Below.drew ?_) | (refine Below.alloc ?_ ?_ _) | (refine Below.setCell ?_ ?_ _) | (simp; done) | (simp; omega) | omega)
  replace F1 := has6 F1 hW
  replace F2 := has6 F2 hW
  replace BB := Lib.hid (Below.andThen BB.out hW)
  replace HT := Lib.hid (HT.out.next hW)
  clear hb hW HB
  go_wp2_with fail
  refine (minute_v sane_m _ HT.out.tab).mono ?_
  rintro e w7 ⟨rfl, hb⟩
  have HB := Lib.hid hb
  have hW : Below w6.heap.size w6 w7 := by (repeat' first | exact Below.refl _ _ | assumption | (refine Below.andThen ?_ HB.out) | (exact HB.out.size) | (refine below_drewN ?_ _) | (refine Below.drew ?_) | (refine Below.alloc ?_ ?_ _) | (refine Below.setCell ?_ ?_ _) | (simp; done) | (simp; omega) | omega)
  replace F1 := has6 F1 hW
  replace F2 := has6 F2 hW
  replace BB := Lib.hid (Below.andThen BB.out hW)
  replace HT := Lib.hid (HT.out.next hW)
  clear hb hW HB
  go_wp2_with fail
  refine (sameB (days_v (by decide : daysZ 1900 2 = 28) _ HT.out.tab)).mono ?_
  rintro e w8 ⟨rfl, hb⟩
  have HB := Lib.hid hb
  have hW : Below w7.heap.size w7 w8 := by (repeat' first | exact Below.refl _ _ | assumption | (refine Below.andThen ?_ HB.out) | (exact HB.out.size) | (refine below_drewN ?_ _) | (refine Below.drew ?_) | (refine Below.alloc ?_ ?_ _) | (refine Below.setCell ?_ ?_ _) | (simp; done) | (simp; omega) | omega)
  replace F1 := has6 F1 hW
  replace F2 := has6 F2 hW
  replace BB := Lib.hid (Below.andThen BB.out hW)
  replace HT := Lib.hid (HT.out.next hW)
  clear hb hW HB
  go_wp2_with fail
  refine (sameB (days_v (by decide : daysZ 2000 2 = 29) _ HT.out.tab)).mono ?_
  rintro e w9 ⟨rfl, hb⟩
  have HB := Lib.hid hb
  have hW : Below w8.heap.size w8 w9 := by (repeat' first | exact Below.refl _ _ | assumption | (refine Below.andThen ?_ HB.out) | (exact HB.out.size) | (refine below_drewN ?_ _) | (refine Below.drew ?_) | (refine Below.alloc ?_ ?_ _) | (refine Below.setCell ?_ ?_ _) | (simp; done) | (simp; omega) | omega)
  replace F1 := has6 F1 hW
  replace F2 := has6 F2 hW
  replace BB := Lib.hid (Below.andThen BB.out hW)
  replace HT := Lib.hid (HT.out.next hW)
  clear hb hW HB
  go_wp2_with fail
  refine (sameB (days_v (by decide : daysZ 2001 13 = 0) _ HT.out.tab)).mono ?_
  rintro e w10 ⟨rfl, hb⟩
  have HB := Lib.hid hb
  have hW : Below w9.heap.size w9 w10 := by (repeat' first | exact Below.refl _ _ | assumption | (refine Below.andThen ?_ HB.out) | (exact HB.out.size) | (refine below_drewN ?_ _) | (refine Below.drew ?_) | (refine Below.alloc ?_ ?_ _) | (refine Below.setCell ?_ ?_ _) | (simp; done) | (simp; omega) | omega)
  replace F1 := has6 F1 hW
  replace F2 := has6 F2 hW
  replace BB := Lib.hid (Below.andThen BB.out hW)
  replace HT := Lib.hid (HT.out.next hW)
  clear hb hW HB
  go_wp2
  go_ret
  exact ⟨rfl, BB.out⟩
end Go.Proofs.YtdldokhiefeloaaDoor
