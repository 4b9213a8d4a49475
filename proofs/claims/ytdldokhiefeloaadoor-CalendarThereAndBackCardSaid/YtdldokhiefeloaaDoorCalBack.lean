/- For every input, CalendarThereAndBack returns true and leaves its arguments as they were; the tables hold what the program's text lays. -/
import Derived.Test.YtdldokhiefeloaaDoorCalTB
import Derived.Lib.MinMax
namespace Go.Proofs.YtdldokhiefeloaaDoor
open Go.RowKit Go.ChangeShapes Go.WideShapes Go.ChangeAt

set_option maxRecDepth 100000 in
set_option maxHeartbeats 8000000 in
theorem back_walk (x1 x2 m o0 o a1 a2 a3 a4 a5 a6 c1 c2 c3 c4 c5 c6 x j y l : Int) (s t D T P Q : ByteArray) (w : World) (TT : CW w)
    (ho : o = o0 - 840) (bm : 0 ≤ m ∧ m ≤ 50000000) (bo : 0 ≤ o0 ∧ o0 < 1681) (hD : D = s.extract 0 (min (s.size : Int) 20).toNat) (hT : T = t.extract 0 (min (t.size : Int) 20).toNat) (ss : s.size ≤ maxLen) (st : t.size ≤ maxLen)
    (HM : ∀ w, Calls Tryd.prog 42 #[.int .i64 x1, .int .i64 50000001] w fun e w' => e = .returned (.int .i64 m) ∧ w = w')
    (HO : ∀ w, Calls Tryd.prog 42 #[.int .i64 x2, .int .i64 1681] w fun e w' => e = .returned (.int .i64 o0) ∧ w = w')
    (HA : ∀ w, CTab w → Calls Tryd.prog 43 #[.int .i64 m, .int .i64 o] w fun r w' => r = .returned (.tuple #[civV a1 a2 a3 a4 a5 a6, .int .i64 0]) ∧ Below w.heap.size w w')
    (HN : ∀ w, CTab w → Calls Tryd.prog 47 #[civV a1 a2 a3 a4 a5 a6, .int .i64 o] w fun r w' => r = .returned (.tuple #[.int .i64 m, .int .i64 0]) ∧ Below w.heap.size w w')
    (HP : ∀ w, CTab w → Calls Tryd.prog 45 #[.int .i64 m, .int .i64 o] w fun r w' => r = .returned (.tuple #[.string P, .string Q, .int .i64 0]) ∧ Below w.heap.size w w')
    (HR : ∀ w, CW w → Calls Tryd.prog 49 #[.string P, .string Q, .int .i64 o] w fun r w' => r = .returned (.tuple #[.int .i64 m, .int .i64 0]) ∧ Below w.heap.size w w')
    (HC : ∀ w, CTab w → Calls Tryd.prog 47 #[civV c1 c2 c3 c4 c5 c6, .int .i64 o] w fun r w' => r = .returned (.tuple #[.int .i64 x, .int .i64 j]) ∧ Below w.heap.size w w')
    (HJ : j = 60 ∨ (j = 0 ∧ ∀ w, CTab w → Calls Tryd.prog 43 #[.int .i64 x, .int .i64 o] w fun r w' => r = .returned (.tuple #[civV c1 c2 c3 c4 c5 c6, .int .i64 0]) ∧ Below w.heap.size w w'))
    (HE : ∀ w, CW w → Calls Tryd.prog 49 #[.string D, .string T, .int .i64 o] w fun r w' => r = .returned (.tuple #[.int .i64 y, .int .i64 l]) ∧ Below w.heap.size w w')
    (HL : (y = 0 ∧ l = 60) ∨ (l = 0 ∧ ∀ w, CTab w → Calls Tryd.prog 45 #[.int .i64 y, .int .i64 o] w fun r w' => r = .returned (.tuple #[.string D, .string T, .int .i64 0]) ∧ Below w.heap.size w w')) :
    Calls Tryd.prog 10 #[.int .i64 x1, .int .i64 x2, civV c1 c2 c3 c4 c5 c6, .string s, .string t] w fun r w' => r = .returned (.bool true) ∧ Below w.heap.size w w' := by
  have HTW := Lib.hid TT
  have GM := Lib.hid HM
  have GO := Lib.hid HO
  have GA := Lib.hid HA
  have GN := Lib.hid HN
  have GP := Lib.hid HP
  have GR := Lib.hid HR
  have GC := Lib.hid HC
  have GJ := Lib.hid HJ
  have GE := Lib.hid HE
  have GL := Lib.hid HL
  have o1 : -840 ≤ o := by omega
  have o2 : o ≤ 840 := by omega
  obtain ⟨bm1, bm2⟩ := bm
  obtain ⟨bo1, bo2⟩ := bo
  have ho' := Lib.hid ho
  have hD' := Lib.hid hD
  have hT' := Lib.hid hT
  unfold maxLen at ss st
  clear HM HO HA HN HP HR HC HJ HE HL ho hD hT
  have HT := Lib.hid (HTW.out.next (show Below w.heap.size w (w.alloc (.cells #[.int .i64 c1, .int .i64 c2, .int .i64 c3, .int .i64 c4, .int .i64 c5, .int .i64 c6] 57)) by (repeat' first | with_reducible exact Below.refl _ _ | with_reducible assumption | (with_reducible refine below_drewN ?_ _) | (with_reducible refine Below.drew ?_) | (with_reducible refine Below.alloc ?_ ?_ _) | (with_reducible refine Below.setCell ?_ ?_ _) | omega | (simp; done) | (simp; omega))))
  have BB := Lib.hid (show Below w.heap.size w (w.alloc (.cells #[.int .i64 c1, .int .i64 c2, .int .i64 c3, .int .i64 c4, .int .i64 c5, .int .i64 c6] 57)) by (repeat' first | with_reducible exact Below.refl _ _ | with_reducible assumption | (with_reducible refine below_drewN ?_ _) | (with_reducible refine Below.drew ?_) | (with_reducible refine Below.alloc ?_ ?_ _) | (with_reducible refine Below.setCell ?_ ?_ _) | omega | (simp; done) | (simp; omega)))
  clear TT
  go_enter Tryd.func10, Tryd.ntmps10
  go_wp2_with fail
  refine (saneC_any _ HT.out).mono ?_
  rintro e w1 ⟨rfl, hb⟩
  have F0 : Has6 w1 w.heap.size (.int .i64 c1) (.int .i64 c2) (.int .i64 c3) (.int .i64 c4) (.int .i64 c5) (.int .i64 c6) := has6 ⟨(by first | (simp; done) | (simp; omega)), by go_simp, by go_simp, by go_simp, by go_simp, by go_simp, by go_simp⟩ hb
  replace BB := Lib.hid (Below.andThen BB.out hb)
  replace HT := Lib.hid (HT.out.next hb)
  clear hb HTW
  go_wp2_with fail
  refine (sameB (GM.out _)).mono ?_
  rintro e w2 ⟨rfl, hb⟩
  have HB := Lib.hid hb
  have hW : Below w1.heap.size w1 w2 := by (repeat' first | exact Below.refl _ _ | assumption | (refine Below.andThen ?_ HB.out) | (exact HB.out.size) | (refine below_drewN ?_ _) | (refine Below.drew ?_) | (refine Below.alloc ?_ ?_ _) | (refine Below.setCell ?_ ?_ _) | (simp; done) | (simp; omega) | omega)
  replace F0 := has6 F0 hW
  replace BB := Lib.hid (Below.andThen BB.out hW)
  replace HT := Lib.hid (HT.out.next hW)
  clear hb hW HB
  go_wp2_with fail
  refine (sameB (GO.out _)).mono ?_
  rintro e w3 ⟨rfl, hb⟩
  have HB := Lib.hid hb
  have hW : Below w2.heap.size w2 w3 := by (repeat' first | exact Below.refl _ _ | assumption | (refine Below.andThen ?_ HB.out) | (exact HB.out.size) | (refine below_drewN ?_ _) | (refine Below.drew ?_) | (refine Below.alloc ?_ ?_ _) | (refine Below.setCell ?_ ?_ _) | (simp; done) | (simp; omega) | omega)
  replace F0 := has6 F0 hW
  replace BB := Lib.hid (Below.andThen BB.out hW)
  replace HT := Lib.hid (HT.out.next hW)
  clear hb hW HB
  go_wp2_with fail
  rw [← ho'.out]
  clear bo1 bo2 ho'
  refine (GA.out _ HT.out.tab).mono ?_
  rintro e w4 ⟨rfl, hb⟩
  have HB := Lib.hid hb
  have hW : Below w3.heap.size w3 w4 := by (repeat' first | exact Below.refl _ _ | assumption | (refine Below.andThen ?_ HB.out) | (exact HB.out.size) | (refine below_drewN ?_ _) | (refine Below.drew ?_) | (refine Below.alloc ?_ ?_ _) | (refine Below.setCell ?_ ?_ _) | (simp; done) | (simp; omega) | omega)
  replace F0 := has6 F0 hW
  replace BB := Lib.hid (Below.andThen BB.out hW)
  replace HT := Lib.hid (HT.out.next hW)
  clear hb hW HB
  go_wp2_with fail
  refine (GN.out _ (HT.out.next (by (repeat' first | with_reducible exact Below.refl _ _ | with_reducible assumption | (with_reducible refine below_drewN ?_ _) | (with_reducible refine Below.drew ?_) | (with_reducible refine Below.alloc ?_ ?_ _) | (with_reducible refine Below.setCell ?_ ?_ _) | omega | (simp; done) | (simp; omega)))).tab).mono ?_
  rintro e w5 ⟨rfl, hb⟩
  have HB := Lib.hid hb
  have hW : Below w4.heap.size w4 w5 := by (repeat' first | exact Below.refl _ _ | assumption | (refine Below.andThen ?_ HB.out) | (exact HB.out.size) | (refine below_drewN ?_ _) | (refine Below.drew ?_) | (refine Below.alloc ?_ ?_ _) | (refine Below.setCell ?_ ?_ _) | (simp; done) | (simp; omega) | omega)
  replace F0 := has6 F0 hW
  replace BB := Lib.hid (Below.andThen BB.out hW)
  replace HT := Lib.hid (HT.out.next hW)
  clear hb hW HB
  go_wp2_with fail
  refine (GP.out _ HT.out.tab).mono ?_
  rintro e w6 ⟨rfl, hb⟩
  have HB := Lib.hid hb
  have hW : Below w5.heap.size w5 w6 := by (repeat' first | exact Below.refl _ _ | assumption | (refine Below.andThen ?_ HB.out) | (exact HB.out.size) | (refine below_drewN ?_ _) | (refine Below.drew ?_) | (refine Below.alloc ?_ ?_ _) | (refine Below.setCell ?_ ?_ _) | (simp; done) | (simp; omega) | omega)
  replace F0 := has6 F0 hW
  replace BB := Lib.hid (Below.andThen BB.out hW)
  replace HT := Lib.hid (HT.out.next hW)
  clear hb hW HB
  go_wp2_with fail
  refine (GR.out _ HT.out).mono ?_
  rintro e w7 ⟨rfl, hb⟩
  have HB := Lib.hid hb
  have hW : Below w6.heap.size w6 w7 := by (repeat' first | exact Below.refl _ _ | assumption | (refine Below.andThen ?_ HB.out) | (exact HB.out.size) | (refine below_drewN ?_ _) | (refine Below.drew ?_) | (refine Below.alloc ?_ ?_ _) | (refine Below.setCell ?_ ?_ _) | (simp; done) | (simp; omega) | omega)
  replace F0 := has6 F0 hW
  replace BB := Lib.hid (Below.andThen BB.out hW)
  replace HT := Lib.hid (HT.out.next hW)
  clear hb hW HB
  go_wp2_with fail
  refine (GC.out _ HT.out.tab).mono ?_
  rintro e w8 ⟨rfl, hb⟩
  have HB := Lib.hid hb
  have hW : Below w7.heap.size w7 w8 := by (repeat' first | exact Below.refl _ _ | assumption | (refine Below.andThen ?_ HB.out) | (exact HB.out.size) | (refine below_drewN ?_ _) | (refine Below.drew ?_) | (refine Below.alloc ?_ ?_ _) | (refine Below.setCell ?_ ?_ _) | (simp; done) | (simp; omega) | omega)
  replace F0 := has6 F0 hW
  replace BB := Lib.hid (Below.andThen BB.out hW)
  replace HT := Lib.hid (HT.out.next hW)
  clear hb hW HB
  rcases GJ.out with rfl | ⟨rfl, hJ⟩
  · go_wp2_with fail
    rw [← hD'.out, ← hT'.out]
    refine (GE.out _ HT.out).mono ?_
    rintro e w9 ⟨rfl, hb⟩
    have HB := Lib.hid hb
    have hW : Below w8.heap.size w8 w9 := by (repeat' first | exact Below.refl _ _ | assumption | (refine Below.andThen ?_ HB.out) | (exact HB.out.size) | (refine below_drewN ?_ _) | (refine Below.drew ?_) | (refine Below.alloc ?_ ?_ _) | (refine Below.setCell ?_ ?_ _) | (simp; done) | (simp; omega) | omega)
    replace BB := Lib.hid (Below.andThen BB.out hW)
    replace HT := Lib.hid (HT.out.next hW)
    clear hb hW HB
    rcases GL.out with ⟨rfl, rfl⟩ | ⟨rfl, hL⟩
    · go_wp2
      go_ret
      exact ⟨rfl, BB.out⟩
    · have HL2 := Lib.hid hL
      clear hL
      go_wp2_with fail
      refine (HL2.out _ HT.out.tab).mono ?_
      rintro e w10 ⟨rfl, hb⟩
      have HB := Lib.hid hb
      have hW : Below w9.heap.size w9 w10 := by (repeat' first | exact Below.refl _ _ | assumption | (refine Below.andThen ?_ HB.out) | (exact HB.out.size) | (refine below_drewN ?_ _) | (refine Below.drew ?_) | (refine Below.alloc ?_ ?_ _) | (refine Below.setCell ?_ ?_ _) | (simp; done) | (simp; omega) | omega)
      replace BB := Lib.hid (Below.andThen BB.out hW)
      replace HT := Lib.hid (HT.out.next hW)
      clear hb hW HB
      go_wp2
      go_ret
      exact ⟨rfl, BB.out⟩
  · have HJ2 := Lib.hid hJ
    clear hJ
    go_wp2_with fail
    refine (HJ2.out _ HT.out.tab).mono ?_
    rintro e w9 ⟨rfl, hb⟩
    have HB := Lib.hid hb
    have hW : Below w8.heap.size w8 w9 := by (repeat' first | exact Below.refl _ _ | assumption | (refine Below.andThen ?_ HB.out) | (exact HB.out.size) | (refine below_drewN ?_ _) | (refine Below.drew ?_) | (refine Below.alloc ?_ ?_ _) | (refine Below.setCell ?_ ?_ _) | (simp; done) | (simp; omega) | omega)
    replace F0 := has6 F0 hW
    replace BB := Lib.hid (Below.andThen BB.out hW)
    replace HT := Lib.hid (HT.out.next hW)
    clear hb hW HB
    go_wp2_with fail
    rw [← hD'.out, ← hT'.out]
    refine (GE.out _ (HT.out.next (by (repeat' first | with_reducible exact Below.refl _ _ | with_reducible assumption | (with_reducible refine below_drewN ?_ _) | (with_reducible refine Below.drew ?_) | (with_reducible refine Below.alloc ?_ ?_ _) | (with_reducible refine Below.setCell ?_ ?_ _) | omega | (simp; done) | (simp; omega))))).mono ?_
    rintro e w10 ⟨rfl, hb⟩
    have HB := Lib.hid hb
    have hW : Below w9.heap.size w9 w10 := by (repeat' first | exact Below.refl _ _ | assumption | (refine Below.andThen ?_ HB.out) | (exact HB.out.size) | (refine below_drewN ?_ _) | (refine Below.drew ?_) | (refine Below.alloc ?_ ?_ _) | (refine Below.setCell ?_ ?_ _) | (simp; done) | (simp; omega) | omega)
    replace BB := Lib.hid (Below.andThen BB.out hW)
    replace HT := Lib.hid (HT.out.next hW)
    clear hb hW HB
    rcases GL.out with ⟨rfl, rfl⟩ | ⟨rfl, hL⟩
    · go_wp2
      go_ret
      exact ⟨rfl, BB.out⟩
    · have HL2 := Lib.hid hL
      clear hL
      go_wp2_with fail
      refine (HL2.out _ HT.out.tab).mono ?_
      rintro e w11 ⟨rfl, hb⟩
      have HB := Lib.hid hb
      have hW : Below w10.heap.size w10 w11 := by (repeat' first | exact Below.refl _ _ | assumption | (refine Below.andThen ?_ HB.out) | (exact HB.out.size) | (refine below_drewN ?_ _) | (refine Below.drew ?_) | (refine Below.alloc ?_ ?_ _) | (refine Below.setCell ?_ ?_ _) | (simp; done) | (simp; omega) | omega)
      replace BB := Lib.hid (Below.andThen BB.out hW)
      replace HT := Lib.hid (HT.out.next hW)
      clear hb hW HB
      go_wp2
      go_ret
      exact ⟨rfl, BB.out⟩

theorem calendarBack_any (x1 x2 c1 c2 c3 c4 c5 c6 : Int) (s t : ByteArray) (w : World) (T : CW w) (b1 : -9223372036854775808 ≤ x1 ∧ x1 ≤ 9223372036854775807) (b2 : -9223372036854775808 ≤ x2 ∧ x2 ≤ 9223372036854775807)
    (_ : -9223372036854775808 ≤ c1 ∧ c1 ≤ 9223372036854775807) (_ : -9223372036854775808 ≤ c2 ∧ c2 ≤ 9223372036854775807) (_ : -9223372036854775808 ≤ c3 ∧ c3 ≤ 9223372036854775807) (_ : -9223372036854775808 ≤ c4 ∧ c4 ≤ 9223372036854775807) (_ : -9223372036854775808 ≤ c5 ∧ c5 ≤ 9223372036854775807) (_ : -9223372036854775808 ≤ c6 ∧ c6 ≤ 9223372036854775807)
    (ss : s.size ≤ maxLen) (st : t.size ≤ maxLen) :
    Calls Tryd.prog 10 #[.int .i64 x1, .int .i64 x2, .agg #[.int .i64 c1, .int .i64 c2, .int .i64 c3, .int .i64 c4, .int .i64 c5, .int .i64 c6], .string s, .string t] w fun r w' => r = .returned (.bool true) ∧ Below w.heap.size w w' := by
  have q1 := pick_bd x1 50000001 (by omega)
  have q2 := pick_bd x2 1681 (by omega)
  have HM := fun w => pickC_any x1 50000001 w (by omega) b1.1 b1.2
  have HO := fun w => pickC_any x2 1681 w (by omega) b2.1 b2.2
  generalize pickZ x1 50000001 = m at *
  obtain ⟨o, ho⟩ : ∃ o, o = pickZ x2 1681 - 840 := ⟨_, rfl⟩
  obtain ⟨_, e1, e2⟩ := parts_ok (m := m) (o := o) (by omega) (by omega)
  obtain ⟨f1, _⟩ := print_ok (m := m) (o := o) (by omega) (by omega)
  have f2 := minute_back (m := m) (o := o) (by omega) (by omega)
  rw [e1] at f2
  have f3 := read_back (m := m) (o := o) (by omega) (by omega)
  have cut : ∀ u : ByteArray, (u.extract 0 (min (u.size : Int) 20).toNat).size < 4294967281 := fun u => by rw [ByteArray.size_extract]; omega
  have z1 : (dateS (civOf (m + o))).size < 4294967281 := by rw [date_size]; omega
  have z2 : (clockS (civOf (m + o))).size < 4294967281 := by rw [clock_size]; omega
  refine back_walk x1 x2 m _ o (civOf (m + o)).y (civOf (m + o)).m (civOf (m + o)).d (civOf (m + o)).h (civOf (m + o)).n (civOf (m + o)).w c1 c2 c3 c4 c5 c6 (minuteR ⟨c1, c2, c3, c4, c5, c6⟩ o).1 (minuteR ⟨c1, c2, c3, c4, c5, c6⟩ o).2
    (readR (s.extract 0 (min (s.size : Int) 20).toNat) (t.extract 0 (min (t.size : Int) 20).toNat) o).1 (readR (s.extract 0 (min (s.size : Int) 20).toNat) (t.extract 0 (min (t.size : Int) 20).toNat) o).2 s t _ _ _ _ w T ho (by omega) q2 rfl rfl ss st HM HO
    (parts_v e1 e2) (minute_v f2) (print_v f1) (fun w T => read_v f3 w T z1 z2) (minute_any ⟨c1, c2, c3, c4, c5, c6⟩ o) ?_ (fun w T => read_any _ _ o w T (cut s) (cut t)) ?_
  · by_cases h : (minuteR ⟨c1, c2, c3, c4, c5, c6⟩ o).2 = 0
    · obtain ⟨g1, g2⟩ := minute_ok h
      exact .inr ⟨h, parts_v g1 g2⟩
    · exact .inl (minute_bad h)
  · by_cases h : (readR (s.extract 0 (min (s.size : Int) 20).toNat) (t.extract 0 (min (t.size : Int) 20).toNat) o).2 = 0
    · exact .inr ⟨h, print_v (read_ok h)⟩
    · have := read_bad h
      rw [this]
      exact .inl ⟨rfl, rfl⟩

namespace calendarThereAndBack
theorem flat2 : leafsOf Tryd.prog 5 57 = some [some (some .i64), some (some .i64), some (some .i64), some (some .i64), some (some .i64), some (some .i64)] := by kernel_rfl
set_option maxRecDepth 100000 in
theorem contract (H : Type) (enc : TypeId × Value → H) (W : World) (base : Nat) (args : Array Value) (ds gs : List (DataW H)) (before : List MemPlace)
    (hval : ∀ (j : Nat) t v, Tryd.f10.params[j]? = some t → args[j]? = some v → Value.okWide Tryd.prog W .any base t v)
    (hW : DataW.Whole enc Tryd.prog Tryd.f10.params.toList Rows.calendarThereAndBackSpec.vars false W args.toList ds gs before) (hL : laidMetH Tryd.prog Rows.calendarThereAndBackRow.laid W) (hsh : W.ShapedOpen Tryd.prog) :
    Calls Tryd.prog 10 args W fun e W' => ∃ v, e = .returned v ∧ Rows.calendarThereAndBackSpec.post enc Tryd.prog Tryd.f10 false true false false W args v W' := by
  have hW' := hW
  obtain ⟨p, q, hA0, hV, rfl, hfz, hnd⟩ := hW
  have hA : DataW.TrodAll enc Tryd.prog W 0 (fun _ => true) true Tryd.f10.params.toList args.toList ds p := hA0
  rw [Tryd.params10] at hA hval
  obtain ⟨v0, vs0, d0, ds0, p0, q0, hargs, rfl, rfl, h0, r0⟩ := trodAll_cons hA
  obtain ⟨v1, vs1, d1, ds1, p1, q1, rfl, rfl, rfl, h1, r1⟩ := trodAll_cons r0
  obtain ⟨v2, vs2, d2, ds2, p2, q2, rfl, rfl, rfl, h2, r2⟩ := trodAll_cons r1
  obtain ⟨v3, vs3, d3, ds3, p3, q3, rfl, rfl, rfl, h3, r3⟩ := trodAll_cons r2
  obtain ⟨v4, vs4, d4, ds4, p4, q4, rfl, rfl, rfl, h4, r4⟩ := trodAll_cons r3
  obtain ⟨rfl, rfl, rfl⟩ := trodAll_nil r4
  obtain rfl : args = #[v0, v1, v2, v3, v4] := by cases args; simp_all
  obtain ⟨a0, rfl, rfl, rfl, k0⟩ := open_int Tryd.underlying3 (hval 0 _ _ rfl rfl) h0
  obtain ⟨a1, rfl, rfl, rfl, k1⟩ := open_int Tryd.underlying3 (hval 1 _ _ rfl rfl) h1
  obtain ⟨cs2, rfl, c2x0, rs2x0, rfl, ⟨a2, rfl, k2⟩, c2x1, rs2x1, rfl, ⟨a3, rfl, k3⟩, c2x2, rs2x2, rfl, ⟨a4, rfl, k4⟩, c2x3, rs2x3, rfl, ⟨a5, rfl, k5⟩, c2x4, rs2x4, rfl, ⟨a6, rfl, k6⟩, c2x5, rs2x5, rfl, ⟨a7, rfl, k7⟩, rfl⟩ := open_agg 5 flat2 (by kernel_rfl) (hval 2 _ _ rfl rfl) h2
  obtain ⟨a8, rfl, rfl, rfl, k8⟩ := Go.ChangeMaps.open_string Tryd.underlying9 (hval 3 _ _ rfl rfl) h3
  obtain ⟨a9, rfl, rfl, rfl, k9⟩ := Go.ChangeMaps.open_string Tryd.underlying9 (hval 4 _ _ rfl rfl) h4
  refine (calendarBack_any a0 a1 a2 a3 a4 a5 a6 a7 a8 a9 W (cw hL hsh) (bd_i64 k0) (bd_i64 k1) (bd_i64 k2) (bd_i64 k3) (bd_i64 k4) (bd_i64 k5) (bd_i64 k6) (bd_i64 k7) k8 k9).mono fun e W' ⟨he, hb⟩ => ?_
  subst he
  obtain ⟨rfl, _⟩ := trodVars_none hV
  exact ⟨_, rfl, law_post laidOut (by kernel_rfl) rfl (by kernel_rfl) Tryd.underlying4 hW' rfl hb⟩

def args0 : Array Value := #[.int .i64 0, .int .i64 0, .agg #[.int .i64 0, .int .i64 0, .int .i64 0, .int .i64 0, .int .i64 0, .int .i64 0], .string ⟨#[]⟩, .string ⟨#[]⟩]
theorem laid_met (os : Os) : laidMet Tryd.prog Rows.calendarThereAndBackRow.laid ((laidWorld os).forCall (fun _ _ => 0) ⟨#[], args0, []⟩).memory :=
  laidMet_of_run' 8 (by kernel_rfl) (by kernel_rfl)
theorem reads (os : Os) {H : Type} (enc : TypeId × Value → H) : ∃ places, DataW.whole enc Tryd.prog ((laidWorld os).forCall (fun _ _ => 0) ⟨#[], args0, []⟩).memory Tryd.f10.params.toList Rows.calendarThereAndBackSpec.vars false args0.toList 8 = some ([.lit (.int .i64 0), .lit (.int .i64 0), .agg [.lit (.int .i64 0), .lit (.int .i64 0), .lit (.int .i64 0), .lit (.int .i64 0), .lit (.int .i64 0), .lit (.int .i64 0)], .lit (.string []), .lit (.string [])], [], places) :=
  ⟨[], by kernel_rfl⟩

set_option maxRecDepth 100000 in
theorem lifted (os : Os) (started : os.Started) (H : Type) (enc : TypeId × Value → H) (F : Stop.Interp) :
    ReturnsInHanded {} Tryd.checked os 10 .any ((OpenSpec.ofChange Rows.calendarThereAndBackSpec).preRow enc Tryd.prog Tryd.f10 Rows.calendarThereAndBackRow.domain false Rows.calendarThereAndBackRow.laid) (((OpenSpec.ofChange Rows.calendarThereAndBackSpec).at F).post enc Tryd.prog Tryd.f10 false true false false) := by
  obtain ⟨places, hx⟩ := reads os enc
  refine returnsInHanded_of_row (C := Tryd.checked) (s := OpenSpec.ofChange Rows.calendarThereAndBackSpec) own started (by kernel_rfl) Tryd.func10
    (witness_row_at (enc := enc) (C := Tryd.checked) false (laidWorld os) args0 rfl (by kernel_rfl) (by kernel_rfl) (by kernel_rfl)
      (OpenSpec.preRow_of_cond 8 hx (by kernel_rfl) (fun k hk => by cases hk) (by kernel_rfl) (laid_met os))) ?_
  intro W base args ds gs before hval hW _ _ _ hL hsh _
  exact contract H enc W base args ds gs before hval hW hL hsh

theorem said : Rows.CalendarThereAndBackSaid :=
  OpenClaim.holds_of_cond 10 Tryd.f10 rfl rfl rfl rfl rfl rfl rfl ⟨rfl, rfl, rfl, rfl, rfl⟩ rfl rfl rfl rfl rfl (by kernel_rfl) Tryd.func10 (by kernel_rfl)
    (of_decide_eq_true (by kernel_rfl)) (by unfold Func.isWrapper; first | (rw [if_pos (by decide +kernel)]; kernel_rfl) | (rw [if_neg (by decide +kernel)]; exact ⟨rfl, rfl⟩))
    (fun os started H enc _ F => by rw [OpenClaim.pre_eq_preRow]; exact lifted os started H enc F)

theorem plain (f : FuncId) (fn : Func) (hf : Tryd.pinned.checked.prog.funcNamed "newswire/newswirelaw06.CalendarThereAndBack" = some f) (hfn : Tryd.pinned.checked.prog.funcs[f]? = some fn) :
    false = Tryd.pinned.checked.prog.looks [] ∧ ∀ (j : Nat) t, fn.params[j]? = some t → Tryd.pinned.checked.prog.wantsStandIn t = false := by
  obtain rfl : f = 10 := Option.some.inj ((show Tryd.prog.funcNamed "newswire/newswirelaw06.CalendarThereAndBack" = some 10 by kernel_rfl).symm.trans hf) |>.symm
  obtain rfl : fn = Tryd.f10 := (Option.some.inj (Tryd.func10.symm.trans hfn)).symm
  refine ⟨by kernel_rfl, fun j t ht => ?_⟩
  have all : (Tryd.f10.params.toList.all fun t => Tryd.prog.wantsStandIn t == false) = true := by kernel_rfl
  have := List.all_eq_true.1 all t (by rw [← Array.mem_def]; exact Array.mem_of_getElem? ht)
  exact (show Tryd.prog.wantsStandIn t = false by simpa using this)

/-- The statement. -/
theorem card : Rows.CalendarThereAndBackCardSaid :=
  Claim7.holds_tied_plain_at .later [] _ _ _ _ said (fun _ h => by cases h) (by kernel_rfl) (fun _ h => by cases h) calendarThereAndBack_row_tie rfl ⟨rfl, rfl⟩ (by kernel_rfl) rfl plain (by kernel_rfl)
end calendarThereAndBack
end Go.Proofs.YtdldokhiefeloaaDoor
