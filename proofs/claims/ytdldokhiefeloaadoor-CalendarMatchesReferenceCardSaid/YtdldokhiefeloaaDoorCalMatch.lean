/- For every input, CalendarMatchesReference returns true and leaves its arguments as they were; the tables hold what the program's text lays. -/
import Derived.Test.YtdldokhiefeloaaDoorCalRI
import Derived.Test.YtdldokhiefeloaaDoorCalRD
import Derived.Lib.MinMax
namespace Go.Proofs.YtdldokhiefeloaaDoor
open Go.RowKit Go.ChangeShapes Go.WideShapes Go.ChangeAt

theorem rowNext {w w' : World} {b : Nat} {t : TypeId} {C : List Value} (h : Row w b t C) (hb : Below w.heap.size w w') : Row w' b t C := h.next hb

set_option maxRecDepth 100000 in
set_option maxHeartbeats 16000000 in
theorem match_walk (mi off c1 c2 c3 c4 c5 c6 yr mo m1 o0 o1 : Int) (s t D T0 : ByteArray) (w : World) (TT : CW w)
    (ho : o1 = o0 - 840) (bm : 0 ≤ m1 ∧ m1 ≤ 50000000) (bo : 0 ≤ o0 ∧ o0 < 1681) (hD : D = s.extract 0 (min (s.size : Int) 20).toNat) (hT : T0 = t.extract 0 (min (t.size : Int) 20).toNat) (ss : s.size ≤ maxLen) (st : t.size ≤ maxLen) (sD : D.size ≤ 20) (sT : T0.size ≤ 20)
    (HM : ∀ w, Calls Tryd.prog 42 #[.int .i64 mi, .int .i64 50000001] w fun e w' => e = .returned (.int .i64 m1) ∧ w = w')
    (HO : ∀ w, Calls Tryd.prog 42 #[.int .i64 off, .int .i64 1681] w fun e w' => e = .returned (.int .i64 o0) ∧ w = w')
    (y1 mo1 D1 D2 : Int) (by1 : 0 ≤ y1 ∧ y1 < 9999)
    (HY : ∀ w, Calls Tryd.prog 42 #[.int .i64 yr, .int .i64 9999] w fun e w' => e = .returned (.int .i64 y1) ∧ w = w')
    (HZ : ∀ w, Calls Tryd.prog 42 #[.int .i64 mo, .int .i64 14] w fun e w' => e = .returned (.int .i64 mo1) ∧ w = w')
    (HD1 : ∀ w, CTab w → Calls Tryd.prog 51 #[.int .i64 yr, .int .i64 mo] w fun e w' => e = .returned (.int .i64 D1) ∧ w = w')
    (HD2 : ∀ w, CTab w → Calls Tryd.prog 51 #[.int .i64 (y1 + 1), .int .i64 mo1] w fun e w' => e = .returned (.int .i64 D2) ∧ w = w')
    (HR1 : ∀ w, Calls Tryd.prog 52 #[.int .i64 yr, .int .i64 mo] w fun e w' => e = .returned (.int .i64 D1) ∧ Below w.heap.size w w')
    (HR2 : ∀ w, Calls Tryd.prog 52 #[.int .i64 (y1 + 1), .int .i64 mo1] w fun e w' => e = .returned (.int .i64 D2) ∧ Below w.heap.size w w') :
    Calls Tryd.prog 9 #[.int .i64 mi, .int .i64 off, civV c1 c2 c3 c4 c5 c6, .string s, .string t, .int .i64 yr, .int .i64 mo] w fun r w' => r = .returned (.bool true) ∧ Below w.heap.size w w' := by
  have HTW := Lib.hid TT
  have GM := Lib.hid HM
  have GO := Lib.hid HO
  have GY := Lib.hid HY
  have GZ := Lib.hid HZ
  have GD1 := Lib.hid HD1
  have GD2 := Lib.hid HD2
  have GR1 := Lib.hid HR1
  have GR2 := Lib.hid HR2
  obtain ⟨bm1, bm2⟩ := bm
  obtain ⟨bo1, bo2⟩ := bo
  obtain ⟨by10, by11⟩ := by1
  have n1 : -840 ≤ o1 := by omega
  have n2 : o1 ≤ 840 := by omega
  have ho' := Lib.hid ho
  have hD' := Lib.hid hD
  have hT' := Lib.hid hT
  unfold maxLen at ss st
  clear HM HO HY HZ HD1 HD2 HR1 HR2 ho hD hT
  have HT := Lib.hid (HTW.out.next (show Below w.heap.size w (w.alloc (.cells #[.int .i64 c1, .int .i64 c2, .int .i64 c3, .int .i64 c4, .int .i64 c5, .int .i64 c6] 57)) by (repeat' first | with_reducible exact Below.refl _ _ | with_reducible assumption | (with_reducible refine below_drewN ?_ _) | (with_reducible refine Below.drew ?_) | (with_reducible refine Below.alloc ?_ ?_ _) | (with_reducible refine Below.setCell ?_ ?_ _) | omega | (simp; done) | (simp; omega))))
  have BB := Lib.hid (show Below w.heap.size w (w.alloc (.cells #[.int .i64 c1, .int .i64 c2, .int .i64 c3, .int .i64 c4, .int .i64 c5, .int .i64 c6] 57)) by (repeat' first | with_reducible exact Below.refl _ _ | with_reducible assumption | (with_reducible refine below_drewN ?_ _) | (with_reducible refine Below.drew ?_) | (with_reducible refine Below.alloc ?_ ?_ _) | (with_reducible refine Below.setCell ?_ ?_ _) | omega | (simp; done) | (simp; omega)))
  have R0 := Row.new w 57 [.int .i64 c1, .int .i64 c2, .int .i64 c3, .int .i64 c4, .int .i64 c5, .int .i64 c6]
  have A0 := Lib.hid R0
  clear TT R0
  go_enter Tryd.func9, Tryd.ntmps9
  go_wp2_with fail
  refine (saneC_any _ HT.out).mono ?_
  rintro e w1 ⟨rfl, hb⟩
  replace BB := Lib.hid (Below.andThen BB.out hb)
  replace HT := Lib.hid (HT.out.next hb)
  replace A0 := Lib.hid (A0.out.next hb)
  clear hb
  go_wp2_with (first | (with_reducible refine Calls.mono (GM.out _) ?_; rintro e w' ⟨rfl, rfl⟩) | (with_reducible refine Calls.mono (GO.out _) ?_; rintro e w' ⟨rfl, rfl⟩))
  rw [← hD'.out, ← hT'.out, ← ho'.out]
  have RS0 := Row.new w1 27 [.int .i64 mi, .int .i64 off, .int .i64 m1, .int .i64 o1]
  have RS := Lib.hid RS0
  have B1 : Below w1.heap.size w1 (w1.alloc (.cells #[.int .i64 mi, .int .i64 off, .int .i64 m1, .int .i64 o1] 27)) := by (repeat' first | with_reducible exact Below.refl _ _ | with_reducible assumption | (with_reducible refine below_drewN ?_ _) | (with_reducible refine Below.drew ?_) | (with_reducible refine Below.alloc ?_ ?_ _) | (with_reducible refine Below.setCell ?_ ?_ _) | omega | (simp; done) | (simp; omega))
  replace A0 := Lib.hid (A0.out.next B1)
  replace BB := Lib.hid (Below.andThen BB.out B1)
  clear RS0 B1 HT hD' hT' ho' GM GO bo1 bo2
  obtain ⟨bs, hbs⟩ : ∃ bs, bs = w1.heap.size := ⟨_, rfl⟩
  rw [← hbs] at RS ⊢
  clear hbs
  have RS' := RS.out
  generalize w1.alloc (.cells #[.int .i64 mi, .int .i64 off, .int .i64 m1, .int .i64 o1] 27) = w2 at *
  clear RS'
  go_loopw [60] (fun i wr => ∃ k : Nat, k ≤ 2 ∧ i = .int .i64 k ∧ Row wr bs 27 [.int .i64 mi, .int .i64 off, .int .i64 m1, .int .i64 o1] ∧ Row wr w.heap.size 57 [.int .i64 c1, .int .i64 c2, .int .i64 c3, .int .i64 c4, .int .i64 c5, .int .i64 c6] ∧ Below w.heap.size w wr) (fun i _ => 2 - (intOf i).toNat)
  case atStart => exact ⟨0, by omega, rfl, RS.out, A0.out, BB.out⟩
  case round =>
    obtain ⟨k, hk, rfl, RS', A0', BB'⟩ := hrel
    clear RS A0 BB
    have RS := Lib.hid RS'
    have A0 := Lib.hid A0'
    have BB := Lib.hid BB'
    have HT := Lib.hid (HTW.out.next BB')
    clear RS' A0' BB'
    rcases (show k = 0 ∨ k = 1 ∨ k = 2 by omega) with rfl | rfl | rfl
    · have C1 := (fun w T => parts_any mi off w T)
      have C2 := (fun w => refParts_any mi off w)
      have C3 := (fun w T => print_any mi off w T)
      have C4 := (fun w => refPrint_any mi off w)
      have C5 := (fun w T => minute_any ⟨c1, c2, c3, c4, c5, c6⟩ off w T)
      have C6 := (fun w => refMinute_any ⟨c1, c2, c3, c4, c5, c6⟩ off w)
      have C7 := (fun w T => read_any D T0 off w T (by omega) (by omega))
      have C8 := (fun w => refRead_any D T0 off w)
      generalize partsR mi off = A at *
      generalize partsE mi off = E at *
      generalize printR mi off = P at *
      generalize minuteR ⟨c1, c2, c3, c4, c5, c6⟩ off = M at *
      generalize readR D T0 off = R at *
      obtain ⟨a1, a2, a3, a4, a5, a6⟩ := A
      obtain ⟨p1, p2, p3⟩ := P
      obtain ⟨x1, x2⟩ := M
      obtain ⟨y3, y4⟩ := R
      dsimp only at C1 C2 C3 C4 C5 C6 C7 C8
      replace C1 := Lib.hid C1
      replace C2 := Lib.hid C2
      replace C3 := Lib.hid C3
      replace C4 := Lib.hid C4
      replace C5 := Lib.hid C5
      replace C6 := Lib.hid C6
      replace C7 := Lib.hid C7
      replace C8 := Lib.hid C8
      have r0 := RS.out.cell 0
      have r1 := RS.out.cell 1
      simp only [List.getElem?_cons_zero, List.getElem?_cons_succ] at r0 r1
      have ls := RS.out.lt
      go_wp2_with fail
      clear r0 r1 ls
      refine (C1.out _ (HT.out.next (by (repeat' first | with_reducible exact Below.refl _ _ | with_reducible assumption | (with_reducible refine below_drewN ?_ _) | (with_reducible refine Below.drew ?_) | (with_reducible refine Below.alloc ?_ ?_ _) | (with_reducible refine Below.setCell ?_ ?_ _) | omega | (simp; done) | (simp; omega)))).tab).mono ?_
      rintro e v1 ⟨rfl, hb⟩
      have HB := Lib.hid hb
      have hW : Below wr.heap.size wr v1 := by (repeat' first | exact Below.refl _ _ | assumption | (refine Below.andThen ?_ HB.out) | (exact HB.out.size) | (refine below_drewN ?_ _) | (refine Below.drew ?_) | (refine Below.alloc ?_ ?_ _) | (refine Below.setCell ?_ ?_ _) | (simp; done) | (simp; omega) | omega)
      replace RS := Lib.hid (RS.out.next hW)
      replace A0 := Lib.hid (A0.out.next hW)
      have F1 : Has2 v1 (wr.heap.size) (.int .i64 mi) (.int .i64 off) := has2 ⟨(by first | (simp; done) | (simp; omega)), by go_simp, by go_simp⟩ hb
      replace BB := Lib.hid (Below.andThen BB.out hW)
      replace HT := Lib.hid (HT.out.next hW)
      clear hb hW HB
      go_wp2_with fail
      refine (C2.out _).mono ?_
      rintro e v2 ⟨rfl, hb⟩
      have HB := Lib.hid hb
      have hW : Below v1.heap.size v1 v2 := by (repeat' first | exact Below.refl _ _ | assumption | (refine Below.andThen ?_ HB.out) | (exact HB.out.size) | (refine below_drewN ?_ _) | (refine Below.drew ?_) | (refine Below.alloc ?_ ?_ _) | (refine Below.setCell ?_ ?_ _) | (simp; done) | (simp; omega) | omega)
      replace RS := Lib.hid (RS.out.next hW)
      replace A0 := Lib.hid (A0.out.next hW)
      replace F1 := has2 F1 hW
      have F2 : Has6 v2 (v1.heap.size) (.int .i64 a1) (.int .i64 a2) (.int .i64 a3) (.int .i64 a4) (.int .i64 a5) (.int .i64 a6) := has6 ⟨(by first | (simp; done) | (simp; omega)), by go_simp, by go_simp, by go_simp, by go_simp, by go_simp, by go_simp⟩ hb
      replace BB := Lib.hid (Below.andThen BB.out hW)
      replace HT := Lib.hid (HT.out.next hW)
      clear hb hW HB
      go_wp2_with fail
      refine (C3.out _ (HT.out.next (by (repeat' first | with_reducible exact Below.refl _ _ | with_reducible assumption | (with_reducible refine below_drewN ?_ _) | (with_reducible refine Below.drew ?_) | (with_reducible refine Below.alloc ?_ ?_ _) | (with_reducible refine Below.setCell ?_ ?_ _) | omega | (simp; done) | (simp; omega)))).tab).mono ?_
      rintro e v3 ⟨rfl, hb⟩
      have HB := Lib.hid hb
      have hW : Below v2.heap.size v2 v3 := by (repeat' first | exact Below.refl _ _ | assumption | (refine Below.andThen ?_ HB.out) | (exact HB.out.size) | (refine below_drewN ?_ _) | (refine Below.drew ?_) | (refine Below.alloc ?_ ?_ _) | (refine Below.setCell ?_ ?_ _) | (simp; done) | (simp; omega) | omega)
      replace RS := Lib.hid (RS.out.next hW)
      replace A0 := Lib.hid (A0.out.next hW)
      replace F1 := has2 F1 hW
      replace F2 := has6 F2 hW
      have F3 : Has6 v3 (v2.heap.size) (.int .i64 a1) (.int .i64 a2) (.int .i64 a3) (.int .i64 a4) (.int .i64 a5) (.int .i64 a6) := has6 ⟨(by first | (simp; done) | (simp; omega)), by go_simp, by go_simp, by go_simp, by go_simp, by go_simp, by go_simp⟩ hb
      replace BB := Lib.hid (Below.andThen BB.out hW)
      replace HT := Lib.hid (HT.out.next hW)
      clear hb hW HB
      go_wp2_with fail
      refine (C4.out _).mono ?_
      rintro e v4 ⟨rfl, hb⟩
      have HB := Lib.hid hb
      have hW : Below v3.heap.size v3 v4 := by (repeat' first | exact Below.refl _ _ | assumption | (refine Below.andThen ?_ HB.out) | (exact HB.out.size) | (refine below_drewN ?_ _) | (refine Below.drew ?_) | (refine Below.alloc ?_ ?_ _) | (refine Below.setCell ?_ ?_ _) | (simp; done) | (simp; omega) | omega)
      replace RS := Lib.hid (RS.out.next hW)
      replace A0 := Lib.hid (A0.out.next hW)
      replace F1 := has2 F1 hW
      replace F2 := has6 F2 hW
      replace F3 := has6 F3 hW
      replace BB := Lib.hid (Below.andThen BB.out hW)
      replace HT := Lib.hid (HT.out.next hW)
      clear hb hW HB
      have b0 := A0.out.cell 0
      have b1 := A0.out.cell 1
      have b2 := A0.out.cell 2
      have b3 := A0.out.cell 3
      have b4 := A0.out.cell 4
      have b5 := A0.out.cell 5
      simp only [List.getElem?_cons_zero, List.getElem?_cons_succ] at b0 b1 b2 b3 b4 b5
      go_wp2_with fail
      clear b0 b1 b2 b3 b4 b5
      refine (C5.out _ HT.out.tab).mono ?_
      rintro e v5 ⟨rfl, hb⟩
      have HB := Lib.hid hb
      have hW : Below v4.heap.size v4 v5 := by (repeat' first | exact Below.refl _ _ | assumption | (refine Below.andThen ?_ HB.out) | (exact HB.out.size) | (refine below_drewN ?_ _) | (refine Below.drew ?_) | (refine Below.alloc ?_ ?_ _) | (refine Below.setCell ?_ ?_ _) | (simp; done) | (simp; omega) | omega)
      replace RS := Lib.hid (RS.out.next hW)
      replace A0 := Lib.hid (A0.out.next hW)
      replace F1 := has2 F1 hW
      replace F2 := has6 F2 hW
      replace F3 := has6 F3 hW
      replace BB := Lib.hid (Below.andThen BB.out hW)
      replace HT := Lib.hid (HT.out.next hW)
      clear hb hW HB
      have b0 := A0.out.cell 0
      have b1 := A0.out.cell 1
      have b2 := A0.out.cell 2
      have b3 := A0.out.cell 3
      have b4 := A0.out.cell 4
      have b5 := A0.out.cell 5
      simp only [List.getElem?_cons_zero, List.getElem?_cons_succ] at b0 b1 b2 b3 b4 b5
      go_wp2_with fail
      clear b0 b1 b2 b3 b4 b5
      refine (C6.out _).mono ?_
      rintro e v6 ⟨rfl, hb⟩
      have HB := Lib.hid hb
      have hW : Below v5.heap.size v5 v6 := by (repeat' first | exact Below.refl _ _ | assumption | (refine Below.andThen ?_ HB.out) | (exact HB.out.size) | (refine below_drewN ?_ _) | (refine Below.drew ?_) | (refine Below.alloc ?_ ?_ _) | (refine Below.setCell ?_ ?_ _) | (simp; done) | (simp; omega) | omega)
      replace RS := Lib.hid (RS.out.next hW)
      replace A0 := Lib.hid (A0.out.next hW)
      replace F1 := has2 F1 hW
      replace F2 := has6 F2 hW
      replace F3 := has6 F3 hW
      replace BB := Lib.hid (Below.andThen BB.out hW)
      replace HT := Lib.hid (HT.out.next hW)
      clear hb hW HB
      go_wp2_with fail
      refine (C7.out _ HT.out).mono ?_
      rintro e v7 ⟨rfl, hb⟩
      have HB := Lib.hid hb
      have hW : Below v6.heap.size v6 v7 := by (repeat' first | exact Below.refl _ _ | assumption | (refine Below.andThen ?_ HB.out) | (exact HB.out.size) | (refine below_drewN ?_ _) | (refine Below.drew ?_) | (refine Below.alloc ?_ ?_ _) | (refine Below.setCell ?_ ?_ _) | (simp; done) | (simp; omega) | omega)
      replace RS := Lib.hid (RS.out.next hW)
      replace A0 := Lib.hid (A0.out.next hW)
      replace F1 := has2 F1 hW
      replace F2 := has6 F2 hW
      replace F3 := has6 F3 hW
      replace BB := Lib.hid (Below.andThen BB.out hW)
      replace HT := Lib.hid (HT.out.next hW)
      clear hb hW HB
      go_wp2_with fail
      refine (C8.out _).mono ?_
      rintro e v8 ⟨rfl, hb⟩
      have HB := Lib.hid hb
      have hW : Below v7.heap.size v7 v8 := by (repeat' first | exact Below.refl _ _ | assumption | (refine Below.andThen ?_ HB.out) | (exact HB.out.size) | (refine below_drewN ?_ _) | (refine Below.drew ?_) | (refine Below.alloc ?_ ?_ _) | (refine Below.setCell ?_ ?_ _) | (simp; done) | (simp; omega) | omega)
      replace RS := Lib.hid (RS.out.next hW)
      replace A0 := Lib.hid (A0.out.next hW)
      replace F1 := has2 F1 hW
      replace F2 := has6 F2 hW
      replace F3 := has6 F3 hW
      replace BB := Lib.hid (Below.andThen BB.out hW)
      replace HT := Lib.hid (HT.out.next hW)
      clear hb hW HB
      go_wp2_with fail
      go_roundw
      case rel => exact ⟨1, by omega, by go_num, RS.out, A0.out, BB.out⟩
      case measure => simp [intOf]
    · have C1 := (fun w T => parts_any m1 o1 w T)
      have C2 := (fun w => refParts_any m1 o1 w)
      have C3 := (fun w T => print_any m1 o1 w T)
      have C4 := (fun w => refPrint_any m1 o1 w)
      have C5 := (fun w T => minute_any ⟨c1, c2, c3, c4, c5, c6⟩ o1 w T)
      have C6 := (fun w => refMinute_any ⟨c1, c2, c3, c4, c5, c6⟩ o1 w)
      have C7 := (fun w T => read_any D T0 o1 w T (by omega) (by omega))
      have C8 := (fun w => refRead_any D T0 o1 w)
      generalize partsR m1 o1 = A at *
      generalize partsE m1 o1 = E at *
      generalize printR m1 o1 = P at *
      generalize minuteR ⟨c1, c2, c3, c4, c5, c6⟩ o1 = M at *
      generalize readR D T0 o1 = R at *
      obtain ⟨a1, a2, a3, a4, a5, a6⟩ := A
      obtain ⟨p1, p2, p3⟩ := P
      obtain ⟨x1, x2⟩ := M
      obtain ⟨y3, y4⟩ := R
      dsimp only at C1 C2 C3 C4 C5 C6 C7 C8
      replace C1 := Lib.hid C1
      replace C2 := Lib.hid C2
      replace C3 := Lib.hid C3
      replace C4 := Lib.hid C4
      replace C5 := Lib.hid C5
      replace C6 := Lib.hid C6
      replace C7 := Lib.hid C7
      replace C8 := Lib.hid C8
      have r0 := RS.out.cell 2
      have r1 := RS.out.cell 3
      simp only [List.getElem?_cons_zero, List.getElem?_cons_succ] at r0 r1
      have ls := RS.out.lt
      go_wp2_with fail
      clear r0 r1 ls
      refine (C1.out _ (HT.out.next (by (repeat' first | with_reducible exact Below.refl _ _ | with_reducible assumption | (with_reducible refine below_drewN ?_ _) | (with_reducible refine Below.drew ?_) | (with_reducible refine Below.alloc ?_ ?_ _) | (with_reducible refine Below.setCell ?_ ?_ _) | omega | (simp; done) | (simp; omega)))).tab).mono ?_
      rintro e v1 ⟨rfl, hb⟩
      have HB := Lib.hid hb
      have hW : Below wr.heap.size wr v1 := by (repeat' first | exact Below.refl _ _ | assumption | (refine Below.andThen ?_ HB.out) | (exact HB.out.size) | (refine below_drewN ?_ _) | (refine Below.drew ?_) | (refine Below.alloc ?_ ?_ _) | (refine Below.setCell ?_ ?_ _) | (simp; done) | (simp; omega) | omega)
      replace RS := Lib.hid (RS.out.next hW)
      replace A0 := Lib.hid (A0.out.next hW)
      have F1 : Has2 v1 (wr.heap.size) (.int .i64 m1) (.int .i64 o1) := has2 ⟨(by first | (simp; done) | (simp; omega)), by go_simp, by go_simp⟩ hb
      replace BB := Lib.hid (Below.andThen BB.out hW)
      replace HT := Lib.hid (HT.out.next hW)
      clear hb hW HB
      go_wp2_with fail
      refine (C2.out _).mono ?_
      rintro e v2 ⟨rfl, hb⟩
      have HB := Lib.hid hb
      have hW : Below v1.heap.size v1 v2 := by (repeat' first | exact Below.refl _ _ | assumption | (refine Below.andThen ?_ HB.out) | (exact HB.out.size) | (refine below_drewN ?_ _) | (refine Below.drew ?_) | (refine Below.alloc ?_ ?_ _) | (refine Below.setCell ?_ ?_ _) | (simp; done) | (simp; omega) | omega)
      replace RS := Lib.hid (RS.out.next hW)
      replace A0 := Lib.hid (A0.out.next hW)
      replace F1 := has2 F1 hW
      have F2 : Has6 v2 (v1.heap.size) (.int .i64 a1) (.int .i64 a2) (.int .i64 a3) (.int .i64 a4) (.int .i64 a5) (.int .i64 a6) := has6 ⟨(by first | (simp; done) | (simp; omega)), by go_simp, by go_simp, by go_simp, by go_simp, by go_simp, by go_simp⟩ hb
      replace BB := Lib.hid (Below.andThen BB.out hW)
      replace HT := Lib.hid (HT.out.next hW)
      clear hb hW HB
      go_wp2_with fail
      refine (C3.out _ (HT.out.next (by (repeat' first | with_reducible exact Below.refl _ _ | with_reducible assumption | (with_reducible refine below_drewN ?_ _) | (with_reducible refine Below.drew ?_) | (with_reducible refine Below.alloc ?_ ?_ _) | (with_reducible refine Below.setCell ?_ ?_ _) | omega | (simp; done) | (simp; omega)))).tab).mono ?_
      rintro e v3 ⟨rfl, hb⟩
      have HB := Lib.hid hb
      have hW : Below v2.heap.size v2 v3 := by (repeat' first | exact Below.refl _ _ | assumption | (refine Below.andThen ?_ HB.out) | (exact HB.out.size) | (refine below_drewN ?_ _) | (refine Below.drew ?_) | (refine Below.alloc ?_ ?_ _) | (refine Below.setCell ?_ ?_ _) | (simp; done) | (simp; omega) | omega)
      replace RS := Lib.hid (RS.out.next hW)
      replace A0 := Lib.hid (A0.out.next hW)
      replace F1 := has2 F1 hW
      replace F2 := has6 F2 hW
      have F3 : Has6 v3 (v2.heap.size) (.int .i64 a1) (.int .i64 a2) (.int .i64 a3) (.int .i64 a4) (.int .i64 a5) (.int .i64 a6) := has6 ⟨(by first | (simp; done) | (simp; omega)), by go_simp, by go_simp, by go_simp, by go_simp, by go_simp, by go_simp⟩ hb
      replace BB := Lib.hid (Below.andThen BB.out hW)
      replace HT := Lib.hid (HT.out.next hW)
      clear hb hW HB
      go_wp2_with fail
      refine (C4.out _).mono ?_
      rintro e v4 ⟨rfl, hb⟩
      have HB := Lib.hid hb
      have hW : Below v3.heap.size v3 v4 := by (repeat' first | exact Below.refl _ _ | assumption | (refine Below.andThen ?_ HB.out) | (exact HB.out.size) | (refine below_drewN ?_ _) | (refine Below.drew ?_) | (refine Below.alloc ?_ ?_ _) | (refine Below.setCell ?_ ?_ _) | (simp; done) | (simp; omega) | omega)
      replace RS := Lib.hid (RS.out.next hW)
      replace A0 := Lib.hid (A0.out.next hW)
      replace F1 := has2 F1 hW
      replace F2 := has6 F2 hW
      replace F3 := has6 F3 hW
      replace BB := Lib.hid (Below.andThen BB.out hW)
      replace HT := Lib.hid (HT.out.next hW)
      clear hb hW HB
      have b0 := A0.out.cell 0
      have b1 := A0.out.cell 1
      have b2 := A0.out.cell 2
      have b3 := A0.out.cell 3
      have b4 := A0.out.cell 4
      have b5 := A0.out.cell 5
      simp only [List.getElem?_cons_zero, List.getElem?_cons_succ] at b0 b1 b2 b3 b4 b5
      go_wp2_with fail
      clear b0 b1 b2 b3 b4 b5
      refine (C5.out _ HT.out.tab).mono ?_
      rintro e v5 ⟨rfl, hb⟩
      have HB := Lib.hid hb
      have hW : Below v4.heap.size v4 v5 := by (repeat' first | exact Below.refl _ _ | assumption | (refine Below.andThen ?_ HB.out) | (exact HB.out.size) | (refine below_drewN ?_ _) | (refine Below.drew ?_) | (refine Below.alloc ?_ ?_ _) | (refine Below.setCell ?_ ?_ _) | (simp; done) | (simp; omega) | omega)
      replace RS := Lib.hid (RS.out.next hW)
      replace A0 := Lib.hid (A0.out.next hW)
      replace F1 := has2 F1 hW
      replace F2 := has6 F2 hW
      replace F3 := has6 F3 hW
      replace BB := Lib.hid (Below.andThen BB.out hW)
      replace HT := Lib.hid (HT.out.next hW)
      clear hb hW HB
      have b0 := A0.out.cell 0
      have b1 := A0.out.cell 1
      have b2 := A0.out.cell 2
      have b3 := A0.out.cell 3
      have b4 := A0.out.cell 4
      have b5 := A0.out.cell 5
      simp only [List.getElem?_cons_zero, List.getElem?_cons_succ] at b0 b1 b2 b3 b4 b5
      go_wp2_with fail
      clear b0 b1 b2 b3 b4 b5
      refine (C6.out _).mono ?_
      rintro e v6 ⟨rfl, hb⟩
      have HB := Lib.hid hb
      have hW : Below v5.heap.size v5 v6 := by (repeat' first | exact Below.refl _ _ | assumption | (refine Below.andThen ?_ HB.out) | (exact HB.out.size) | (refine below_drewN ?_ _) | (refine Below.drew ?_) | (refine Below.alloc ?_ ?_ _) | (refine Below.setCell ?_ ?_ _) | (simp; done) | (simp; omega) | omega)
      replace RS := Lib.hid (RS.out.next hW)
      replace A0 := Lib.hid (A0.out.next hW)
      replace F1 := has2 F1 hW
      replace F2 := has6 F2 hW
      replace F3 := has6 F3 hW
      replace BB := Lib.hid (Below.andThen BB.out hW)
      replace HT := Lib.hid (HT.out.next hW)
      clear hb hW HB
      go_wp2_with fail
      refine (C7.out _ HT.out).mono ?_
      rintro e v7 ⟨rfl, hb⟩
      have HB := Lib.hid hb
      have hW : Below v6.heap.size v6 v7 := by (repeat' first | exact Below.refl _ _ | assumption | (refine Below.andThen ?_ HB.out) | (exact HB.out.size) | (refine below_drewN ?_ _) | (refine Below.drew ?_) | (refine Below.alloc ?_ ?_ _) | (refine Below.setCell ?_ ?_ _) | (simp; done) | (simp; omega) | omega)
      replace RS := Lib.hid (RS.out.next hW)
      replace A0 := Lib.hid (A0.out.next hW)
      replace F1 := has2 F1 hW
      replace F2 := has6 F2 hW
      replace F3 := has6 F3 hW
      replace BB := Lib.hid (Below.andThen BB.out hW)
      replace HT := Lib.hid (HT.out.next hW)
      clear hb hW HB
      go_wp2_with fail
      refine (C8.out _).mono ?_
      rintro e v8 ⟨rfl, hb⟩
      have HB := Lib.hid hb
      have hW : Below v7.heap.size v7 v8 := by (repeat' first | exact Below.refl _ _ | assumption | (refine Below.andThen ?_ HB.out) | (exact HB.out.size) | (refine below_drewN ?_ _) | (refine Below.drew ?_) | (refine Below.alloc ?_ ?_ _) | (refine Below.setCell ?_ ?_ _) | (simp; done) | (simp; omega) | omega)
      replace RS := Lib.hid (RS.out.next hW)
      replace A0 := Lib.hid (A0.out.next hW)
      replace F1 := has2 F1 hW
      replace F2 := has6 F2 hW
      replace F3 := has6 F3 hW
      replace BB := Lib.hid (Below.andThen BB.out hW)
      replace HT := Lib.hid (HT.out.next hW)
      clear hb hW HB
      go_wp2_with fail
      go_roundw
      case rel => exact ⟨2, by omega, by go_num, RS.out, A0.out, BB.out⟩
      case measure => simp [intOf]
    · go_wp2_with fail
      refine (sameB (GD1.out _ HT.out.tab)).mono ?_
      rintro e v1 ⟨rfl, hb⟩
      have HB := Lib.hid hb
      have hW : Below wr.heap.size wr v1 := by (repeat' first | exact Below.refl _ _ | assumption | (refine Below.andThen ?_ HB.out) | (exact HB.out.size) | (refine below_drewN ?_ _) | (refine Below.drew ?_) | (refine Below.alloc ?_ ?_ _) | (refine Below.setCell ?_ ?_ _) | (simp; done) | (simp; omega) | omega)
      replace BB := Lib.hid (Below.andThen BB.out hW)
      replace HT := Lib.hid (HT.out.next hW)
      clear hb hW HB
      go_wp2_with fail
      refine (GR1.out _).mono ?_
      rintro e v2 ⟨rfl, hb⟩
      have HB := Lib.hid hb
      have hW : Below v1.heap.size v1 v2 := by (repeat' first | exact Below.refl _ _ | assumption | (refine Below.andThen ?_ HB.out) | (exact HB.out.size) | (refine below_drewN ?_ _) | (refine Below.drew ?_) | (refine Below.alloc ?_ ?_ _) | (refine Below.setCell ?_ ?_ _) | (simp; done) | (simp; omega) | omega)
      replace BB := Lib.hid (Below.andThen BB.out hW)
      replace HT := Lib.hid (HT.out.next hW)
      clear hb hW HB
      go_wp2_with fail
      refine (sameB (GY.out _)).mono ?_
      rintro e v3 ⟨rfl, hb⟩
      have HB := Lib.hid hb
      have hW : Below v2.heap.size v2 v3 := by (repeat' first | exact Below.refl _ _ | assumption | (refine Below.andThen ?_ HB.out) | (exact HB.out.size) | (refine below_drewN ?_ _) | (refine Below.drew ?_) | (refine Below.alloc ?_ ?_ _) | (refine Below.setCell ?_ ?_ _) | (simp; done) | (simp; omega) | omega)
      replace BB := Lib.hid (Below.andThen BB.out hW)
      replace HT := Lib.hid (HT.out.next hW)
      clear hb hW HB
      go_wp2_with fail
      refine (sameB (GZ.out _)).mono ?_
      rintro e v4 ⟨rfl, hb⟩
      have HB := Lib.hid hb
      have hW : Below v3.heap.size v3 v4 := by (repeat' first | exact Below.refl _ _ | assumption | (refine Below.andThen ?_ HB.out) | (exact HB.out.size) | (refine below_drewN ?_ _) | (refine Below.drew ?_) | (refine Below.alloc ?_ ?_ _) | (refine Below.setCell ?_ ?_ _) | (simp; done) | (simp; omega) | omega)
      replace BB := Lib.hid (Below.andThen BB.out hW)
      replace HT := Lib.hid (HT.out.next hW)
      clear hb hW HB
      go_wp2_with fail
      refine (sameB (GD2.out _ HT.out.tab)).mono ?_
      rintro e v5 ⟨rfl, hb⟩
      have HB := Lib.hid hb
      have hW : Below v4.heap.size v4 v5 := by (repeat' first | exact Below.refl _ _ | assumption | (refine Below.andThen ?_ HB.out) | (exact HB.out.size) | (refine below_drewN ?_ _) | (refine Below.drew ?_) | (refine Below.alloc ?_ ?_ _) | (refine Below.setCell ?_ ?_ _) | (simp; done) | (simp; omega) | omega)
      replace BB := Lib.hid (Below.andThen BB.out hW)
      replace HT := Lib.hid (HT.out.next hW)
      clear hb hW HB
      go_wp2_with fail
      refine (sameB (GY.out _)).mono ?_
      rintro e v6 ⟨rfl, hb⟩
      have HB := Lib.hid hb
      have hW : Below v5.heap.size v5 v6 := by (repeat' first | exact Below.refl _ _ | assumption | (refine Below.andThen ?_ HB.out) | (exact HB.out.size) | (refine below_drewN ?_ _) | (refine Below.drew ?_) | (refine Below.alloc ?_ ?_ _) | (refine Below.setCell ?_ ?_ _) | (simp; done) | (simp; omega) | omega)
      replace BB := Lib.hid (Below.andThen BB.out hW)
      replace HT := Lib.hid (HT.out.next hW)
      clear hb hW HB
      go_wp2_with fail
      refine (sameB (GZ.out _)).mono ?_
      rintro e v7 ⟨rfl, hb⟩
      have HB := Lib.hid hb
      have hW : Below v6.heap.size v6 v7 := by (repeat' first | exact Below.refl _ _ | assumption | (refine Below.andThen ?_ HB.out) | (exact HB.out.size) | (refine below_drewN ?_ _) | (refine Below.drew ?_) | (refine Below.alloc ?_ ?_ _) | (refine Below.setCell ?_ ?_ _) | (simp; done) | (simp; omega) | omega)
      replace BB := Lib.hid (Below.andThen BB.out hW)
      replace HT := Lib.hid (HT.out.next hW)
      clear hb hW HB
      go_wp2_with fail
      refine (GR2.out _).mono ?_
      rintro e v8 ⟨rfl, hb⟩
      have HB := Lib.hid hb
      have hW : Below v7.heap.size v7 v8 := by (repeat' first | exact Below.refl _ _ | assumption | (refine Below.andThen ?_ HB.out) | (exact HB.out.size) | (refine below_drewN ?_ _) | (refine Below.drew ?_) | (refine Below.alloc ?_ ?_ _) | (refine Below.setCell ?_ ?_ _) | (simp; done) | (simp; omega) | omega)
      replace BB := Lib.hid (Below.andThen BB.out hW)
      replace HT := Lib.hid (HT.out.next hW)
      clear hb hW HB
      go_wp2
      go_ret
      exact ⟨rfl, BB.out⟩

theorem calendarMatch_any (mi off c1 c2 c3 c4 c5 c6 : Int) (s t : ByteArray) (yr mo : Int) (w : World) (T : CW w) (b1 : -9223372036854775808 ≤ mi ∧ mi ≤ 9223372036854775807) (b2 : -9223372036854775808 ≤ off ∧ off ≤ 9223372036854775807)
    (_ : -9223372036854775808 ≤ c1 ∧ c1 ≤ 9223372036854775807) (_ : -9223372036854775808 ≤ c2 ∧ c2 ≤ 9223372036854775807) (_ : -9223372036854775808 ≤ c3 ∧ c3 ≤ 9223372036854775807) (_ : -9223372036854775808 ≤ c4 ∧ c4 ≤ 9223372036854775807) (_ : -9223372036854775808 ≤ c5 ∧ c5 ≤ 9223372036854775807) (_ : -9223372036854775808 ≤ c6 ∧ c6 ≤ 9223372036854775807)
    (ss : s.size ≤ maxLen) (st : t.size ≤ maxLen) (b3 : -9223372036854775808 ≤ yr ∧ yr ≤ 9223372036854775807) (b4 : -9223372036854775808 ≤ mo ∧ mo ≤ 9223372036854775807) :
    Calls Tryd.prog 9 #[.int .i64 mi, .int .i64 off, .agg #[.int .i64 c1, .int .i64 c2, .int .i64 c3, .int .i64 c4, .int .i64 c5, .int .i64 c6], .string s, .string t, .int .i64 yr, .int .i64 mo] w fun r w' => r = .returned (.bool true) ∧ Below w.heap.size w w' := by
  have q1 := pick_bd mi 50000001 (by omega)
  have q2 := pick_bd off 1681 (by omega)
  have q3 := pick_bd yr 9999 (by omega)
  have cut : ∀ u : ByteArray, (u.extract 0 (min (u.size : Int) 20).toNat).size ≤ 20 := fun u => by rw [ByteArray.size_extract]; omega
  exact match_walk mi off c1 c2 c3 c4 c5 c6 yr mo _ _ (pickZ off 1681 - 840) s t _ _ w T rfl (by omega) q2 rfl rfl ss st (cut s) (cut t)
    (fun w => pickC_any mi 50000001 w (by omega) b1.1 b1.2) (fun w => pickC_any off 1681 w (by omega) b2.1 b2.2) _ _ _ _ q3
    (fun w => pickC_any yr 9999 w (by omega) b3.1 b3.2) (fun w => pickC_any mo 14 w (by omega) b4.1 b4.2)
    (fun w T => days_any yr mo w T) (fun w T => days_any (pickZ yr 9999 + 1) (pickZ mo 14) w T) (fun w => refDays_any yr mo w) (fun w => refDays_any (pickZ yr 9999 + 1) (pickZ mo 14) w)

namespace calendarMatchesReference
theorem flat2 : leafsOf Tryd.prog 5 57 = some [some (some .i64), some (some .i64), some (some .i64), some (some .i64), some (some .i64), some (some .i64)] := by kernel_rfl
set_option maxRecDepth 100000 in
theorem contract (H : Type) (enc : TypeId × Value → H) (W : World) (base : Nat) (args : Array Value) (ds gs : List (DataW H)) (before : List MemPlace)
    (hval : ∀ (j : Nat) t v, Tryd.f9.params[j]? = some t → args[j]? = some v → Value.okWide Tryd.prog W .any base t v)
    (hW : DataW.Whole enc Tryd.prog Tryd.f9.params.toList Rows.calendarMatchesReferenceSpec.vars false W args.toList ds gs before) (hL : laidMetH Tryd.prog Rows.calendarMatchesReferenceRow.laid W) (hsh : W.ShapedOpen Tryd.prog) :
    Calls Tryd.prog 9 args W fun e W' => ∃ v, e = .returned v ∧ Rows.calendarMatchesReferenceSpec.post enc Tryd.prog Tryd.f9 false true false false W args v W' := by
  have hW' := hW
  obtain ⟨p, q, hA0, hV, rfl, hfz, hnd⟩ := hW
  have hA : DataW.TrodAll enc Tryd.prog W 0 (fun _ => true) true Tryd.f9.params.toList args.toList ds p := hA0
  rw [Tryd.params9] at hA hval
  obtain ⟨v0, vs0, d0, ds0, p0, q0, hargs, rfl, rfl, h0, r0⟩ := trodAll_cons hA
  obtain ⟨v1, vs1, d1, ds1, p1, q1, rfl, rfl, rfl, h1, r1⟩ := trodAll_cons r0
  obtain ⟨v2, vs2, d2, ds2, p2, q2, rfl, rfl, rfl, h2, r2⟩ := trodAll_cons r1
  obtain ⟨v3, vs3, d3, ds3, p3, q3, rfl, rfl, rfl, h3, r3⟩ := trodAll_cons r2
  obtain ⟨v4, vs4, d4, ds4, p4, q4, rfl, rfl, rfl, h4, r4⟩ := trodAll_cons r3
  obtain ⟨v5, vs5, d5, ds5, p5, q5, rfl, rfl, rfl, h5, r5⟩ := trodAll_cons r4
  obtain ⟨v6, vs6, d6, ds6, p6, q6, rfl, rfl, rfl, h6, r6⟩ := trodAll_cons r5
  obtain ⟨rfl, rfl, rfl⟩ := trodAll_nil r6
  obtain rfl : args = #[v0, v1, v2, v3, v4, v5, v6] := by cases args; simp_all
  obtain ⟨a0, rfl, rfl, rfl, k0⟩ := open_int Tryd.underlying3 (hval 0 _ _ rfl rfl) h0
  obtain ⟨a1, rfl, rfl, rfl, k1⟩ := open_int Tryd.underlying3 (hval 1 _ _ rfl rfl) h1
  obtain ⟨cs2, rfl, c2x0, rs2x0, rfl, ⟨a2, rfl, k2⟩, c2x1, rs2x1, rfl, ⟨a3, rfl, k3⟩, c2x2, rs2x2, rfl, ⟨a4, rfl, k4⟩, c2x3, rs2x3, rfl, ⟨a5, rfl, k5⟩, c2x4, rs2x4, rfl, ⟨a6, rfl, k6⟩, c2x5, rs2x5, rfl, ⟨a7, rfl, k7⟩, rfl⟩ := open_agg 5 flat2 (by kernel_rfl) (hval 2 _ _ rfl rfl) h2
  obtain ⟨a8, rfl, rfl, rfl, k8⟩ := Go.ChangeMaps.open_string Tryd.underlying9 (hval 3 _ _ rfl rfl) h3
  obtain ⟨a9, rfl, rfl, rfl, k9⟩ := Go.ChangeMaps.open_string Tryd.underlying9 (hval 4 _ _ rfl rfl) h4
  obtain ⟨a10, rfl, rfl, rfl, k10⟩ := open_int Tryd.underlying3 (hval 5 _ _ rfl rfl) h5
  obtain ⟨a11, rfl, rfl, rfl, k11⟩ := open_int Tryd.underlying3 (hval 6 _ _ rfl rfl) h6
  refine (calendarMatch_any a0 a1 a2 a3 a4 a5 a6 a7 a8 a9 a10 a11 W (cw hL hsh) (bd_i64 k0) (bd_i64 k1) (bd_i64 k2) (bd_i64 k3) (bd_i64 k4) (bd_i64 k5) (bd_i64 k6) (bd_i64 k7) k8 k9 (bd_i64 k10) (bd_i64 k11)).mono fun e W' ⟨he, hb⟩ => ?_
  subst he
  obtain ⟨rfl, _⟩ := trodVars_none hV
  exact ⟨_, rfl, law_post laidOut (by kernel_rfl) rfl (by kernel_rfl) Tryd.underlying4 hW' rfl hb⟩

def args0 : Array Value := #[.int .i64 0, .int .i64 0, .agg #[.int .i64 0, .int .i64 0, .int .i64 0, .int .i64 0, .int .i64 0, .int .i64 0], .string ⟨#[]⟩, .string ⟨#[]⟩, .int .i64 0, .int .i64 0]
theorem laid_met (os : Os) : laidMet Tryd.prog Rows.calendarMatchesReferenceRow.laid ((laidWorld os).forCall (fun _ _ => 0) ⟨#[], args0, []⟩).memory :=
  laidMet_of_run' 8 (by kernel_rfl) (by kernel_rfl)
theorem reads (os : Os) {H : Type} (enc : TypeId × Value → H) : ∃ places, DataW.whole enc Tryd.prog ((laidWorld os).forCall (fun _ _ => 0) ⟨#[], args0, []⟩).memory Tryd.f9.params.toList Rows.calendarMatchesReferenceSpec.vars false args0.toList 8 = some ([.lit (.int .i64 0), .lit (.int .i64 0), .agg [.lit (.int .i64 0), .lit (.int .i64 0), .lit (.int .i64 0), .lit (.int .i64 0), .lit (.int .i64 0), .lit (.int .i64 0)], .lit (.string []), .lit (.string []), .lit (.int .i64 0), .lit (.int .i64 0)], [], places) :=
  ⟨[], by kernel_rfl⟩

set_option maxRecDepth 100000 in
theorem lifted (os : Os) (started : os.Started) (H : Type) (enc : TypeId × Value → H) (F : Stop.Interp) :
    ReturnsInHanded {} Tryd.checked os 9 .any ((OpenSpec.ofChange Rows.calendarMatchesReferenceSpec).preRow enc Tryd.prog Tryd.f9 Rows.calendarMatchesReferenceRow.domain false Rows.calendarMatchesReferenceRow.laid) (((OpenSpec.ofChange Rows.calendarMatchesReferenceSpec).at F).post enc Tryd.prog Tryd.f9 false true false false) := by
  obtain ⟨places, hx⟩ := reads os enc
  refine returnsInHanded_of_row (C := Tryd.checked) (s := OpenSpec.ofChange Rows.calendarMatchesReferenceSpec) own started (by kernel_rfl) Tryd.func9
    (witness_row_at (enc := enc) (C := Tryd.checked) false (laidWorld os) args0 rfl (by kernel_rfl) (by kernel_rfl) (by kernel_rfl)
      (OpenSpec.preRow_of_cond 8 hx (by kernel_rfl) (fun k hk => by cases hk) (by kernel_rfl) (laid_met os))) ?_
  intro W base args ds gs before hval hW _ _ _ hL hsh _
  exact contract H enc W base args ds gs before hval hW hL hsh

theorem said : Rows.CalendarMatchesReferenceSaid :=
  OpenClaim.holds_of_cond 9 Tryd.f9 rfl rfl rfl rfl rfl rfl rfl ⟨rfl, rfl, rfl, rfl, rfl⟩ rfl rfl rfl rfl rfl (by kernel_rfl) Tryd.func9 (by kernel_rfl)
    (of_decide_eq_true (by kernel_rfl)) (by unfold Func.isWrapper; first | (rw [if_pos (by decide +kernel)]; kernel_rfl) | (rw [if_neg (by decide +kernel)]; exact ⟨rfl, rfl⟩))
    (fun os started H enc _ F => by rw [OpenClaim.pre_eq_preRow]; exact lifted os started H enc F)

theorem plain (f : FuncId) (fn : Func) (hf : Tryd.pinned.checked.prog.funcNamed "newswire/newswirelaw06.CalendarMatchesReference" = some f) (hfn : Tryd.pinned.checked.prog.funcs[f]? = some fn) :
    false = Tryd.pinned.checked.prog.looks [] ∧ ∀ (j : Nat) t, fn.params[j]? = some t → Tryd.pinned.checked.prog.wantsStandIn t = false := by
  obtain rfl : f = 9 := Option.some.inj ((show Tryd.prog.funcNamed "newswire/newswirelaw06.CalendarMatchesReference" = some 9 by kernel_rfl).symm.trans hf) |>.symm
  obtain rfl : fn = Tryd.f9 := (Option.some.inj (Tryd.func9.symm.trans hfn)).symm
  refine ⟨by kernel_rfl, fun j t ht => ?_⟩
  have all : (Tryd.f9.params.toList.all fun t => Tryd.prog.wantsStandIn t == false) = true := by kernel_rfl
  have := List.all_eq_true.1 all t (by rw [← Array.mem_def]; exact Array.mem_of_getElem? ht)
  exact (show Tryd.prog.wantsStandIn t = false by simpa using this)

/-- The statement. -/
theorem card : Rows.CalendarMatchesReferenceCardSaid :=
  Claim7.holds_tied_plain_at .later [] _ _ _ _ said (fun _ h => by cases h) (by kernel_rfl) (fun _ h => by cases h) calendarMatchesReference_row_tie rfl ⟨rfl, rfl⟩ (by kernel_rfl) rfl plain (by kernel_rfl)
end calendarMatchesReference
end Go.Proofs.YtdldokhiefeloaaDoor
