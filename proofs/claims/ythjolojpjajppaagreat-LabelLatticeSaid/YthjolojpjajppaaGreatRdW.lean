/- coding.Read of a label: what is read is valid. -/
import Derived.Test.YthjolojpjajppaaGreatLGF
import Derived.Defers
set_option linter.unusedVariables false
set_option linter.unusedSimpArgs false
set_option linter.unnecessarySimpa false
namespace Go.Proofs.YthjolojpjajppaaGreat
open Go.RowKit
namespace Rd
open Sq
open Lb (bodyPost_named La pK vdA)
theorem own_lab_lo {w : World} {z : Lb.Lb} {B b : Nat} (h : z.own w B) (hb : b < B) (i : Nat) (x : Value) : z.own (w.setCell ⟨b, i, none⟩ x) B :=
  ⟨ownsRow_setCell_below (a := ⟨b, i, none⟩) h.1 hb x, ownsRow_setCell_below (a := ⟨b, i, none⟩) h.2.1 hb x, ownsRow_setCell_below (a := ⟨b, i, none⟩) h.2.2.1 hb x, fun q hq => ownsRow_setCell_below (a := ⟨b, i, none⟩) (h.2.2.2 q hq) hb x⟩
set_option maxRecDepth 100000 in
set_option maxHeartbeats 8000000 in
theorem read_ok (s : ByteArray) (p : Int) (w : World) (hs : s.size ≤ 1000000) (hp : inI p) (hLA : ∀ b w, Rd w b s p → Calls Tryz.prog 87 #[ptV b] w (RP b s w (laV w.heap.size) (dLab s p))) (a : La) (x : Int) (hd : dLab s p = some (a, x)) (hv : vdA a = true) :
    Calls Tryz.prog 86 #[.string s, .int .i64 p, .func (.func 87) #[] #[], .func (.func 14) #[] #[]] w fun e w' =>
      (∃ z : Lb.Lb, e = .returned (.tuple #[z.v, .int .i64 x, .bool true]) ∧ z.p = a ∧ z.own w' w.heap.size) ∧ Below w.heap.size w w' := by
  have hmf : ∀ (fn : Fn) (first cap : Array Value) (w : World), (Instr.makeFunc fn first cap).run Tryz.prog w = .ok (.func fn first cap) w := fun _ _ _ _ => rfl
  have CL := Lib.hid hLA
  have HD := Lib.hid hd
  have HV := Lib.hid hv
  have CD := Lib.hid demand_ok
  clear hd hv hLA hs hp
  go_enter_defers Tryz.func86, Tryz.ntmps86
  go_wp2_with fail
  refine calls_named fun w1 e1 => ?_
  obtain ⟨r0, r1, r2, r3, hB, hz⟩ := rows4 w 28 3 4 149 zC [.int .i64 0] [.bool false] [.int .i64 p, .string s] w1 e1
  obtain ⟨b0, e0⟩ : ∃ b, b = w.heap.size := ⟨_, rfl⟩
  obtain ⟨b1, e01⟩ : ∃ b, b = w.heap.size + 1 := ⟨_, rfl⟩
  obtain ⟨b2, e02⟩ : ∃ b, b = w.heap.size + 1 + 1 := ⟨_, rfl⟩
  obtain ⟨b3, e03⟩ : ∃ b, b = w.heap.size + 1 + 1 + 1 := ⟨_, rfl⟩
  have HE := Lib.hid (show b0 = w.heap.size ∧ b1 = w.heap.size + 1 ∧ b2 = w.heap.size + 2 ∧ b3 = w.heap.size + 3 ∧ w1.heap.size = w.heap.size + 4 by omega)
  rw [← e03, ← e02, ← e01, ← e0]
  rw [← e0] at r0
  rw [← e01] at r1
  rw [← e02] at r2
  rw [← e03] at r3
  have R0 := Lib.hid r0
  have R1 := Lib.hid r1
  have R2 := Lib.hid r2
  have R3 := Lib.hid r3
  have BB := Lib.hid hB
  clear e1 r0 r1 r2 r3 hB hz e0 e01 e02 e03
  refine Calls.mono (RP.ok (CL.out b3 _ R3.out) HD.out) ?_
  rintro e w2 ⟨⟨v, rfl, z, rfl, hz1, hz2⟩, hr, hg⟩
  have BB2 := Lib.hid (show Below w.heap.size w w2 from BB.out.trans (gr_to hg (by have := HE.out; omega) BB.out.size))
  have P0 := Lib.hid (gr_row R0.out hg (by have := HE.out; omega))
  have P1 := Lib.hid (gr_row R1.out hg (by have := HE.out; omega))
  have P2 := Lib.hid (gr_row R2.out hg (by have := HE.out; omega))
  have P3 := Lib.hid hr
  have OZ := Lib.hid hz2
  have HZ := Lib.hid (show Lb.vdL z = vdA a from by rw [← hz1]; exact Lb.vdL_p hz2.ok)
  have HZP := Lib.hid hz1
  clear hg hr hz1 hz2
  have CV := Lib.hid (fun W (h : z.ok W) => Lb.Valid_any z W h)
  rw [HZ.out, HV.out] at CV
  unfold Lb.Lb.v at CV ⊢
  have c0 := P0.out.cell 0
  have c1 := P0.out.cell 1
  have c2 := P0.out.cell 2
  have c3 := P0.out.cell 3
  have c4 := P0.out.cell 4
  have c5 := P0.out.cell 5
  have lc := P0.out.lt
  simp only [List.getElem?_cons_zero, List.getElem?_cons_succ] at c0 c1 c2 c3 c4 c5
  have fc0 := P0.out.frozen 0
  have fc1 := P0.out.frozen 1
  have fc2 := P0.out.frozen 2
  have fc3 := P0.out.frozen 3
  have fc4 := P0.out.frozen 4
  have fc5 := P0.out.frozen 5
  go_upto_region 4 with (fail)
  refine wp_named fun w3 hq => ?_
  have S0 := Lib.hid (show Row w3 b0 28 [.int .i64 z.till, .slice z.eo z.en z.ec, .slice z.co z.cn z.cc, .int .i64 z.tr, .int .i64 z.cl, .slice z.lo z.ln z.lc] from by rw [hq]; exact (((((P0.out.set 0 _).set 1 _).set 2 _).set 3 _).set 4 _).set 5 _)
  have S1 := Lib.hid (show Row w3 b1 3 [.int .i64 0] from by rw [hq]; exact (((((P1.out.other (by have := HE.out; omega) _ _).other (by have := HE.out; omega) _ _).other (by have := HE.out; omega) _ _).other (by have := HE.out; omega) _ _).other (by have := HE.out; omega) _ _).other (by have := HE.out; omega) _ _)
  have S2 := Lib.hid (show Row w3 b2 4 [.bool false] from by rw [hq]; exact (((((P2.out.other (by have := HE.out; omega) _ _).other (by have := HE.out; omega) _ _).other (by have := HE.out; omega) _ _).other (by have := HE.out; omega) _ _).other (by have := HE.out; omega) _ _).other (by have := HE.out; omega) _ _)
  have S3 := Lib.hid (show Rd w3 b3 s x from by rw [hq]; exact (((((Row.other P3.out (by have := HE.out; omega) _ _).other (by have := HE.out; omega) _ _).other (by have := HE.out; omega) _ _).other (by have := HE.out; omega) _ _).other (by have := HE.out; omega) _ _).other (by have := HE.out; omega) _ _)
  have SZ := Lib.hid (show z.own w3 w1.heap.size from by rw [hq]; exact own_lab6 OZ.out P0.out (by decide) (by decide) (by decide) _ _ _ _ _ _)
  have SB := Lib.hid (show Below w.heap.size w w3 from by rw [hq]; exact Lb.set6_below BB2.out (by have := HE.out; omega))
  clear c0 c1 c2 c3 c4 c5 lc fc0 fc1 fc2 fc3 fc4 fc5
  clear hq P0 P1 P2 P3 OZ R0 R1 R2 R3
  have c0 := S0.out.cell 0
  have c1 := S0.out.cell 1
  have c2 := S0.out.cell 2
  have c3 := S0.out.cell 3
  have c4 := S0.out.cell 4
  have c5 := S0.out.cell 5
  have lc := S0.out.lt
  simp only [List.getElem?_cons_zero, List.getElem?_cons_succ] at c0 c1 c2 c3 c4 c5
  go_wp2_with fail
  with_reducible refine Calls.mono (CV.out _ SZ.out.ok) ?_
  rintro e w4 ⟨rfl, hb⟩
  have T0 := Lib.hid (S0.out.next hb)
  have T1 := Lib.hid (S1.out.next hb)
  have T2 := Lib.hid (S2.out.next hb)
  have T3 := Lib.hid (S3.out.next hb)
  have TZ := Lib.hid (SZ.out.next hb)
  have TB := Lib.hid (Below.andThen SB.out hb)
  clear c0 c1 c2 c3 c4 c5 lc
  clear hb S0 S1 S2 S3 SZ SB
  have c0 := T0.out.cell 0
  have c1 := T0.out.cell 1
  have c2 := T0.out.cell 2
  have c3 := T0.out.cell 3
  have c4 := T0.out.cell 4
  have c5 := T0.out.cell 5
  have lc := T0.out.lt
  simp only [List.getElem?_cons_zero, List.getElem?_cons_succ] at c0 c1 c2 c3 c4 c5
  have fc0 := T0.out.frozen 0
  have fc1 := T0.out.frozen 1
  have fc2 := T0.out.frozen 2
  have fc3 := T0.out.frozen 3
  have fc4 := T0.out.frozen 4
  have fc5 := T0.out.frozen 5
  have d0 := T1.out.cell 0
  have ld := T1.out.lt
  simp only [List.getElem?_cons_zero, List.getElem?_cons_succ] at d0
  have fd0 := T1.out.frozen 0
  have f0 := T2.out.cell 0
  have lf := T2.out.lt
  simp only [List.getElem?_cons_zero, List.getElem?_cons_succ] at f0
  have ff0 := T2.out.frozen 0
  have g0 := (show Row w4 b3 149 [.int .i64 x, .string s] from T3.out).cell 0
  have lg := (show Row w4 b3 149 [.int .i64 x, .string s] from T3.out).lt
  simp only [List.getElem?_cons_zero] at g0
  have m1 : ¬ b0 = b1 := by have := HE.out; omega
  have m2 : ¬ b0 = b2 := by have := HE.out; omega
  have m3 : ¬ b0 = b3 := by have := HE.out; omega
  have m4 : ¬ b1 = b2 := by have := HE.out; omega
  have m5 : ¬ b1 = b3 := by have := HE.out; omega
  have m6 : ¬ b2 = b3 := by have := HE.out; omega
  have m1' : ¬ b1 = b0 := by have := HE.out; omega
  have m2' : ¬ b2 = b0 := by have := HE.out; omega
  have m4' : ¬ b2 = b1 := by have := HE.out; omega
  go_wp2_with (go_at_call 127; with_reducible refine Calls.mono (CD.out _) ?_; rintro e w5 ⟨rfl, rfl⟩)
  go_region
  generalize hq : World.drew _ = w6
  have ne := HE.out
  have U0 := Lib.hid (show Row w6 b0 28 [.int .i64 z.till, .slice z.eo z.en z.ec, .slice z.co z.cn z.cc, .int .i64 z.tr, .int .i64 z.cl, .slice z.lo z.ln z.lc] from by rw [← hq]; exact ((((((((T0.out.set 0 _).set 1 _).set 2 _).set 3 _).set 4 _).set 5 _).other m1 _ _).other m2 _ _).drew)
  have U1 := Lib.hid (show Row w6 b1 3 [.int .i64 x] from by rw [← hq]; exact ((((((((T1.out.other m1' _ _).other m1' _ _).other m1' _ _).other m1' _ _).other m1' _ _).other m1' _ _).set 0 _).other m4 _ _).drew)
  have U2 := Lib.hid (show Row w6 b2 4 [.bool true] from by rw [← hq]; exact ((((((((T2.out.other m2' _ _).other m2' _ _).other m2' _ _).other m2' _ _).other m2' _ _).other m2' _ _).other m4' _ _).set 0 _).drew)
  have UZ := Lib.hid (show z.own w6 w.heap.size from by
    rw [← hq]
    have o1 := own_lab6 (s := 28) TZ.out T0.out (by decide) (by decide) (by decide) (.int .i64 z.till) (.slice z.eo z.en z.ec) (.slice z.co z.cn z.cc) (.int .i64 z.tr) (.int .i64 z.cl) (.slice z.lo z.ln z.lc)
    have o2 := own_lab_lo o1 (show b1 < w1.heap.size by omega) 0 (.int .i64 x)
    have o3 := own_lab_lo o2 (show b2 < w1.heap.size by omega) 0 (.bool true)
    have o4 := o3.next ((Below.refl _ _).drew)
    exact ⟨o4.1.lower (by omega), o4.2.1.lower (by omega), o4.2.2.1.lower (by omega), fun q hq => (o4.2.2.2 q hq).lower (by omega)⟩)
  have UB := Lib.hid (show Below w.heap.size w w6 from by rw [← hq]; exact (((Lb.set6_below TB.out (by omega)).setCell (p := ⟨b1, 0, none⟩) (by show _ ≤ b1; omega) _).setCell (p := ⟨b2, 0, none⟩) (by show _ ≤ b2; omega) _).drew)
  clear hq ne m1 m2 m3 m4 m5 m6 m1' m2' m4' c0 c1 c2 c3 c4 c5 fc0 fc1 fc2 fc3 fc4 fc5 lc d0 fd0 ld f0 ff0 lf g0 lg T0 T1 T2 T3 TZ TB
  have c0 := U0.out.cell 0
  have c1 := U0.out.cell 1
  have c2 := U0.out.cell 2
  have c3 := U0.out.cell 3
  have c4 := U0.out.cell 4
  have c5 := U0.out.cell 5
  have lc := U0.out.lt
  simp only [List.getElem?_cons_zero, List.getElem?_cons_succ] at c0 c1 c2 c3 c4 c5
  have d0 := U1.out.cell 0
  have ld := U1.out.lt
  simp only [List.getElem?_cons_zero, List.getElem?_cons_succ] at d0
  have f0 := U2.out.cell 0
  have lf := U2.out.lt
  simp only [List.getElem?_cons_zero, List.getElem?_cons_succ] at f0
  go_wp2_with fail
  refine leaves_cons (f := 126) (args := #[ptV b0, ptV b1, ptV b2]) (by simp) (by simp [go_sem]) ?_
  refine (catch_idle b0 b1 b2 w6).mono ?_
  rintro e u' w7 ⟨rfl, rfl, rfl⟩
  simp [Leaves, settle, results, Tryz.results86, go_sem, c0, c1, c2, c3, c4, c5, d0, f0]
  exact ⟨⟨z, rfl, HZP.out, UZ.out⟩, UB.out⟩
end Rd
end Go.Proofs.YthjolojpjajppaaGreat
