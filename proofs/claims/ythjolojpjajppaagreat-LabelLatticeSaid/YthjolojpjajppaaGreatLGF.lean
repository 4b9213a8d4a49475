/- coding.Read of a label. -/
/- coding.Read of a label: what is read is not valid. -/
import Derived.Test.YthjolojpjajppaaGreatRdS
import Derived.Test.YthjolojpjajppaaGreatRdV
import Derived.Defers
set_option linter.unusedVariables false
set_option linter.unusedSimpArgs false
set_option linter.unnecessarySimpa false
namespace Go.Proofs.YthjolojpjajppaaGreat
open Go.RowKit
namespace Rd
open Sq
open Lb (bodyPost_named La pK vdA)
/-- a valid label is read -/
def dDec (s : ByteArray) (p : Int) : Option (La × Int) := match dLab s p with
  | none => none
  | some (a, x) => if vdA a = true then some (a, x) else none
theorem calls_named {P : Program} {f : Nat} {vs : Array Value} {w : World} {R : Ending → World → Prop} (h : ∀ W, W = w → Calls P f vs W R) : Calls P f vs w R := h w rfl
theorem rows4 (w : World) (t0 t1 t2 t3 : TypeId) (C0 C1 C2 C3 : List Value) (W : World) (e : W = (((w.alloc (.cells C0.toArray t0)).alloc (.cells C1.toArray t1)).alloc (.cells C2.toArray t2)).alloc (.cells C3.toArray t3)) :
    Row W w.heap.size t0 C0 ∧ Row W (w.heap.size + 1) t1 C1 ∧ Row W (w.heap.size + 1 + 1) t2 C2 ∧ Row W (w.heap.size + 1 + 1 + 1) t3 C3 ∧ Below w.heap.size w W ∧ W.heap.size = w.heap.size + 4 := by
  subst e
  have h0 := Row.new w t0 C0
  have h1 := Row.new (w.alloc (.cells C0.toArray t0)) t1 C1
  have h2 := Row.new ((w.alloc (.cells C0.toArray t0)).alloc (.cells C1.toArray t1)) t2 C2
  have h3 := Row.new (((w.alloc (.cells C0.toArray t0)).alloc (.cells C1.toArray t1)).alloc (.cells C2.toArray t2)) t3 C3
  simp only [World.size_alloc] at h1 h2 h3
  exact ⟨((h0.alloc _).alloc _).alloc _, (h1.alloc _).alloc _, h2.alloc _, h3, by (repeat' first | exact Below.refl _ _ | assumption | (refine below_drewN ?_ _) | (refine Below.drew ?_) | (refine Below.alloc ?_ ?_ _) | (refine Below.setCell ?_ ?_ _) | (simp; done) | (simp; omega) | omega), by simp⟩
theorem catchP_below {w0 w : World} {B b0 b1 b2 : Nat} (h : Below B w0 w) (hB : B ≤ w.heap.size) (h0 : B ≤ b0) (h1 : B ≤ b1) (h2 : B ≤ b2) : Below B w0 (catchP b0 b1 b2 w) := by
  unfold catchP
  refine Below.alloc ?_ (by simpa using hB) _
  exact (((((((h.setCell (p := ⟨b0, 0, none⟩) h0 _).setCell (p := ⟨b0, 1, none⟩) h0 _).setCell (p := ⟨b0, 2, none⟩) h0 _).setCell (p := ⟨b0, 3, none⟩) h0 _).setCell (p := ⟨b0, 4, none⟩) h0 _).setCell (p := ⟨b0, 5, none⟩) h0 _).setCell (p := ⟨b1, 0, none⟩) h1 _).setCell (p := ⟨b2, 0, none⟩) h2 _
theorem catchP_rows {w : World} {b0 b1 b2 : Nat} {c0 c1 c2 c3 c4 c5 d0 f0 : Value} (h0 : Row w b0 28 [c0, c1, c2, c3, c4, c5]) (h1 : Row w b1 3 [d0]) (h2 : Row w b2 4 [f0]) (n01 : b0 ≠ b1) (n02 : b0 ≠ b2) (n12 : b1 ≠ b2) :
    Row (catchP b0 b1 b2 w) b0 28 zC ∧ Row (catchP b0 b1 b2 w) b1 3 [.int .i64 0] ∧ Row (catchP b0 b1 b2 w) b2 4 [.bool false] := by
  unfold catchP
  refine ⟨?_, ?_, ?_⟩
  · exact ((((((((h0.set 0 _).set 1 _).set 2 _).set 3 _).set 4 _).set 5 _).other n01 _ _).other n02 _ _).alloc _
  · exact (((((((((h1.other (Ne.symm n01) _ _).other (Ne.symm n01) _ _).other (Ne.symm n01) _ _).other (Ne.symm n01) _ _).other (Ne.symm n01) _ _).other (Ne.symm n01) _ _).set 0 _).other n12 _ _).alloc _)
  · exact (((((((((h2.other (Ne.symm n02) _ _).other (Ne.symm n02) _ _).other (Ne.symm n02) _ _).other (Ne.symm n02) _ _).other (Ne.symm n02) _ _).other (Ne.symm n02) _ _).other (Ne.symm n12) _ _).set 0 _).alloc _)
set_option maxRecDepth 100000 in
set_option maxHeartbeats 8000000 in
theorem read_no (s : ByteArray) (p : Int) (w : World) (hs : s.size ≤ 1000000) (hp : inI p) (hLA : ∀ b w, Rd w b s p → Calls Tryz.prog 87 #[ptV b] w (RP b s w (laV w.heap.size) (dLab s p))) (hd : dLab s p = none) :
    Calls Tryz.prog 86 #[.string s, .int .i64 p, .func (.func 87) #[] #[], .func (.func 14) #[] #[]] w fun e w' =>
      e = .returned (.tuple #[Lb.zL.v, .int .i64 0, .bool false]) ∧ Below w.heap.size w w' := by
  have hmf : ∀ (fn : Fn) (first cap : Array Value) (w : World), (Instr.makeFunc fn first cap).run Tryz.prog w = .ok (.func fn first cap) w := fun _ _ _ _ => rfl
  have CL := Lib.hid hLA
  have HD := Lib.hid hd
  clear hd hLA hs hp
  unfold Lb.Lb.v Lb.zL
  dsimp only
  go_enter_defers Tryz.func86, Tryz.ntmps86
  go_wp2_with fail
  refine calls_named fun w1 e1 => ?_
  obtain ⟨r0, r1, r2, r3, hB, hz⟩ := rows4 w 28 3 4 149 zC [.int .i64 0] [.bool false] [.int .i64 p, .string s] w1 e1
  obtain ⟨b0, e0⟩ : ∃ b, b = w.heap.size := ⟨_, rfl⟩
  obtain ⟨b1, e01⟩ : ∃ b, b = w.heap.size + 1 := ⟨_, rfl⟩
  obtain ⟨b2, e02⟩ : ∃ b, b = w.heap.size + 1 + 1 := ⟨_, rfl⟩
  obtain ⟨b3, e03⟩ : ∃ b, b = w.heap.size + 1 + 1 + 1 := ⟨_, rfl⟩
  have HE := Lib.hid (show b0 = w.heap.size ∧ b1 = w.heap.size + 1 ∧ b2 = w.heap.size + 2 ∧ b3 = w.heap.size + 3 ∧ w1.heap.size = w.heap.size + 4 by omega)
  rw [← e03, ← e02, ← e01, ← e0]
  rw [← e0] at r0
  rw [← e01] at r1
  rw [← e02] at r2
  rw [← e03] at r3
  have R0 := Lib.hid r0
  have R1 := Lib.hid r1
  have R2 := Lib.hid r2
  have R3 := Lib.hid r3
  have BB := Lib.hid hB
  clear e1 r0 r1 r2 r3 hB hz e0 e01 e02 e03
  refine Calls.mono (RP.no (CL.out b3 _ R3.out) HD.out) ?_
  rintro e w2 ⟨rfl, hg⟩
  have BB2 := Lib.hid (show Below w.heap.size w w2 from BB.out.trans (gr_to hg (by have := HE.out; omega) BB.out.size))
  have P0 := Lib.hid (gr_row R0.out hg (by have := HE.out; omega))
  have P1 := Lib.hid (gr_row R1.out hg (by have := HE.out; omega))
  have P2 := Lib.hid (gr_row R2.out hg (by have := HE.out; omega))
  clear hg
  go_wp2_with fail
  refine leaves_cons (f := 126) (args := #[ptV b0, ptV b1, ptV b2]) (by simp) (by simp [go_sem]) ?_
  refine (catch_panicking b0 b1 b2 _ _ _ [] _ _ w2 P0.out rfl P1.out rfl P2.out rfl (by have := HE.out; omega) (by have := HE.out; omega) (by have := HE.out; omega)).mono ?_
  rintro e u' w3 ⟨rfl, rfl, hw⟩
  obtain ⟨q0, q1, q2⟩ := catchP_rows P0.out P1.out P2.out (by have := HE.out; omega) (by have := HE.out; omega) (by have := HE.out; omega)
  have HB3 := Lib.hid (show Below w.heap.size w w3 from by rw [hw]; exact catchP_below BB2.out BB2.out.size (by have := HE.out; omega) (by have := HE.out; omega) (by have := HE.out; omega))
  rw [← hw] at q0 q1 q2
  clear hw
  have Q0 := Lib.hid q0
  have Q1 := Lib.hid q1
  have Q2 := Lib.hid q2
  clear q0 q1 q2
  have c0 := Q0.out.cell 0
  have c1 := Q0.out.cell 1
  have c2 := Q0.out.cell 2
  have c3 := Q0.out.cell 3
  have c4 := Q0.out.cell 4
  have c5 := Q0.out.cell 5
  have lc := Q0.out.lt
  simp only [List.getElem?_cons_zero, List.getElem?_cons_succ] at c0 c1 c2 c3 c4 c5
  have d0 := Q1.out.cell 0
  have ld := Q1.out.lt
  simp only [List.getElem?_cons_zero, List.getElem?_cons_succ] at d0
  have f0 := Q2.out.cell 0
  have lf := Q2.out.lt
  simp only [List.getElem?_cons_zero, List.getElem?_cons_succ] at f0
  simp [Leaves, settle, results, Tryz.results86, go_sem, c0, c1, c2, c3, c4, c5, d0, f0]
  exact HB3.out
end Rd
end Go.Proofs.YthjolojpjajppaaGreat
set_option linter.unusedVariables false
set_option linter.unusedSimpArgs false
set_option linter.unnecessarySimpa false
namespace Go.Proofs.YthjolojpjajppaaGreat
open Go.RowKit
namespace Rd
open Sq
open Lb (bodyPost_named La pK vdA)
set_option maxRecDepth 100000 in
set_option maxHeartbeats 8000000 in
theorem read_bad (s : ByteArray) (p : Int) (w : World) (hs : s.size ≤ 1000000) (hp : inI p) (hLA : ∀ b w, Rd w b s p → Calls Tryz.prog 87 #[ptV b] w (RP b s w (laV w.heap.size) (dLab s p))) (a : La) (x : Int) (hd : dLab s p = some (a, x)) (hv : vdA a = false) :
    Calls Tryz.prog 86 #[.string s, .int .i64 p, .func (.func 87) #[] #[], .func (.func 14) #[] #[]] w fun e w' =>
      e = .returned (.tuple #[Lb.zL.v, .int .i64 0, .bool false]) ∧ Below w.heap.size w w' := by
  have hmf : ∀ (fn : Fn) (first cap : Array Value) (w : World), (Instr.makeFunc fn first cap).run Tryz.prog w = .ok (.func fn first cap) w := fun _ _ _ _ => rfl
  have CL := Lib.hid hLA
  have HD := Lib.hid hd
  have HV := Lib.hid hv
  have CN := Lib.hid demand_no
  have CD := Lib.hid demand_ok
  clear hd hv hLA hs hp
  unfold Lb.Lb.v Lb.zL
  dsimp only
  go_enter_defers Tryz.func86, Tryz.ntmps86
  go_wp2_with fail
  refine calls_named fun w1 e1 => ?_
  obtain ⟨r0, r1, r2, r3, hB, hz⟩ := rows4 w 28 3 4 149 zC [.int .i64 0] [.bool false] [.int .i64 p, .string s] w1 e1
  obtain ⟨b0, e0⟩ : ∃ b, b = w.heap.size := ⟨_, rfl⟩
  obtain ⟨b1, e01⟩ : ∃ b, b = w.heap.size + 1 := ⟨_, rfl⟩
  obtain ⟨b2, e02⟩ : ∃ b, b = w.heap.size + 1 + 1 := ⟨_, rfl⟩
  obtain ⟨b3, e03⟩ : ∃ b, b = w.heap.size + 1 + 1 + 1 := ⟨_, rfl⟩
  have HE := Lib.hid (show b0 = w.heap.size ∧ b1 = w.heap.size + 1 ∧ b2 = w.heap.size + 2 ∧ b3 = w.heap.size + 3 ∧ w1.heap.size = w.heap.size + 4 by omega)
  rw [← e03, ← e02, ← e01, ← e0]
  rw [← e0] at r0
  rw [← e01] at r1
  rw [← e02] at r2
  rw [← e03] at r3
  have R0 := Lib.hid r0
  have R1 := Lib.hid r1
  have R2 := Lib.hid r2
  have R3 := Lib.hid r3
  have BB := Lib.hid hB
  clear e1 r0 r1 r2 r3 hB hz e0 e01 e02 e03
  refine Calls.mono (RP.ok (CL.out b3 _ R3.out) HD.out) ?_
  rintro e w2 ⟨⟨v, rfl, z, rfl, hz1, hz2⟩, hr, hg⟩
  have BB2 := Lib.hid (show Below w.heap.size w w2 from BB.out.trans (gr_to hg (by have := HE.out; omega) BB.out.size))
  have P0 := Lib.hid (gr_row R0.out hg (by have := HE.out; omega))
  have P1 := Lib.hid (gr_row R1.out hg (by have := HE.out; omega))
  have P2 := Lib.hid (gr_row R2.out hg (by have := HE.out; omega))
  have P3 := Lib.hid hr
  have OZ := Lib.hid hz2
  have HZ := Lib.hid (show Lb.vdL z = vdA a from by rw [← hz1]; exact Lb.vdL_p hz2.ok)
  have HZP := Lib.hid hz1
  clear hg hr hz1 hz2
  have CV := Lib.hid (fun W (h : z.ok W) => Lb.Valid_any z W h)
  rw [HZ.out, HV.out] at CV
  unfold Lb.Lb.v at CV ⊢
  have c0 := P0.out.cell 0
  have c1 := P0.out.cell 1
  have c2 := P0.out.cell 2
  have c3 := P0.out.cell 3
  have c4 := P0.out.cell 4
  have c5 := P0.out.cell 5
  have lc := P0.out.lt
  simp only [List.getElem?_cons_zero, List.getElem?_cons_succ] at c0 c1 c2 c3 c4 c5
  have fc0 := P0.out.frozen 0
  have fc1 := P0.out.frozen 1
  have fc2 := P0.out.frozen 2
  have fc3 := P0.out.frozen 3
  have fc4 := P0.out.frozen 4
  have fc5 := P0.out.frozen 5
  go_upto_region 4 with (fail)
  refine wp_named fun w3 hq => ?_
  have S0 := Lib.hid (show Row w3 b0 28 [.int .i64 z.till, .slice z.eo z.en z.ec, .slice z.co z.cn z.cc, .int .i64 z.tr, .int .i64 z.cl, .slice z.lo z.ln z.lc] from by rw [hq]; exact (((((P0.out.set 0 _).set 1 _).set 2 _).set 3 _).set 4 _).set 5 _)
  have S1 := Lib.hid (show Row w3 b1 3 [.int .i64 0] from by rw [hq]; exact (((((P1.out.other (by have := HE.out; omega) _ _).other (by have := HE.out; omega) _ _).other (by have := HE.out; omega) _ _).other (by have := HE.out; omega) _ _).other (by have := HE.out; omega) _ _).other (by have := HE.out; omega) _ _)
  have S2 := Lib.hid (show Row w3 b2 4 [.bool false] from by rw [hq]; exact (((((P2.out.other (by have := HE.out; omega) _ _).other (by have := HE.out; omega) _ _).other (by have := HE.out; omega) _ _).other (by have := HE.out; omega) _ _).other (by have := HE.out; omega) _ _).other (by have := HE.out; omega) _ _)
  have S3 := Lib.hid (show Rd w3 b3 s x from by rw [hq]; exact (((((Row.other P3.out (by have := HE.out; omega) _ _).other (by have := HE.out; omega) _ _).other (by have := HE.out; omega) _ _).other (by have := HE.out; omega) _ _).other (by have := HE.out; omega) _ _).other (by have := HE.out; omega) _ _)
  have SZ := Lib.hid (show z.own w3 w1.heap.size from by rw [hq]; exact own_lab6 OZ.out P0.out (by decide) (by decide) (by decide) _ _ _ _ _ _)
  have SB := Lib.hid (show Below w.heap.size w w3 from by rw [hq]; exact Lb.set6_below BB2.out (by have := HE.out; omega))
  clear c0 c1 c2 c3 c4 c5 lc fc0 fc1 fc2 fc3 fc4 fc5
  clear hq P0 P1 P2 P3 OZ R0 R1 R2 R3
  have c0 := S0.out.cell 0
  have c1 := S0.out.cell 1
  have c2 := S0.out.cell 2
  have c3 := S0.out.cell 3
  have c4 := S0.out.cell 4
  have c5 := S0.out.cell 5
  have lc := S0.out.lt
  simp only [List.getElem?_cons_zero, List.getElem?_cons_succ] at c0 c1 c2 c3 c4 c5
  go_wp2_with fail
  with_reducible refine Calls.mono (CV.out _ SZ.out.ok) ?_
  rintro e w4 ⟨rfl, hb⟩
  have T0 := Lib.hid (S0.out.next hb)
  have T1 := Lib.hid (S1.out.next hb)
  have T2 := Lib.hid (S2.out.next hb)
  have T3 := Lib.hid (S3.out.next hb)
  have TZ := Lib.hid (SZ.out.next hb)
  have TB := Lib.hid (Below.andThen SB.out hb)
  clear c0 c1 c2 c3 c4 c5 lc
  clear hb S0 S1 S2 S3 SZ SB
  go_wp2_with (go_at_call 127; with_reducible refine Calls.mono (CN.out _) ?_; rintro e w5 ⟨rfl, rfl⟩)
  refine leaves_cons (f := 126) (args := #[ptV b0, ptV b1, ptV b2]) (by simp) (by simp [go_sem]) ?_
  refine (catch_panicking b0 b1 b2 _ _ _ [] _ _ _ T0.out rfl T1.out rfl T2.out rfl (by have := HE.out; omega) (by have := HE.out; omega) (by have := HE.out; omega)).mono ?_
  rintro e u' w3 ⟨rfl, rfl, hw⟩
  obtain ⟨q0, q1, q2⟩ := catchP_rows T0.out T1.out T2.out (by have := HE.out; omega) (by have := HE.out; omega) (by have := HE.out; omega)
  have HB3 := Lib.hid (show Below w.heap.size w w3 from by rw [hw]; exact catchP_below TB.out TB.out.size (by have := HE.out; omega) (by have := HE.out; omega) (by have := HE.out; omega))
  rw [← hw] at q0 q1 q2
  clear hw
  have Q0 := Lib.hid q0
  have Q1 := Lib.hid q1
  have Q2 := Lib.hid q2
  clear q0 q1 q2
  have c0 := Q0.out.cell 0
  have c1 := Q0.out.cell 1
  have c2 := Q0.out.cell 2
  have c3 := Q0.out.cell 3
  have c4 := Q0.out.cell 4
  have c5 := Q0.out.cell 5
  have lc := Q0.out.lt
  simp only [List.getElem?_cons_zero, List.getElem?_cons_succ] at c0 c1 c2 c3 c4 c5
  have d0 := Q1.out.cell 0
  have ld := Q1.out.lt
  simp only [List.getElem?_cons_zero, List.getElem?_cons_succ] at d0
  have f0 := Q2.out.cell 0
  have lf := Q2.out.lt
  simp only [List.getElem?_cons_zero, List.getElem?_cons_succ] at f0
  simp [Leaves, settle, results, Tryz.results86, go_sem, c0, c1, c2, c3, c4, c5, d0, f0]
  exact HB3.out
end Rd
end Go.Proofs.YthjolojpjajppaaGreat
