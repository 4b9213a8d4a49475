/- coding.Or of a label; label.Decode. -/
/- label.Decode. -/
import Derived.Test.YthjolojpjajppaaGreatRdW
import Derived.Test.YthjolojpjajppaaGreatLGE
import Derived.Test.YthjolojpjajppaaGreatRdRB
import Derived.Test.YthjolojpjajppaaGreatRdRC
set_option linter.unusedVariables false
set_option linter.unusedSimpArgs false
set_option linter.unnecessarySimpa false
namespace Go.Proofs.YthjolojpjajppaaGreat
open Go.RowKit
namespace Rd
open Sq
open Lb (bodyPost_named La pK vdA)
abbrev laG (t : Int) (eo : Option Addr) (en ec : Nat) (co : Option Addr) (cn cc : Nat) (tr cl : Int) (lo : Option Addr) (ln lc : Nat) : Value := .agg #[.int .i64 t, .slice eo en ec, .slice co cn cc, .int .i64 tr, .int .i64 cl, .slice lo ln lc]
set_option maxRecDepth 100000 in
set_option maxHeartbeats 2000000 in
theorem or_any (t : Int) (eo : Option Addr) (en ec : Nat) (co : Option Addr) (cn cc : Nat) (tr cl : Int) (lo : Option Addr) (ln lc : Nat) (x E : Int) (ok : Bool) (w : World) : Calls Tryz.prog 88 #[laG t eo en ec co cn cc tr cl lo ln lc, .int .i64 x, .bool ok, .int .i64 E] w fun e w' =>
    e = .returned (.tuple #[laG t eo en ec co cn cc tr cl lo ln lc, .int .i64 (if ok then x else 0), .int .i64 (if ok then 0 else E)]) ∧ Below w.heap.size w w' := by
  cases ok with
  | true =>
    go_enter Tryz.func88, Tryz.ntmps88
    go_wp2_with fail
    refine bodyPost_ret (v := .tuple #[laG t eo en ec co cn cc tr cl lo ln lc, .int .i64 x, .int .i64 0]) (by first | (simp [results, Tryz.results88, go_sem]; done) | simp [results, Tryz.results88, go_sem, *]) rfl ⟨rfl, by (repeat' first | exact Below.refl _ _ | assumption | (refine below_drewN ?_ _) | (refine Below.drew ?_) | (refine Below.alloc ?_ ?_ _) | (refine Below.setCell ?_ ?_ _) | (simp; done) | (simp; omega) | omega)⟩
  | false =>
    go_enter Tryz.func88, Tryz.ntmps88
    go_wp2_with fail
    refine bodyPost_ret (v := .tuple #[laG t eo en ec co cn cc tr cl lo ln lc, .int .i64 0, .int .i64 E]) (by first | (simp [results, Tryz.results88, go_sem]; done) | simp [results, Tryz.results88, go_sem, *]) rfl ⟨rfl, by (repeat' first | exact Below.refl _ _ | assumption | (refine below_drewN ?_ _) | (refine Below.drew ?_) | (refine Below.alloc ?_ ?_ _) | (refine Below.setCell ?_ ?_ _) | (simp; done) | (simp; omega) | omega)⟩
/-- what Decode returns -/
def DecP (s : ByteArray) (p : Int) (B : Nat) (e : Ending) (w' : World) : Prop := match dDec s p with
  | some (a, x) => ∃ z : Lb.Lb, e = .returned (.tuple #[z.v, .int .i64 x, .int .i64 0]) ∧ z.p = a ∧ z.own w' B
  | none => e = .returned (.tuple #[Lb.zL.v, .int .i64 0, .int .i64 100])
abbrev readF : Value := .func (.func 87) #[] #[]
abbrev validF : Value := .func (.func 14) #[] #[]
def LA (s : ByteArray) (p : Int) : Prop := ∀ b w, Rd w b s p → Calls Tryz.prog 87 #[ptV b] w (RP b s w (laV w.heap.size) (dLab s p))
theorem read_none (s : ByteArray) (p : Int) (w : World) (hs : s.size ≤ 1000000) (hp : inI p) (hLA : LA s p) (hd : dDec s p = none) :
    Calls Tryz.prog 86 #[.string s, .int .i64 p, readF, validF] w fun e w' => e = .returned (.tuple #[Lb.zL.v, .int .i64 0, .bool false]) ∧ Below w.heap.size w w' := by
  cases h : dLab s p with
  | none => exact read_no s p w hs hp hLA h
  | some r =>
    obtain ⟨a, x⟩ := r
    refine read_bad s p w hs hp hLA a x h ?_
    unfold dDec at hd
    rw [h] at hd
    cases e : vdA a with
    | false => rfl
    | true => simp [e] at hd
theorem read_some (s : ByteArray) (p : Int) (w : World) (hs : s.size ≤ 1000000) (hp : inI p) (hLA : LA s p) (a : La) (x : Int) (hd : dDec s p = some (a, x)) :
    Calls Tryz.prog 86 #[.string s, .int .i64 p, readF, validF] w fun e w' => (∃ z : Lb.Lb, e = .returned (.tuple #[z.v, .int .i64 x, .bool true]) ∧ z.p = a ∧ z.own w' w.heap.size) ∧ Below w.heap.size w w' := by
  unfold dDec at hd
  cases h : dLab s p with
  | none => rw [h] at hd; cases hd
  | some r =>
    obtain ⟨a', x'⟩ := r
    rw [h] at hd
    dsimp only at hd
    split at hd
    · rename_i hv
      cases hd
      exact read_ok s p w hs hp hLA a x h hv
    · cases hd
set_option maxRecDepth 100000 in
set_option maxHeartbeats 4000000 in
theorem decode_none (s : ByteArray) (p : Int) (w : World) (hs : s.size ≤ 1000000) (hp : inI p) (hLA : LA s p) (hd : dDec s p = none) :
    Calls Tryz.prog 32 #[.string s, .int .i64 p] w fun e w' => e = .returned (.tuple #[Lb.zL.v, .int .i64 0, .int .i64 100]) ∧ Below w.heap.size w w' := by
  have CR := Lib.hid (fun W => read_none s p W hs hp hLA hd)
  have CO := Lib.hid or_any
  unfold Lb.Lb.v Lb.zL at CR ⊢
  clear hs hp hLA hd
  go_enter Tryz.func32, Tryz.ntmps32
  go_wp2_with (first
    | (go_at_call 86; (with_reducible refine Calls.mono (CR.out _) ?_); rintro e w3 ⟨rfl, hb⟩; have RT := Lib.hid ((Row.new w 28 zC).next hb); have BB := Lib.hid (show Below w.heap.size w w3 from Below.andThen (by (repeat' first | exact Below.refl _ _ | assumption | (refine below_drewN ?_ _) | (refine Below.drew ?_) | (refine Below.alloc ?_ ?_ _) | (refine Below.setCell ?_ ?_ _) | (simp; done) | (simp; omega) | omega)) hb); clear hb)
    | (go_at_call 88; (with_reducible refine Calls.mono (CO.out _ _ _ _ _ _ _ _ _ _ _ _ _ _ _ _) ?_); rintro e w4 ⟨rfl, hb⟩; have RT4 := Lib.hid ((RT.out.alloc _).next hb); have BB4 := Lib.hid (Below.andThen (BB.out.alloc BB.out.size _) hb); clear hb; have a0 := RT4.out.cell 0; have a1 := RT4.out.cell 1; have a2 := RT4.out.cell 2; have a3 := RT4.out.cell 3; have a4 := RT4.out.cell 4; have a5 := RT4.out.cell 5; have la := RT4.out.lt; have fa0 := RT4.out.frozen 0; have fa1 := RT4.out.frozen 1; have fa2 := RT4.out.frozen 2; have fa3 := RT4.out.frozen 3; have fa4 := RT4.out.frozen 4; have fa5 := RT4.out.frozen 5; simp only [List.getElem?_cons_zero, List.getElem?_cons_succ] at a0 a1 a2 a3 a4 a5))
  refine bodyPost_named fun WW hq => ?_
  have RXn := Lib.hid (show Row WW _ _ _ from by rw [hq]; exact (((((RT4.out.set 0 (.int .i64 0)).set 1 (.slice none 0 0)).set 2 (.slice none 0 0)).set 3 (.int .i64 0)).set 4 (.int .i64 0)).set 5 (.slice none 0 0))
  have BBW := Lib.hid (show Below w.heap.size w WW from by rw [hq]; exact Lb.set6_below BB4.out (Nat.le_refl _))
  clear hq
  have xr0 := RXn.out.cell 0
  have xr1 := RXn.out.cell 1
  have xr2 := RXn.out.cell 2
  have xr3 := RXn.out.cell 3
  have xr4 := RXn.out.cell 4
  have xr5 := RXn.out.cell 5
  simp only [List.set_cons_zero, List.set_cons_succ, List.getElem?_cons_zero, List.getElem?_cons_succ] at xr0 xr1 xr2 xr3 xr4 xr5
  refine bodyPost_ret (v := .tuple #[laG 0 none 0 0 none 0 0 0 0 none 0 0, .int .i64 0, .int .i64 100]) (by first | (simp [results, Tryz.results32, go_sem]; done) | simp [results, Tryz.results32, go_sem, *]) rfl ⟨rfl, BBW.out⟩
theorem own_lower {w : World} {z : Lb.Lb} {B C : Nat} (h : z.own w B) (hC : C ≤ B) : z.own w C := ⟨h.1.lower hC, h.2.1.lower hC, h.2.2.1.lower hC, fun q hq => (h.2.2.2 q hq).lower hC⟩
set_option maxRecDepth 100000 in
set_option maxHeartbeats 4000000 in
theorem decode_some (s : ByteArray) (p : Int) (w : World) (hs : s.size ≤ 1000000) (hp : inI p) (hLA : LA s p) (a : La) (x : Int) (hd : dDec s p = some (a, x)) :
    Calls Tryz.prog 32 #[.string s, .int .i64 p] w fun e w' => (∃ z : Lb.Lb, e = .returned (.tuple #[z.v, .int .i64 x, .int .i64 0]) ∧ z.p = a ∧ z.own w' w.heap.size) ∧ Below w.heap.size w w' := by
  have CR := Lib.hid (fun W => read_some s p W hs hp hLA a x hd)
  have CO := Lib.hid or_any
  unfold Lb.Lb.v at CR ⊢
  clear hs hp hLA hd
  go_enter Tryz.func32, Tryz.ntmps32
  go_wp2_with (first
    | (go_at_call 86; (with_reducible refine Calls.mono (CR.out _) ?_); rintro e w3 ⟨⟨z, rfl, hz1, hz2⟩, hb⟩; have HZ := Lib.hid hz1; have OZ := Lib.hid hz2; clear hz1 hz2; have RT := Lib.hid ((Row.new w 28 zC).next hb); have BB := Lib.hid (show Below w.heap.size w w3 from Below.andThen (by (repeat' first | exact Below.refl _ _ | assumption | (refine below_drewN ?_ _) | (refine Below.drew ?_) | (refine Below.alloc ?_ ?_ _) | (refine Below.setCell ?_ ?_ _) | (simp; done) | (simp; omega) | omega)) hb); clear hb)
    | (go_at_call 88; (with_reducible refine Calls.mono (CO.out _ _ _ _ _ _ _ _ _ _ _ _ _ _ _ _) ?_); rintro e w4 ⟨rfl, hb⟩; have RT4 := Lib.hid ((RT.out.alloc _).next hb); have OZ4 := Lib.hid ((OZ.out.next ((Below.refl _ w3).alloc (Nat.le_refl _) _)).next hb); have BB4 := Lib.hid (Below.andThen (BB.out.alloc BB.out.size _) hb); clear hb; have a0 := RT4.out.cell 0; have a1 := RT4.out.cell 1; have a2 := RT4.out.cell 2; have a3 := RT4.out.cell 3; have a4 := RT4.out.cell 4; have a5 := RT4.out.cell 5; have la := RT4.out.lt; have fa0 := RT4.out.frozen 0; have fa1 := RT4.out.frozen 1; have fa2 := RT4.out.frozen 2; have fa3 := RT4.out.frozen 3; have fa4 := RT4.out.frozen 4; have fa5 := RT4.out.frozen 5; simp only [List.getElem?_cons_zero, List.getElem?_cons_succ] at a0 a1 a2 a3 a4 a5))
  refine bodyPost_named fun WW hq => ?_
  have RXn := Lib.hid (show Row WW _ _ _ from by rw [hq]; exact (((((RT4.out.set 0 (.int .i64 z.till)).set 1 (.slice z.eo z.en z.ec)).set 2 (.slice z.co z.cn z.cc)).set 3 (.int .i64 z.tr)).set 4 (.int .i64 z.cl)).set 5 (.slice z.lo z.ln z.lc))
  have BBW := Lib.hid (show Below w.heap.size w WW from by rw [hq]; exact Lb.set6_below BB4.out (Nat.le_refl _))
  have OZW := Lib.hid (show z.own WW w.heap.size from by rw [hq]; exact own_lower (own_lab6 OZ4.out RT4.out (by decide) (by decide) (by decide) _ _ _ _ _ _) (by simp))
  clear hq
  have xr0 := RXn.out.cell 0
  have xr1 := RXn.out.cell 1
  have xr2 := RXn.out.cell 2
  have xr3 := RXn.out.cell 3
  have xr4 := RXn.out.cell 4
  have xr5 := RXn.out.cell 5
  simp only [List.set_cons_zero, List.set_cons_succ, List.getElem?_cons_zero, List.getElem?_cons_succ] at xr0 xr1 xr2 xr3 xr4 xr5
  refine bodyPost_ret (v := .tuple #[laG z.till z.eo z.en z.ec z.co z.cn z.cc z.tr z.cl z.lo z.ln z.lc, .int .i64 x, .int .i64 0]) (by first | (simp [results, Tryz.results32, go_sem]; done) | simp [results, Tryz.results32, go_sem, *]) rfl ⟨⟨z, rfl, HZ.out, OZW.out⟩, BBW.out⟩
theorem decode_any (s : ByteArray) (p : Int) (w : World) (hs : s.size ≤ 1000000) (hp : inI p) (hLA : LA s p) :
    Calls Tryz.prog 32 #[.string s, .int .i64 p] w fun e w' => DecP s p w.heap.size e w' ∧ Below w.heap.size w w' := by
  unfold DecP
  cases h : dDec s p with
  | none => exact decode_none s p w hs hp hLA h
  | some r =>
    obtain ⟨a, x⟩ := r
    exact decode_some s p w hs hp hLA a x h
end Rd
end Go.Proofs.YthjolojpjajppaaGreat
set_option linter.unusedVariables false
set_option linter.unusedSimpArgs false
set_option linter.unnecessarySimpa false
namespace Go.Proofs.YthjolojpjajppaaGreat
open Go.RowKit
namespace Rd
open Lb (La pK)
theorem label_read (s : ByteArray) (p : Int) (hs : s.size ≤ 1000000) (hp : inI p) : LA s p := fun b w h => by
  cases h1 : dI s p with
  | none => exact label_no1 b s p w h hs hp h1
  | some r =>
    obtain ⟨till, q1⟩ := r
    cases h2 : dL s (dI s) 20 q1 with
    | none => exact label_no2 b s p w h hs hp till q1 h1 h2
    | some r =>
      obtain ⟨ev, q2⟩ := r
      exact label_ok b s p w h hs hp till q1 ev q2 h1 h2
theorem Decode_any (s : ByteArray) (p : Int) (w : World) (hs : s.size ≤ 1000000) (hp : inI p) :
    Calls Tryz.prog 32 #[.string s, .int .i64 p] w fun e w' => DecP s p w.heap.size e w' ∧ Below w.heap.size w w' := decode_any s p w hs hp (label_read s p hs hp)
end Rd
end Go.Proofs.YthjolojpjajppaaGreat
