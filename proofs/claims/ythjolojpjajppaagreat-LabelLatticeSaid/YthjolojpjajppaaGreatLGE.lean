/- label.readLabel: what it reads. -/
/- label.readLabel, no number. -/
import Derived.Test.YthjolojpjajppaaGreatRdP
import Derived.Deep.DeepCutAuto
set_option linter.unusedVariables false
set_option linter.unusedSimpArgs false
set_option linter.unnecessarySimpa false
namespace Go.Proofs.YthjolojpjajppaaGreat
open Go.RowKit
namespace Rd
open Sq
open Lb (bodyPost_named La pK)
/-- a label is read -/
def dLab (s : ByteArray) (p : Int) : Option (La × Int) := match dI s p with
  | none => none
  | some (till, q1) => match dL s (dI s) 20 q1 with
    | none => none
    | some (ev, q2) => match dL s (d1 s) 16 q2 with
      | none => none
      | some (cs, q3) => match dM (dI s) 2 q3 with
        | none => none
        | some (l, q4) => match dL s (d2 s) 4 q4 with
          | none => none
          | some (ks, q5) => some (⟨till, ev, cs, l.getD 0 0, l.getD 1 0, ks⟩, q5)
def laV (B : Nat) (a : La) (w : World) (v : Value) : Prop := ∃ z : Lb.Lb, v = z.v ∧ z.p = a ∧ z.own w B
theorem d1_in {s : ByteArray} {p x : Int} {a : Lb.Cn} (hs : s.size ≤ 1000000) (h : d1 s p = some (a, x)) : inI x := by
  unfold d1 at h
  split at h
  · cases h
  · split at h
    · cases h
    · rename_i e
      cases h
      exact dI_in hs e
theorem d2_in {s : ByteArray} {p x : Int} {a : Int × List Int} (hs : s.size ≤ 1000000) (h : d2 s p = some (a, x)) : inI x := by
  unfold d2 at h
  split at h
  · cases h
  · split at h
    · cases h
    · rename_i e
      cases h
      exact dL_in hs (fun q a x hq => dI_in hs hq) e
abbrev zC : List Value := [.int .i64 0, .slice none 0 0, .slice none 0 0, .int .i64 0, .int .i64 0, .slice none 0 0]
theorem rows2' (w : World) (t0 t1 : TypeId) (C0 C1 : List Value) (W : World) (e : W = (w.alloc (.cells C0.toArray t0)).alloc (.cells C1.toArray t1)) :
    Row W w.heap.size t0 C0 ∧ Row W (w.heap.size + 1) t1 C1 ∧ Below w.heap.size w W ∧ W.heap.size = w.heap.size + 2 := Lb.rows2 w t0 t1 C0 C1 W e
theorem RN.ok {P : Program} {f : Nat} {vs : Array Value} {b c : Nat} {t : TypeId} {s : ByteArray} {w : World} {C : List Value} {os : List Nat} {r : Option (List Int × Int)} {l : List Int} {x : Int} (h : Calls P f vs w (RN b c t s w C os r)) (hd : r = some (l, x)) :
    Calls P f vs w fun e w' => e = .returned (.tuple #[]) ∧ Rd w' b s x ∧ Row w' c t (setAll C os l) ∧ l.length = os.length ∧ G2 b c w w' := by subst hd; exact h
theorem RN.no {P : Program} {f : Nat} {vs : Array Value} {b c : Nat} {t : TypeId} {s : ByteArray} {w : World} {C : List Value} {os : List Nat} {r : Option (List Int × Int)} (h : Calls P f vs w (RN b c t s w C os r)) (hd : r = none) :
    Calls P f vs w fun e w' => e = .panicked GU ∧ G2 b c w w' := by subst hd; exact h
theorem gr_g2 {w w' w'' : World} {b c : Nat} (h : w.grownBy w' (some b)) (k : G2 b c w' w'') (hc : w.heap.size ≤ c) : w.grownBy w'' (some b) :=
  ⟨k.os.trans h.os, k.tape.trans h.tape, k.output.trans h.output, Nat.le_trans h.size k.size, fun i hi hn => (k.block i (Nat.lt_of_lt_of_le hi h.size) (fun e => hn (by rw [e])) (by omega)).trans (h.block i hi hn)⟩
theorem dM_two {d : Int → Option (Int × Int)} {p x : Int} {l : List Int} (h : dM d 2 p = some (l, x)) : ∃ a b, l = [a, b] := by
  unfold dM at h
  split at h
  · cases h
  · rename_i a q e
    unfold dM at h
    split at h
    · cases h
    · rename_i m y e2
      split at e2
      · cases e2
      · rename_i b r e3
        unfold dM at e2
        dsimp only at e2
        cases e2
        cases h
        exact ⟨a, b, rfl⟩
theorem own_lab6 {w : World} {z : Lb.Lb} {B b : Nat} {s : TypeId} {C : List Value} (h : z.own w B) (hr : Row w b s C) (t1 : 3 ≠ s) (t2 : 67 ≠ s) (t3 : 70 ≠ s) (x0 x1 x2 x3 x4 x5 : Value) :
    z.own ((((((w.setCell ⟨b, 0, none⟩ x0).setCell ⟨b, 1, none⟩ x1).setCell ⟨b, 2, none⟩ x2).setCell ⟨b, 3, none⟩ x3).setCell ⟨b, 4, none⟩ x4).setCell ⟨b, 5, none⟩ x5) B :=
  ⟨Lb.own_set6 h.1 hr t1 _ _ _ _ _ _, Lb.own_set6 h.2.1 hr t2 _ _ _ _ _ _, Lb.own_set6 h.2.2.1 hr t3 _ _ _ _ _ _, fun q hq => Lb.own_set6 (h.2.2.2 q hq) hr t1 _ _ _ _ _ _⟩
theorem own_lab1 {w : World} {z : Lb.Lb} {B b : Nat} {s : TypeId} {C : List Value} (h : z.own w B) (hr : Row w b s C) (t1 : 3 ≠ s) (t2 : 67 ≠ s) (t3 : 70 ≠ s) (i : Nat) (x : Value) : z.own (w.setCell ⟨b, i, none⟩ x) B :=
  ⟨Lb.own_set h.1 hr t1, Lb.own_set h.2.1 hr t2, Lb.own_set h.2.2.1 hr t3, fun q hq => Lb.own_set (h.2.2.2 q hq) hr t1⟩
end Rd
end Go.Proofs.YthjolojpjajppaaGreat
set_option linter.unusedVariables false
set_option linter.unusedSimpArgs false
set_option linter.unnecessarySimpa false
namespace Go.Proofs.YthjolojpjajppaaGreat
open Go.RowKit
namespace Rd
open Sq
open Lb (bodyPost_named La pK)
set_option maxRecDepth 100000 in
set_option maxHeartbeats 8000000 in
theorem label_no1 (b : Nat) (s : ByteArray) (p : Int) (w : World) (h : Rd w b s p) (hs : s.size ≤ 1000000) (hp : inI p) (hd1 : dI s p = none) :
    Calls Tryz.prog 87 #[ptV b] w (RP b s w (laV w.heap.size) (dLab s p)) := by
  have hmf : ∀ (fn : Fn) (first cap : Array Value) (w : World), (Instr.makeFunc fn first cap).run Tryz.prog w = .ok (.func fn first cap) w := fun _ _ _ _ => rfl
  have CI := Lib.hid (fun q W (hr : Rd W b s q) (hq : inI q) => int_any b s q W hr hs hq)
  have CL := Lib.hid (fun q W (hr : Rd W b s q) (hq : inI q) => List_any b s 20 q W hr hs hq (by decide))
  have HSZ := Lib.hid hs
  have HP := Lib.hid hp
  have HL := Lib.hid (show b < w.heap.size from Row.lt h)
  obtain ⟨D, hD⟩ : ∃ D, dLab s p = D := ⟨_, rfl⟩
  rw [hD]
  unfold dLab at hD
  rw [hd1] at hD
  dsimp only at hD
  have HD1 := Lib.hid hd1
  have HD := Lib.hid hD
  clear hd1 hD
  have RR := Lib.hid h
  clear h hs hp
  go_enter Tryz.func87, Tryz.ntmps87
  go_upto_region 1 with (fail)
  refine wp_named fun w1 hq => ?_
  obtain ⟨bX, eX⟩ : ∃ b, b = w.heap.size := ⟨_, rfl⟩
  obtain ⟨bR, eR⟩ : ∃ b, b = w.heap.size + 1 := ⟨_, rfl⟩
  obtain ⟨r0, r1, hB, hz⟩ := rows2' w 145 28 [ptV b] zC w1 hq
  have HE := Lib.hid (show b ≠ bX ∧ b ≠ bR ∧ bX ≠ bR ∧ w.heap.size ≤ bX ∧ w.heap.size ≤ bR ∧ bX < w1.heap.size ∧ bR < w1.heap.size ∧ b < w1.heap.size by have := HL.out; omega)
  rw [← eX] at r0
  rw [← eR] at r1
  rw [← eR, ← eX]
  have RX := Lib.hid r0
  have RT := Lib.hid r1
  have BB := Lib.hid hB
  replace RR := Lib.hid (RR.out.next BB.out)
  clear hq eX eR r0 r1 hB hz
  have x0 := RX.out.cell 0
  simp only [List.getElem?_cons_zero] at x0
  have lx := RX.out.lt
  go_region_with (first
    | (go_at_call 128; (with_reducible refine Calls.mono (RP.no (CI.out p _ (RR.out.next (by (repeat' first | exact Below.refl _ _ | assumption | (refine below_drewN ?_ _) | (refine Below.drew ?_) | (refine Below.alloc ?_ ?_ _) | (refine Below.setCell ?_ ?_ _) | (simp; done) | (simp; omega) | omega))) HP.out) HD1.out) ?_); rintro e w3 ⟨rfl, hg⟩; refine on_dummy (P := Tryz.prog) (w := w3) (by rw [← HD.out]; exact ⟨rfl, rfl, gr_trans (gr_trans (gr_below _ BB.out) (gr_below _ (by (repeat' first | exact Below.refl _ _ | assumption | (refine below_drewN ?_ _) | (refine Below.drew ?_) | (refine Below.alloc ?_ ?_ _) | (refine Below.setCell ?_ ?_ _) | (simp; done) | (simp; omega) | omega)))) hg⟩) ?_))
  all_goals trivial
end Rd
end Go.Proofs.YthjolojpjajppaaGreat
