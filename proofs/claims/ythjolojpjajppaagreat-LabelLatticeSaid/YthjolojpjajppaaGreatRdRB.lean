/- label.readLabel, no list. -/
import Derived.Test.YthjolojpjajppaaGreatLGE
import Derived.Deep.DeepCutAuto
set_option linter.unusedVariables false
set_option linter.unusedSimpArgs false
set_option linter.unnecessarySimpa false
namespace Go.Proofs.YthjolojpjajppaaGreat
open Go.RowKit
namespace Rd
open Sq
open Lb (bodyPost_named La pK)
set_option maxRecDepth 100000 in
set_option maxHeartbeats 8000000 in
theorem label_no2 (b : Nat) (s : ByteArray) (p : Int) (w : World) (h : Rd w b s p) (hs : s.size ≤ 1000000) (hp : inI p) (till q1 : Int) (hd1 : dI s p = some (till, q1)) (hd2 : dL s (dI s) 20 q1 = none) :
    Calls Tryz.prog 87 #[ptV b] w (RP b s w (laV w.heap.size) (dLab s p)) := by
  have hmf : ∀ (fn : Fn) (first cap : Array Value) (w : World), (Instr.makeFunc fn first cap).run Tryz.prog w = .ok (.func fn first cap) w := fun _ _ _ _ => rfl
  have CI := Lib.hid (fun q W (hr : Rd W b s q) (hq : inI q) => int_any b s q W hr hs hq)
  have CL := Lib.hid (fun q W (hr : Rd W b s q) (hq : inI q) => List_any b s 20 q W hr hs hq (by decide))
  have HSZ := Lib.hid hs
  have HP := Lib.hid hp
  have HL := Lib.hid (show b < w.heap.size from Row.lt h)
  obtain ⟨D, hD⟩ : ∃ D, dLab s p = D := ⟨_, rfl⟩
  rw [hD]
  unfold dLab at hD
  rw [hd1] at hD
  dsimp only at hD
  rw [hd2] at hD
  dsimp only at hD
  have HD1 := Lib.hid hd1
  have HQ1 := Lib.hid (dI_in hs hd1)
  have HD2 := Lib.hid hd2
  have HD := Lib.hid hD
  clear hd1 hd2 hD
  have RR := Lib.hid h
  clear h hs hp
  go_enter Tryz.func87, Tryz.ntmps87
  go_upto_region 1 with (fail)
  refine wp_named fun w1 hq => ?_
  obtain ⟨bX, eX⟩ : ∃ b, b = w.heap.size := ⟨_, rfl⟩
  obtain ⟨bR, eR⟩ : ∃ b, b = w.heap.size + 1 := ⟨_, rfl⟩
  obtain ⟨r0, r1, hB, hz⟩ := rows2' w 145 28 [ptV b] zC w1 hq
  have HE := Lib.hid (show b ≠ bX ∧ b ≠ bR ∧ bX ≠ bR ∧ w.heap.size ≤ bX ∧ w.heap.size ≤ bR ∧ bX < w1.heap.size ∧ bR < w1.heap.size ∧ b < w1.heap.size by have := HL.out; omega)
  rw [← eX] at r0
  rw [← eR] at r1
  rw [← eR, ← eX]
  have RX := Lib.hid r0
  have RT := Lib.hid r1
  have BB := Lib.hid hB
  replace RR := Lib.hid (RR.out.next BB.out)
  clear hq eX eR r0 r1 hB hz
  have x0 := RX.out.cell 0
  simp only [List.getElem?_cons_zero] at x0
  have lx := RX.out.lt
  go_region_with (first
    | (go_at_call 129; (with_reducible refine Calls.mono (RP.no (CL.out q1 _ (RR3.out.next (by (repeat' first | exact Below.refl _ _ | assumption | (refine below_drewN ?_ _) | (refine Below.drew ?_) | (refine Below.alloc ?_ ?_ _) | (refine Below.setCell ?_ ?_ _) | (simp; done) | (simp; omega) | omega))) HQ1.out) HD2.out) ?_); rintro e w4 ⟨rfl, hg⟩; refine on_dummy (P := Tryz.prog) (w := w4) (by rw [← HD.out]; exact ⟨rfl, rfl, gr_trans (gr_trans HG3.out (gr_below _ (by (repeat' first | exact Below.refl _ _ | assumption | (refine below_drewN ?_ _) | (refine Below.drew ?_) | (refine Below.alloc ?_ ?_ _) | (refine Below.setCell ?_ ?_ _) | (simp; done) | (simp; omega) | omega)))) hg⟩) ?_)
    | (go_at_call 128; (with_reducible refine Calls.mono (RP.int (CI.out p _ (RR.out.next (by (repeat' first | exact Below.refl _ _ | assumption | (refine below_drewN ?_ _) | (refine Below.drew ?_) | (refine Below.alloc ?_ ?_ _) | (refine Below.setCell ?_ ?_ _) | (simp; done) | (simp; omega) | omega))) HP.out) HD1.out) ?_); rintro e w3 ⟨rfl, hr, hg⟩; have RR3 := Lib.hid hr; have HG3 := Lib.hid (show w.grownBy w3 (some b) from gr_trans (gr_trans (gr_below _ BB.out) (gr_below _ (by (repeat' first | exact Below.refl _ _ | assumption | (refine below_drewN ?_ _) | (refine Below.drew ?_) | (refine Below.alloc ?_ ?_ _) | (refine Below.setCell ?_ ?_ _) | (simp; done) | (simp; omega) | omega)))) hg); have x3 := (gr_row (RX.out.next (by (repeat' first | exact Below.refl _ _ | assumption | (refine below_drewN ?_ _) | (refine Below.drew ?_) | (refine Below.alloc ?_ ?_ _) | (refine Below.setCell ?_ ?_ _) | (simp; done) | (simp; omega) | omega))) hg HE.out.1).cell 0; have lx3 := (gr_row (RX.out.next (by (repeat' first | exact Below.refl _ _ | assumption | (refine below_drewN ?_ _) | (refine Below.drew ?_) | (refine Below.alloc ?_ ?_ _) | (refine Below.setCell ?_ ?_ _) | (simp; done) | (simp; omega) | omega))) hg HE.out.1).lt; simp only [List.getElem?_cons_zero] at x3; clear hr hg))
  all_goals trivial
end Rd
end Go.Proofs.YthjolojpjajppaaGreat
