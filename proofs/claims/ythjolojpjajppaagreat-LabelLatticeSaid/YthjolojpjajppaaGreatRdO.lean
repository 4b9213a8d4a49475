/- label.readLabel's closures. -/
import Derived.Test.YthjolojpjajppaaGreatLGD
import Derived.Deep.RegionWith
set_option linter.unusedVariables false
set_option linter.unusedSimpArgs false
set_option linter.unnecessarySimpa false
namespace Go.Proofs.YthjolojpjajppaaGreat
open Go.RowKit
namespace Rd
open Sq
open Lb (bodyPost_named)
/-- a way that has ended: what the walk may go on with -/
theorem on_dummy {P : Program} {G : Prop} {w : World} (h : G) : wpAny P .any #[] (fun _ _ _ => True) 0 #[] ⟨#[], []⟩ w → G := fun _ => h
theorem gr_setnew {w w' : World} {b c : Nat} (h : w.grownBy w' (some b)) (hc : w.heap.size ≤ c) (j : Nat) (v : Value) : w.grownBy (w'.setCell ⟨c, j, none⟩ v) (some b) :=
  ⟨h.os, h.tape, h.output, by have := h.size; simpa [World.setCell] using this, fun i hi hn => (Below.heap_setCell _ _ _ _ (show i ≠ c by omega)).trans (h.block i hi hn)⟩
theorem Rd.next {w w' : World} {b : Nat} {s : ByteArray} {p : Int} (h : Rd w b s p) (hb : Below w.heap.size w w') : Rd w' b s p := Row.next h hb
def d1 (s : ByteArray) (p : Int) : Option (Lb.Cn × Int) := match dI s p with
  | none => none
  | some (f, q) => match dI s q with
    | none => none
    | some (c, x) => some (⟨f, c⟩, x)
set_option maxRecDepth 100000 in
set_option maxHeartbeats 4000000 in
theorem cn_read (b bx : Nat) (s : ByteArray) (p : Int) (w : World) (h : Rd w b s p) (hs : s.size ≤ 1000000) (hp : inI p) (hB : Row w bx 145 [ptV b]) (hne : b ≠ bx) :
    Calls Tryz.prog 131 #[ptV bx] w (RP b s w cV (d1 s p)) := by
  have CI := Lib.hid (fun q W (hr : Rd W b s q) (hq : inI q) => int_any b s q W hr hs hq)
  have RR := Lib.hid h
  have RX := Lib.hid hB
  have HP := Lib.hid hp
  have HE := Lib.hid hne
  have HL := Lib.hid (show b < w.heap.size from Row.lt h)
  cases hd : dI s p with
  | none =>
    have HD := Lib.hid (show d1 s p = none by unfold d1; rw [hd])
    have HD1 := Lib.hid hd
    clear hd h hp hB hne
    go_enter Tryz.func131, Tryz.ntmps131
    go_upto_region 1 with (fail)
    refine wp_named fun w1 hq => ?_
    obtain ⟨bA, eA⟩ : ∃ b, b = w.heap.size := ⟨_, rfl⟩
    have RA := Lib.hid (show Row w1 bA 67 [.int .i64 0, .int .i64 0] from by rw [hq, eA]; exact Row.new w _ _)
    have BB := Lib.hid (show Below w.heap.size w w1 by rw [hq]; (repeat' first | exact Below.refl _ _ | assumption | (refine below_drewN ?_ _) | (refine Below.drew ?_) | (refine Below.alloc ?_ ?_ _) | (refine Below.setCell ?_ ?_ _) | (simp; done) | (simp; omega) | omega))
    replace RR := Lib.hid (RR.out.next BB.out)
    replace RX := Lib.hid (RX.out.next BB.out)
    have HA := Lib.hid (show b ≠ bA by have := HL.out; omega)
    have HAS := Lib.hid (show w.heap.size ≤ bA by omega)
    rw [← eA]
    clear hq eA
    have x0 := RX.out.cell 0
    have lx := RX.out.lt
    simp only [List.getElem?_cons_zero, List.getElem?_cons_succ] at x0
    have a0 := RA.out.cell 0
    have a1 := RA.out.cell 1
    have la := RA.out.lt
    simp only [List.getElem?_cons_zero, List.getElem?_cons_succ] at a0 a1
    have fa0 := RA.out.frozen 0
    have fa1 := RA.out.frozen 1
    go_region_with (first
      | (go_at_call 128; (with_reducible refine Calls.mono (RP.no (CI.out p _ (RR.out.next (by (repeat' first | exact Below.refl _ _ | assumption | (refine below_drewN ?_ _) | (refine Below.drew ?_) | (refine Below.alloc ?_ ?_ _) | (refine Below.setCell ?_ ?_ _) | (simp; done) | (simp; omega) | omega))) HP.out) HD1.out) ?_); rintro e w3 ⟨rfl, hg⟩; refine on_dummy (P := Tryz.prog) (w := w3) (by rw [HD.out]; exact ⟨rfl, rfl, gr_trans (gr_trans (gr_below _ BB.out) (gr_below _ (by (repeat' first | exact Below.refl _ _ | assumption | (refine below_drewN ?_ _) | (refine Below.drew ?_) | (refine Below.alloc ?_ ?_ _) | (refine Below.setCell ?_ ?_ _) | (simp; done) | (simp; omega) | omega)))) hg⟩) ?_))
    all_goals trivial
  | some r =>
    obtain ⟨n, q⟩ := r
    have HQ := Lib.hid (dI_in hs hd)
    have HD1 := Lib.hid hd
    cases hd2 : dI s q with
    | none =>
      have HD := Lib.hid (show d1 s p = none by unfold d1; rw [hd]; dsimp only; rw [hd2])
      have HD2 := Lib.hid hd2
      clear hd hd2 h hp hB hne
      go_enter Tryz.func131, Tryz.ntmps131
      go_upto_region 1 with (fail)
      refine wp_named fun w1 hq => ?_
      obtain ⟨bA, eA⟩ : ∃ b, b = w.heap.size := ⟨_, rfl⟩
      have RA := Lib.hid (show Row w1 bA 67 [.int .i64 0, .int .i64 0] from by rw [hq, eA]; exact Row.new w _ _)
      have BB := Lib.hid (show Below w.heap.size w w1 by rw [hq]; (repeat' first | exact Below.refl _ _ | assumption | (refine below_drewN ?_ _) | (refine Below.drew ?_) | (refine Below.alloc ?_ ?_ _) | (refine Below.setCell ?_ ?_ _) | (simp; done) | (simp; omega) | omega))
      replace RR := Lib.hid (RR.out.next BB.out)
      replace RX := Lib.hid (RX.out.next BB.out)
      have HA := Lib.hid (show b ≠ bA by have := HL.out; omega)
      have HAS := Lib.hid (show w.heap.size ≤ bA by omega)
      rw [← eA]
      clear hq eA
      have x0 := RX.out.cell 0
      have lx := RX.out.lt
      simp only [List.getElem?_cons_zero, List.getElem?_cons_succ] at x0
      have a0 := RA.out.cell 0
      have a1 := RA.out.cell 1
      have la := RA.out.lt
      simp only [List.getElem?_cons_zero, List.getElem?_cons_succ] at a0 a1
      have fa0 := RA.out.frozen 0
      have fa1 := RA.out.frozen 1
      go_region_with (first
        | (go_at_call 128; (with_reducible refine Calls.mono (RP.no (CI.out q _ RR3.out HQ.out) HD2.out) ?_); rintro e w4 ⟨rfl, hg⟩; refine on_dummy (P := Tryz.prog) (w := w4) (by rw [HD.out]; exact ⟨rfl, rfl, gr_trans HG3.out hg⟩) ?_)
        | (go_at_call 128; (with_reducible refine Calls.mono (RP.int (CI.out p _ (RR.out.next (by (repeat' first | exact Below.refl _ _ | assumption | (refine below_drewN ?_ _) | (refine Below.drew ?_) | (refine Below.alloc ?_ ?_ _) | (refine Below.setCell ?_ ?_ _) | (simp; done) | (simp; omega) | omega))) HP.out) HD1.out) ?_); rintro e w3 ⟨rfl, hr, hg⟩; have RR3 := Lib.hid hr; have HG3 := Lib.hid (show w.grownBy w3 (some b) from gr_trans (gr_trans (gr_below _ BB.out) (gr_below _ (by (repeat' first | exact Below.refl _ _ | assumption | (refine below_drewN ?_ _) | (refine Below.drew ?_) | (refine Below.alloc ?_ ?_ _) | (refine Below.setCell ?_ ?_ _) | (simp; done) | (simp; omega) | omega)))) hg); have RX3 := Lib.hid (gr_row (RX.out.next (by (repeat' first | exact Below.refl _ _ | assumption | (refine below_drewN ?_ _) | (refine Below.drew ?_) | (refine Below.alloc ?_ ?_ _) | (refine Below.setCell ?_ ?_ _) | (simp; done) | (simp; omega) | omega))) hg HE.out); have x3 := RX3.out.cell 0; have RA3 := Lib.hid (gr_row (RA.out.next (by (repeat' first | exact Below.refl _ _ | assumption | (refine below_drewN ?_ _) | (refine Below.drew ?_) | (refine Below.alloc ?_ ?_ _) | (refine Below.setCell ?_ ?_ _) | (simp; done) | (simp; omega) | omega))) hg HA.out); simp only [List.getElem?_cons_zero] at x3; clear hr hg))
      all_goals trivial
    | some r =>
      obtain ⟨m, x⟩ := r
      have HD := Lib.hid (show d1 s p = some (⟨n, m⟩, x) by unfold d1; rw [hd]; dsimp only; rw [hd2])
      have HD2 := Lib.hid hd2
      clear hd hd2 h hp hB hne
      go_enter Tryz.func131, Tryz.ntmps131
      go_upto_region 1 with (fail)
      refine wp_named fun w1 hq => ?_
      obtain ⟨bA, eA⟩ : ∃ b, b = w.heap.size := ⟨_, rfl⟩
      have RA := Lib.hid (show Row w1 bA 67 [.int .i64 0, .int .i64 0] from by rw [hq, eA]; exact Row.new w _ _)
      have BB := Lib.hid (show Below w.heap.size w w1 by rw [hq]; (repeat' first | exact Below.refl _ _ | assumption | (refine below_drewN ?_ _) | (refine Below.drew ?_) | (refine Below.alloc ?_ ?_ _) | (refine Below.setCell ?_ ?_ _) | (simp; done) | (simp; omega) | omega))
      replace RR := Lib.hid (RR.out.next BB.out)
      replace RX := Lib.hid (RX.out.next BB.out)
      have HA := Lib.hid (show b ≠ bA by have := HL.out; omega)
      have HAS := Lib.hid (show w.heap.size ≤ bA by omega)
      rw [← eA]
      clear hq eA
      have x0 := RX.out.cell 0
      have lx := RX.out.lt
      simp only [List.getElem?_cons_zero, List.getElem?_cons_succ] at x0
      have a0 := RA.out.cell 0
      have a1 := RA.out.cell 1
      have la := RA.out.lt
      simp only [List.getElem?_cons_zero, List.getElem?_cons_succ] at a0 a1
      have fa0 := RA.out.frozen 0
      have fa1 := RA.out.frozen 1
      go_region_with (first
        | (go_at_call 128; (with_reducible refine Calls.mono (RP.int (CI.out q _ RR3.out HQ.out) HD2.out) ?_); rintro e w4 ⟨rfl, hr, hg⟩; have RR4 := Lib.hid hr; have HG4 := Lib.hid (gr_trans HG3.out hg); have RX4 := Lib.hid (gr_row RX3.out hg HE.out); have x4 := RX4.out.cell 0; simp only [List.getElem?_cons_zero] at x4; have RA4 := Lib.hid (gr_row RA3.out hg HA.out); have a40 := RA4.out.cell 0; have a41 := RA4.out.cell 1; have fa40 := RA4.out.frozen 0; have fa41 := RA4.out.frozen 1; have la4 := RA4.out.lt; simp only [List.getElem?_cons_zero, List.getElem?_cons_succ] at a40 a41; clear hr hg)
        | (go_at_call 128; (with_reducible refine Calls.mono (RP.int (CI.out p _ (RR.out.next (by (repeat' first | exact Below.refl _ _ | assumption | (refine below_drewN ?_ _) | (refine Below.drew ?_) | (refine Below.alloc ?_ ?_ _) | (refine Below.setCell ?_ ?_ _) | (simp; done) | (simp; omega) | omega))) HP.out) HD1.out) ?_); rintro e w3 ⟨rfl, hr, hg⟩; have RR3 := Lib.hid hr; have HG3 := Lib.hid (show w.grownBy w3 (some b) from gr_trans (gr_trans (gr_below _ BB.out) (gr_below _ (by (repeat' first | exact Below.refl _ _ | assumption | (refine below_drewN ?_ _) | (refine Below.drew ?_) | (refine Below.alloc ?_ ?_ _) | (refine Below.setCell ?_ ?_ _) | (simp; done) | (simp; omega) | omega)))) hg); have RX3 := Lib.hid (gr_row (RX.out.next (by (repeat' first | exact Below.refl _ _ | assumption | (refine below_drewN ?_ _) | (refine Below.drew ?_) | (refine Below.alloc ?_ ?_ _) | (refine Below.setCell ?_ ?_ _) | (simp; done) | (simp; omega) | omega))) hg HE.out); have x3 := RX3.out.cell 0; have RA3 := Lib.hid (gr_row (RA.out.next (by (repeat' first | exact Below.refl _ _ | assumption | (refine below_drewN ?_ _) | (refine Below.drew ?_) | (refine Below.alloc ?_ ?_ _) | (refine Below.setCell ?_ ?_ _) | (simp; done) | (simp; omega) | omega))) hg HA.out); simp only [List.getElem?_cons_zero] at x3; clear hr hg))
      all_goals
        go_wp2_with fail
        refine bodyPost_named fun WW hq => ?_
        have RXn := Lib.hid (show Row WW _ _ _ from by rw [hq]; exact (RA4.out.set 0 (.int .i64 n)).set 1 (.int .i64 m))
        have RRW := Lib.hid (show Rd WW b s x from by rw [hq]; exact (Row.other RR4.out HA.out _ _).other HA.out _ _)
        have GW := Lib.hid (show w.grownBy WW (some b) from by rw [hq]; exact gr_setnew (gr_setnew HG4.out HAS.out _ _) HAS.out _ _)
        clear hq
        have xr0 := RXn.out.cell 0
        have xr1 := RXn.out.cell 1
        simp only [List.set_cons_zero, List.set_cons_succ, List.getElem?_cons_zero, List.getElem?_cons_succ] at xr0 xr1
        refine bodyPost_ret (v := .agg #[.int .i64 n, .int .i64 m]) (by first | (simp [results, Tryz.results131, go_sem]; done) | simp [results, Tryz.results131, go_sem, *]) rfl (by rw [HD.out]; exact ⟨⟨_, rfl, rfl⟩, RRW.out, GW.out⟩)
end Rd
end Go.Proofs.YthjolojpjajppaaGreat
