/- label.readLabel: the walk. -/
import Derived.Test.YthjolojpjajppaaGreatLGE
import Derived.Deep.DeepCutAuto
set_option linter.unusedVariables false
set_option linter.unusedSimpArgs false
set_option linter.unnecessarySimpa false
namespace Go.Proofs.YthjolojpjajppaaGreat
open Go.RowKit
namespace Rd
open Sq
open Lb (bodyPost_named La pK)
/-- behind the first part of readLabel -/
def CP (w w1 : World) (b bX bR : Nat) (s : ByteArray) (q2 till : Int) (ev : List Int) (bL : Nat) (o : Option Addr) (c : Nat) (wx : World) : Prop :=
  Sq.Own Lb.intE 3 wx w.heap.size (.slice o ev.length c) ev ∧ Row wx bL 28 [.int .i64 till, .slice o ev.length c, .slice none 0 0, .int .i64 0, .int .i64 0, .slice none 0 0] ∧ Rd wx b s q2 ∧ w.grownBy wx (some b) ∧ w1.heap.size ≤ bL ∧ Row wx bX 145 [ptV b] ∧ Row wx bR 28 zC
section
variable {w w1 w4 : World} {b bX bR bL c : Nat} {s : ByteArray} {q2 till : Int} {ev : List Int} {o : Option Addr}
theorem endA (h1 : Sq.Own Lb.intE 3 w4 w.heap.size (.slice o ev.length c) ev) (h2 : Rd w4 b s q2) (h3 : w.grownBy w4 (some b)) (h4 : w1.heap.size ≤ w4.heap.size) (h5 : Row w4 bX 145 [ptV b]) (h6 : Row w4 bR 28 zC) :
    CP w w1 b bX bR s q2 till ev w4.heap.size o c (w4.alloc (.cells #[.int .i64 till, .slice o ev.length c, .slice none 0 0, .int .i64 0, .int .i64 0, .slice none 0 0] 28)) :=
  have hb := (Below.refl w4.heap.size w4).alloc (Nat.le_refl _) (.cells [.int .i64 till, .slice o ev.length c, .slice none 0 0, .int .i64 0, .int .i64 0, .slice none 0 0].toArray 28)
  ⟨h1.next hb, Row.new _ _ _, h2.next hb, gr_trans h3 (gr_below _ hb), h4, h5.alloc _, h6.alloc _⟩
theorem apart4 (h : b ≠ bX ∧ b ≠ bR ∧ bX ≠ bR ∧ w.heap.size ≤ bX ∧ w.heap.size ≤ bR ∧ bX < w1.heap.size ∧ bR < w1.heap.size ∧ b < w1.heap.size) (k : w1.heap.size ≤ bL) : b ≠ bL ∧ bX ≠ bL ∧ bR ≠ bL ∧ w.heap.size ≤ bL := by omega
theorem endS (h1 : Sq.Own Lb.intE 3 w4 w.heap.size (.slice o ev.length c) ev) (h2 : Rd w4 b s q2) (h3 : w.grownBy w4 (some b)) (h4 : w1.heap.size ≤ bL) (h5 : Row w4 bX 145 [ptV b]) (h6 : Row w4 bR 28 zC)
    (h7 : Row w4 bL 28 zC) (n1 : b ≠ bL) (n2 : bX ≠ bL) (n3 : bR ≠ bL) (n4 : w.heap.size ≤ bL) :
    CP w w1 b bX bR s q2 till ev bL o c ((((((w4.setCell ⟨bL, 0, none⟩ (.int .i64 till)).setCell ⟨bL, 1, none⟩ (.slice o ev.length c)).setCell ⟨bL, 2, none⟩ (.slice none 0 0)).setCell ⟨bL, 3, none⟩ (.int .i64 0)).setCell ⟨bL, 4, none⟩ (.int .i64 0)).setCell ⟨bL, 5, none⟩ (.slice none 0 0)) :=
  ⟨Lb.own_set6 h1 h7 (by decide) _ _ _ _ _ _, (((((h7.set 0 _).set 1 _).set 2 _).set 3 _).set 4 _).set 5 _, (((((Row.other h2 n1 _ _).other n1 _ _).other n1 _ _).other n1 _ _).other n1 _ _).other n1 _ _,
    gr_setnew (gr_setnew (gr_setnew (gr_setnew (gr_setnew (gr_setnew h3 n4 _ _) n4 _ _) n4 _ _) n4 _ _) n4 _ _) n4 _ _, h4, (((((h5.other n2 _ _).other n2 _ _).other n2 _ _).other n2 _ _).other n2 _ _).other n2 _ _, (((((h6.other n3 _ _).other n3 _ _).other n3 _ _).other n3 _ _).other n3 _ _).other n3 _ _⟩
end
set_option maxRecDepth 100000 in
set_option maxHeartbeats 8000000 in
theorem label_ok (b : Nat) (s : ByteArray) (p : Int) (w : World) (h : Rd w b s p) (hs : s.size ≤ 1000000) (hp : inI p) (till q1 : Int) (ev : List Int) (q2 : Int) (hd1 : dI s p = some (till, q1)) (hd2 : dL s (dI s) 20 q1 = some (ev, q2)) :
    Calls Tryz.prog 87 #[ptV b] w (RP b s w (laV w.heap.size) (dLab s p)) := by
  have hmf : ∀ (fn : Fn) (first cap : Array Value) (w : World), (Instr.makeFunc fn first cap).run Tryz.prog w = .ok (.func fn first cap) w := fun _ _ _ _ => rfl
  have CI := Lib.hid (fun q W (hr : Rd W b s q) (hq : inI q) => int_any b s q W hr hs hq)
  have CL := Lib.hid (fun q W (hr : Rd W b s q) (hq : inI q) => List_any b s 20 q W hr hs hq (by decide))
  have HSZ := Lib.hid hs
  have HP := Lib.hid hp
  have HL := Lib.hid (show b < w.heap.size from Row.lt h)
  obtain ⟨D, hD⟩ : ∃ D, dLab s p = D := ⟨_, rfl⟩
  rw [hD]
  unfold dLab at hD
  rw [hd1] at hD
  dsimp only at hD
  rw [hd2] at hD
  dsimp only at hD
  have HD1 := Lib.hid hd1
  have HQ1 := Lib.hid (dI_in hs hd1)
  have HD2 := Lib.hid hd2
  have HQ2 := Lib.hid (dL_in hs (fun q a x hq => dI_in hs hq) hd2)
  have HDD := Lib.hid hD
  clear hd1 hd2 hD
  have RR := Lib.hid h
  clear h hs hp
  go_enter Tryz.func87, Tryz.ntmps87
  go_upto_region 1 with (fail)
  refine wp_named fun w1 hq => ?_
  obtain ⟨bX, eX⟩ : ∃ b, b = w.heap.size := ⟨_, rfl⟩
  obtain ⟨bR, eR⟩ : ∃ b, b = w.heap.size + 1 := ⟨_, rfl⟩
  obtain ⟨r0, r1, hB, hz⟩ := rows2' w 145 28 [ptV b] zC w1 hq
  have HE := Lib.hid (show b ≠ bX ∧ b ≠ bR ∧ bX ≠ bR ∧ w.heap.size ≤ bX ∧ w.heap.size ≤ bR ∧ bX < w1.heap.size ∧ bR < w1.heap.size ∧ b < w1.heap.size by have := HL.out; omega)
  rw [← eX] at r0
  rw [← eR] at r1
  rw [← eR, ← eX]
  have RX := Lib.hid r0
  have RT := Lib.hid r1
  have BB := Lib.hid hB
  replace RR := Lib.hid (RR.out.next BB.out)
  clear hq eX eR r0 r1 hB hz
  have x0 := RX.out.cell 0
  simp only [List.getElem?_cons_zero] at x0
  have lx := RX.out.lt
  go_cut [3] (fun t3 wx => ∃ bL o c, t3 = ptV bL ∧ CP w w1 b bX bR s q2 till ev bL o c wx)
  case first =>
    go_region_with (first
      | (go_at_call 129; (with_reducible refine Calls.mono (RP.ok (CL.out q1 _ (RR3.out.next (by (repeat' first | exact Below.refl _ _ | assumption | (refine below_drewN ?_ _) | (refine Below.drew ?_) | (refine Below.alloc ?_ ?_ _) | (refine Below.setCell ?_ ?_ _) | (simp; done) | (simp; omega) | omega))) HQ1.out) HD2.out) ?_); rintro e w4 ⟨⟨v4, rfl, hv⟩, hr, hg⟩; obtain ⟨o4, c4, rfl, -⟩ := Lb.own_sv hv; have HG4 := Lib.hid (show w.grownBy w4 (some b) from gr_trans (gr_trans HG3.out (gr_below _ (by (repeat' first | exact Below.refl _ _ | assumption | (refine below_drewN ?_ _) | (refine Below.drew ?_) | (refine Below.alloc ?_ ?_ _) | (refine Below.setCell ?_ ?_ _) | (simp; done) | (simp; omega) | omega)))) hg); have RR4 := Lib.hid hr; have OW4 := Lib.hid (show Sq.Own Lb.intE 3 w4 w.heap.size (.slice o4 ev.length c4) ev from Sq.Own.lower hv (by have := HG3.out.size; simp; try omega)); have HS4 := Lib.hid (show w3.heap.size ≤ w4.heap.size from Nat.le_trans (by simp) hg.size); have RX4 := Lib.hid (gr_row (RX3.out.next (by (repeat' first | exact Below.refl _ _ | assumption | (refine below_drewN ?_ _) | (refine Below.drew ?_) | (refine Below.alloc ?_ ?_ _) | (refine Below.setCell ?_ ?_ _) | (simp; done) | (simp; omega) | omega))) hg HE.out.1); have RT4 := Lib.hid (gr_row (RT3.out.next (by (repeat' first | exact Below.refl _ _ | assumption | (refine below_drewN ?_ _) | (refine Below.drew ?_) | (refine Below.alloc ?_ ?_ _) | (refine Below.setCell ?_ ?_ _) | (simp; done) | (simp; omega) | omega))) hg HE.out.2.1); (first | (have RL4 := Lib.hid (show Row w4 w1.heap.size 28 zC from gr_row (RL3.out.next (by (repeat' first | exact Below.refl _ _ | assumption | (refine below_drewN ?_ _) | (refine Below.drew ?_) | (refine Below.alloc ?_ ?_ _) | (refine Below.setCell ?_ ?_ _) | (simp; done) | (simp; omega) | omega))) hg (by have := HE.out; show b ≠ w1.heap.size; omega)); have HL4 := Lib.hid (show w1.heap.size ≤ w1.heap.size from Nat.le_refl _)) | (have RL4 := Lib.hid (show Row w4 w3.heap.size 28 zC from gr_row (X := World.alloc w3 (.cells zC.toArray 28)) (Row.new w3 28 zC) hg (by have := HE.out; have := HS3.out; show b ≠ w3.heap.size; omega)); have HL4 := Lib.hid (show w1.heap.size ≤ w3.heap.size from HS3.out)) | skip); (first | (have l40 := RL4.out.cell 0; have l41 := RL4.out.cell 1; have l42 := RL4.out.cell 2; have l43 := RL4.out.cell 3; have l44 := RL4.out.cell 4; have l45 := RL4.out.cell 5; have ll4 := RL4.out.lt; have fl40 := RL4.out.frozen 0; have fl41 := RL4.out.frozen 1; have fl42 := RL4.out.frozen 2; have fl43 := RL4.out.frozen 3; have fl44 := RL4.out.frozen 4; have fl45 := RL4.out.frozen 5; simp only [List.getElem?_cons_zero, List.getElem?_cons_succ] at l40 l41 l42 l43 l44 l45) | skip); clear hv hr hg)
      | (go_at_call 128; (with_reducible refine Calls.mono (RP.int (CI.out p _ (RR.out.next (by (repeat' first | exact Below.refl _ _ | assumption | (refine below_drewN ?_ _) | (refine Below.drew ?_) | (refine Below.alloc ?_ ?_ _) | (refine Below.setCell ?_ ?_ _) | (simp; done) | (simp; omega) | omega))) HP.out) HD1.out) ?_); rintro e w3 ⟨rfl, hr, hg⟩; have RR3 := Lib.hid hr; have HG3 := Lib.hid (show w.grownBy w3 (some b) from gr_trans (gr_trans (gr_below _ BB.out) (gr_below _ (by (repeat' first | exact Below.refl _ _ | assumption | (refine below_drewN ?_ _) | (refine Below.drew ?_) | (refine Below.alloc ?_ ?_ _) | (refine Below.setCell ?_ ?_ _) | (simp; done) | (simp; omega) | omega)))) hg); have HS3 := Lib.hid (show w1.heap.size ≤ w3.heap.size from Nat.le_trans (by simp) hg.size); have RX3 := Lib.hid (gr_row (RX.out.next (by (repeat' first | exact Below.refl _ _ | assumption | (refine below_drewN ?_ _) | (refine Below.drew ?_) | (refine Below.alloc ?_ ?_ _) | (refine Below.setCell ?_ ?_ _) | (simp; done) | (simp; omega) | omega))) hg HE.out.1); have RT3 := Lib.hid (gr_row (RT.out.next (by (repeat' first | exact Below.refl _ _ | assumption | (refine below_drewN ?_ _) | (refine Below.drew ?_) | (refine Below.alloc ?_ ?_ _) | (refine Below.setCell ?_ ?_ _) | (simp; done) | (simp; omega) | omega))) hg HE.out.2.1); have x3 := RX3.out.cell 0; have lx3 := RX3.out.lt; simp only [List.getElem?_cons_zero] at x3; (first | (have RL3 := Lib.hid (show Row w3 w1.heap.size 28 zC from gr_row (X := World.alloc (World.drew w1) (.cells zC.toArray 28)) (Row.new (World.drew w1) 28 zC) hg (by have := HE.out; show b ≠ w1.heap.size; omega))) | skip); clear hr hg))
    all_goals
      go_wp2_with fail
      go_meet
      refine ⟨_, o4, c4, rfl, ?_⟩
      first
        | with_reducible exact endA OW4.out RR4.out HG4.out (Nat.le_trans HS3.out HS4.out) RX4.out RT4.out
        | with_reducible exact endS OW4.out RR4.out HG4.out HL4.out RX4.out RT4.out RL4.out (apart4 HE.out HL4.out).1 (apart4 HE.out HL4.out).2.1 (apart4 HE.out HL4.out).2.2.1 (apart4 HE.out HL4.out).2.2.2
  obtain ⟨bL, o, c, rfl, h1, h2, h3, h4, h5, h6, h7⟩ := hcut
  rename World => w2
  clear x0 lx RR RX RT
  have OE := Lib.hid h1
  have RL := Lib.hid h2
  have RR := Lib.hid h3
  have HG := Lib.hid h4
  have RX := Lib.hid h6
  have RT := Lib.hid h7
  have HN := Lib.hid (show b ≠ bL ∧ bX ≠ bL ∧ bR ≠ bL ∧ w.heap.size ≤ bL by have := HE.out; omega)
  clear h1 h2 h3 h4 h5 h6 h7
  have CM := Lib.hid (ManyC_any bX b s 16 q2 (d1 s) w2 RR.out HSZ.out HQ2.out (by decide) (fun q a x h => d1_in HSZ.out h) (fun q W hr hq hg => cn_read b bX s q W hr HSZ.out hq (gr_row RX.out hg HE.out.1) HE.out.1))
  have x0 := RX.out.cell 0
  have lx := RX.out.lt
  simp only [List.getElem?_cons_zero, List.getElem?_cons_succ] at x0
  cases hc : dL s (d1 s) 16 q2 with
  | none =>
    have HR := Lib.hid (show D = none by have := HDD.out; rw [hc] at this; exact this.symm)
    replace CM := Lib.hid (RP.no CM.out hc)
    clear hc HDD
    go_wp2_with (go_at_call 130; with_reducible refine Calls.mono CM.out ?_; rintro e w3 ⟨rfl, hg⟩; have HG3 := Lib.hid (gr_trans HG.out hg); clear hg)
    rw [HR.out]
    exact ⟨rfl, rfl, HG3.out⟩
  | some r =>
  obtain ⟨cs, q3⟩ := r
  have HQ3 := Lib.hid (dL_in HSZ.out (fun q a x h => d1_in HSZ.out h) hc)
  replace CM := Lib.hid (RP.ok CM.out hc)
  have hDD := HDD.out
  rw [hc] at hDD
  dsimp only at hDD
  replace HDD := Lib.hid hDD
  clear hDD hc
  go_upto_region 3 with (go_at_call 130; (with_reducible refine Calls.mono CM.out ?_); rintro e w3 ⟨⟨v, rfl, hv⟩, hr, hg⟩; obtain ⟨o3, c3, rfl, -⟩ := Lb.own_sv hv; have OC3 := Lib.hid (show Sq.Own Lb.cnE 67 w3 w.heap.size _ cs from Sq.Own.lower hv HG.out.size); have OE3 := Lib.hid (gr_own OE.out RR.out (by decide) hg); have RR3 := Lib.hid hr; have HG3 := Lib.hid (gr_trans HG.out hg); have RL3 := Lib.hid (gr_row RL.out hg HN.out.1); have RX3 := Lib.hid (gr_row RX.out hg HE.out.1); have RT3 := Lib.hid (gr_row RT.out hg HE.out.2.1); clear hv hr hg x0 lx; have k2 := RL3.out.cell 2; have fk2 := RL3.out.frozen 2; have kl := RL3.out.lt; simp only [List.getElem?_cons_zero, List.getElem?_cons_succ] at k2)
  refine wp_named fun w4 hq => ?_
  have RL4 := Lib.hid (show Row w4 bL 28 [.int .i64 till, .slice o ev.length c, .slice o3 cs.length c3, .int .i64 0, .int .i64 0, .slice none 0 0] from by rw [hq]; exact RL3.out.set 2 _)
  have RX4 := Lib.hid (show Row w4 bX 145 [ptV b] from by rw [hq]; exact RX3.out.other HN.out.2.1 _ _)
  have RT4 := Lib.hid (show Row w4 bR 28 zC from by rw [hq]; exact RT3.out.other HN.out.2.2.1 _ _)
  have RR4 := Lib.hid (show Rd w4 b s q3 from by rw [hq]; exact Row.other RR3.out HN.out.1 _ _)
  have OE4 := Lib.hid (show Sq.Own Lb.intE 3 w4 w.heap.size (.slice o ev.length c) ev from by rw [hq]; exact Lb.own_set OE3.out RL3.out (by decide))
  have OC4 := Lib.hid (show Sq.Own Lb.cnE 67 w4 w.heap.size (.slice o3 cs.length c3) cs from by rw [hq]; exact Lb.own_set OC3.out RL3.out (by decide))
  have HG4 := Lib.hid (show w.grownBy w4 (some b) from by rw [hq]; exact gr_setnew HG3.out HN.out.2.2.2 _ _)
  clear hq k2 fk2 kl RL RX RT RR OE HG RL3 RX3 RT3 RR3 OE3 OC3 HG3 CM
  have HB4 := Lib.hid (show b < w4.heap.size ∧ bL < w4.heap.size from ⟨Row.lt RR4.out, RL4.out.lt⟩)
  have CN := Lib.hid (Ints_any b w4.heap.size bL 2 28 154 s q3 _ [3, 4] (w4.alloc (.cells #[.pointer (some ⟨bL, 3, none⟩), .pointer (some ⟨bL, 4, none⟩)] 154)) (RR4.out.alloc _) HSZ.out HQ3.out (Row.new w4 154 [pV bL 3, pV bL 4]) (RL4.out.alloc _) (by have := HB4.out; omega) (Ne.symm HN.out.1) (by have := HB4.out; omega) rfl (by decide) (by simp))
  have x0 := RX4.out.cell 0
  have lx := RX4.out.lt
  simp only [List.getElem?_cons_zero, List.getElem?_cons_succ] at x0
  cases hn : dM (dI s) 2 q3 with
  | none =>
    have HR := Lib.hid (show D = none by have := HDD.out; rw [hn] at this; exact this.symm)
    replace CN := Lib.hid (RN.no CN.out hn)
    clear hn HDD
    go_wp2_with (go_at_call 132; with_reducible refine Calls.mono CN.out ?_; rintro e w5 ⟨rfl, hg⟩; have HG5 := Lib.hid (gr_g2 (gr_trans HG4.out (gr_below _ ((Below.refl _ w4).alloc (Nat.le_refl _) _))) hg HN.out.2.2.2); clear hg)
    rw [HR.out]
    exact ⟨rfl, rfl, HG5.out⟩
  | some r =>
  obtain ⟨l, q4⟩ := r
  have HQ4 := Lib.hid (dM_in (fun q a x h => dI_in HSZ.out h) 2 q3 l q4 HQ3.out hn)
  replace CN := Lib.hid (RN.ok CN.out hn)
  have hDD := HDD.out
  rw [hn] at hDD
  dsimp only at hDD
  obtain ⟨tr, cl, rfl⟩ : ∃ tr cl, l = [tr, cl] := dM_two hn
  replace HDD := Lib.hid hDD
  clear hDD hn
  go_upto_region 4 with (go_at_call 132; (with_reducible refine Calls.mono CN.out ?_); rintro e w5 ⟨rfl, hr, hrow, -, hg⟩; have hA := (Below.refl _ w4).alloc (Nat.le_refl _) (.cells #[.pointer (some ⟨bL, 3, none⟩), .pointer (some ⟨bL, 4, none⟩)] 154); have RR5 := Lib.hid hr; have RL5 := Lib.hid (show Row w5 bL 28 [.int .i64 till, .slice o ev.length c, .slice o3 cs.length c3, .int .i64 tr, .int .i64 cl, .slice none 0 0] from hrow); have RX5 := Lib.hid (G2.row (RX4.out.alloc _) hg (Ne.symm HE.out.1) HN.out.2.1); have RT5 := Lib.hid (G2.row (RT4.out.alloc _) hg (Ne.symm HE.out.2.1) HN.out.2.2.1); have OE5 := Lib.hid (G2.own (OE4.out.next hA) (RR4.out.alloc _) (RL4.out.alloc _) (by decide) (by decide) hg); have OC5 := Lib.hid (G2.own (OC4.out.next hA) (RR4.out.alloc _) (RL4.out.alloc _) (by decide) (by decide) hg); have HG5 := Lib.hid (gr_g2 (gr_trans HG4.out (gr_below _ hA)) hg HN.out.2.2.2); clear hr hrow hg hA x0 lx)
  clear RR4 RL4 RX4 RT4 OE4 OC4 HG4 CN HB4
  have CK := Lib.hid (ManyK_any bX b s 4 q4 (d2 s) w5 RR5.out HSZ.out HQ4.out (by decide) (fun q a x h => d2_in HSZ.out h) (fun q W hr hq hg => lk_read b bX s q W hr HSZ.out hq (gr_row RX5.out hg HE.out.1) HE.out.1 w5.heap.size hg.size))
  have x0 := RX5.out.cell 0
  have lx := RX5.out.lt
  simp only [List.getElem?_cons_zero, List.getElem?_cons_succ] at x0
  cases hk : dL s (d2 s) 4 q4 with
  | none =>
    have HR := Lib.hid (show D = none by have := HDD.out; rw [hk] at this; exact this.symm)
    replace CK := Lib.hid (RP.no CK.out hk)
    clear hk HDD
    go_wp2_with (go_at_call 133; with_reducible refine Calls.mono CK.out ?_; rintro e w6 ⟨rfl, hg⟩; have HG6 := Lib.hid (gr_trans HG5.out hg); clear hg)
    rw [HR.out]
    exact ⟨rfl, rfl, HG6.out⟩
  | some r =>
  obtain ⟨ks, q5⟩ := r
  replace CK := Lib.hid (RP.ok CK.out hk)
  have HR := Lib.hid (show D = some (⟨till, ev, cs, tr, cl, ks⟩, q5) by have := HDD.out; rw [hk] at this; exact this.symm)
  clear hk HDD
  go_upto_region 5 with (go_at_call 133; (with_reducible refine Calls.mono CK.out ?_); rintro e w6 ⟨⟨v, rfl, m, hv, hm, hmo⟩, hr, hg⟩; obtain ⟨o6, c6, rfl, -⟩ := Lb.own_sv hv; have OK6 := Lib.hid (show Sq.Own Lb.lkE 70 w6 w.heap.size _ m from Sq.Own.lower hv HG5.out.size); have OQ6 := Lib.hid (show ∀ q ∈ m, q.own w6 w.heap.size from fun q hq => Sq.Own.lower (hmo q hq) HG5.out.size); have HM := Lib.hid hm; have OE6 := Lib.hid (gr_own OE5.out RR5.out (by decide) hg); have OC6 := Lib.hid (gr_own OC5.out RR5.out (by decide) hg); have RR6 := Lib.hid hr; have HG6 := Lib.hid (gr_trans HG5.out hg); have RL6 := Lib.hid (gr_row RL5.out hg HN.out.1); have RT6 := Lib.hid (gr_row RT5.out hg HE.out.2.1); clear hv hm hmo hr hg x0 lx; have k5 := RL6.out.cell 5; have fk5 := RL6.out.frozen 5; have kl := RL6.out.lt; simp only [List.getElem?_cons_zero, List.getElem?_cons_succ] at k5)
  refine wp_named fun w7 hq => ?_
  have RL7 := Lib.hid (show Row w7 bL 28 [.int .i64 till, .slice o ev.length c, .slice o3 cs.length c3, .int .i64 tr, .int .i64 cl, .slice o6 m.length c6] from by rw [hq]; exact RL6.out.set 5 _)
  have RT7 := Lib.hid (show Row w7 bR 28 zC from by rw [hq]; exact RT6.out.other HN.out.2.2.1 _ _)
  have RR7 := Lib.hid (show Rd w7 b s q5 from by rw [hq]; exact Row.other RR6.out HN.out.1 _ _)
  have OZ7 := Lib.hid (show Lb.Lb.own w7 w.heap.size ⟨till, o, ev.length, c, ev, o3, cs.length, c3, cs, tr, cl, o6, m.length, c6, m⟩ from by rw [hq]; exact own_lab1 (z := ⟨till, o, ev.length, c, ev, o3, cs.length, c3, cs, tr, cl, o6, m.length, c6, m⟩) ⟨OE6.out, OC6.out, OK6.out, OQ6.out⟩ RL6.out (by decide) (by decide) (by decide) 5 _)
  have HG7 := Lib.hid (show w.grownBy w7 (some b) from by rw [hq]; exact gr_setnew HG6.out HN.out.2.2.2 _ _)
  clear hq k5 fk5 kl RL6 RT6 RR6 OE6 OC6 OK6 OQ6 HG6 CK RL5 RX5 RT5 RR5 OE5 OC5 HG5
  have l0 := RL7.out.cell 0
  have l1 := RL7.out.cell 1
  have l2 := RL7.out.cell 2
  have l3 := RL7.out.cell 3
  have l4 := RL7.out.cell 4
  have l5 := RL7.out.cell 5
  have ll := RL7.out.lt
  simp only [List.getElem?_cons_zero, List.getElem?_cons_succ] at l0 l1 l2 l3 l4 l5
  have t0 := RT7.out.cell 0
  have t1 := RT7.out.cell 1
  have t2 := RT7.out.cell 2
  have t3 := RT7.out.cell 3
  have t4 := RT7.out.cell 4
  have t5 := RT7.out.cell 5
  have lt := RT7.out.lt
  simp only [List.getElem?_cons_zero, List.getElem?_cons_succ] at t0 t1 t2 t3 t4 t5
  have ft0 := RT7.out.frozen 0
  have ft1 := RT7.out.frozen 1
  have ft2 := RT7.out.frozen 2
  have ft3 := RT7.out.frozen 3
  have ft4 := RT7.out.frozen 4
  have ft5 := RT7.out.frozen 5
  go_wp2_with fail
  refine bodyPost_named fun WW hq => ?_
  have RXn := Lib.hid (show Row WW _ _ _ from by rw [hq]; exact (((((RT7.out.set 0 (.int .i64 till)).set 1 (.slice o ev.length c)).set 2 (.slice o3 cs.length c3)).set 3 (.int .i64 tr)).set 4 (.int .i64 cl)).set 5 (.slice o6 m.length c6))
  have RRW := Lib.hid (show Rd WW b s q5 from by rw [hq]; exact (((((Row.other RR7.out HE.out.2.1 _ _).other HE.out.2.1 _ _).other HE.out.2.1 _ _).other HE.out.2.1 _ _).other HE.out.2.1 _ _).other HE.out.2.1 _ _)
  have HGW := Lib.hid (show w.grownBy WW (some b) from by rw [hq]; exact gr_setnew (gr_setnew (gr_setnew (gr_setnew (gr_setnew (gr_setnew HG7.out HE.out.2.2.2.2.1 _ _) HE.out.2.2.2.2.1 _ _) HE.out.2.2.2.2.1 _ _) HE.out.2.2.2.2.1 _ _) HE.out.2.2.2.2.1 _ _) HE.out.2.2.2.2.1 _ _)
  have OZW := Lib.hid (show Lb.Lb.own WW w.heap.size ⟨till, o, ev.length, c, ev, o3, cs.length, c3, cs, tr, cl, o6, m.length, c6, m⟩ from by rw [hq]; exact own_lab6 OZ7.out RT7.out (by decide) (by decide) (by decide) _ _ _ _ _ _)
  clear hq
  have xr0 := RXn.out.cell 0
  have xr1 := RXn.out.cell 1
  have xr2 := RXn.out.cell 2
  have xr3 := RXn.out.cell 3
  have xr4 := RXn.out.cell 4
  have xr5 := RXn.out.cell 5
  simp only [List.set_cons_zero, List.set_cons_succ, List.getElem?_cons_zero, List.getElem?_cons_succ] at xr0 xr1 xr2 xr3 xr4 xr5
  refine bodyPost_ret (v := .agg #[.int .i64 till, .slice o ev.length c, .slice o3 cs.length c3, .int .i64 tr, .int .i64 cl, .slice o6 m.length c6]) (by first | (simp [results, Tryz.results87, go_sem]; done) | simp [results, Tryz.results87, go_sem, *]) rfl (by rw [HR.out]; exact ⟨⟨_, rfl, ⟨till, o, ev.length, c, ev, o3, cs.length, c3, cs, tr, cl, o6, m.length, c6, m⟩, rfl, by rw [← HM.out]; rfl, OZW.out⟩, RRW.out, HGW.out⟩)
end Rd
end Go.Proofs.YthjolojpjajppaaGreat
