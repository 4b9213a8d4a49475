/- the reference's Moment: its walk. -/
import Derived.Test.YthjolojpjajppaaGreatLbME
import Derived.Deep.RegionHeld3
set_option linter.unusedVariables false
set_option linter.unusedSimpArgs false
set_option linter.unnecessarySimpa false
namespace Go.Proofs.YthjolojpjajppaaGreat
open Go.RowKit
namespace Lb
open Sq
set_option maxRecDepth 100000 in
set_option maxHeartbeats 8000000 in
theorem Moment_any (x0 x1 x2 x3 x4 : Int) (w : World) (h0 : inM1 x0) (h1 : inM1 x1) (h2 : inM1 x2) (h3 : inM1 x3) (h4 : inM1 x4) :
    Calls Tryz.prog 22 #[.agg #[.int .i64 x0, .int .i64 x1, .int .i64 x2, .int .i64 x3, .int .i64 x4]] w fun e w' => (∃ m : Mo, e = .returned m.v ∧ m.own w' w.heap.size ∧ Vm m ∧ m.now ≤ 390 ∧ m.drift ≤ 14) ∧ Below w.heap.size w w' := by
  have P0 := Lib.hid (fun W => rpick_any x0 40 W h0 (by decide) (by decide))
  have P1 := Lib.hid (fun W => rpick_any x1 3 W h1 (by decide) (by decide))
  have P3 := Lib.hid (fun W => rpick_any x3 16 W h3 (by decide) (by decide))
  have PQ := Lib.hid (fun W => rpick_any (x3.tdiv 16) 5 W (tdiv_in h3 (by decide)) (by decide) (by decide))
  have C2 := Lib.hid (fun W => chosen_any x2 5 W h2 (by decide))
  have C4 := Lib.hid (fun W => chosen_any x4 6 W h4 (by decide))
  obtain ⟨D0, e0⟩ : ∃ D, pickZ x0 40 = D := ⟨_, rfl⟩
  obtain ⟨D1, e1⟩ : ∃ D, pickZ x1 3 = D := ⟨_, rfl⟩
  obtain ⟨P, eP⟩ : ∃ D, pickZ x3 16 = D := ⟨_, rfl⟩
  obtain ⟨p, ep⟩ : ∃ D, pickZ (x3.tdiv 16) 5 = D := ⟨_, rfl⟩
  obtain ⟨l1, el1⟩ : ∃ l, chs (pickZ x2 1073741824) 5 = l := ⟨_, rfl⟩
  obtain ⟨l2, el2⟩ : ∃ l, chs (pickZ x4 1073741824) 6 = l := ⟨_, rfl⟩
  have b0 := pick_in x0 (n := 40) (by decide)
  have b1 := pick_in x1 (n := 3) (by decide)
  have bP := (pick_in x3 (n := 16) (by decide)).1
  have bp := pick_in (x3.tdiv 16) (n := 5) (by decide)
  have N1 := Lib.hid (chs_num (pickZ x2 1073741824) (n := 5) (b := 19) (by decide))
  have N2 := Lib.hid (chs_num (pickZ x4 1073741824) (n := 6) (b := 19) (by decide))
  rw [e0] at P0 b0
  rw [e1] at P1 b1
  rw [eP] at P3 bP
  rw [ep] at PQ bp
  rw [el1] at C2 N1
  rw [el2] at C4 N2
  clear e0 e1 eP ep el1 el2
  have HT := Lib.hid (tdiv_in (n := 16) h3 (by decide))
  have HD := Lib.hid (show 0 ≤ D0 ∧ D0 < 40 ∧ 0 ≤ D1 ∧ D1 < 3 from ⟨b0.1, b0.2, b1.1, b1.2⟩)
  have HB := Lib.hid bp
  have HW := Lib.hid (show IntKind.i64.wrap (D0 * 10) = D0 * 10 ∧ IntKind.i64.wrap (D1 * 7) = D1 * 7 by rw [IntKind.wrap_i64, IntKind.wrap_i64]; omega)
  clear h0 h1 h2 h3 h4 b0 b1 bp
  go_enter Tryz.func22, Tryz.ntmps22
  go_upto_region 1 with (fail)
  refine wp_named fun w1 hq => ?_
  obtain ⟨bx, ex⟩ : ∃ b, b = w.heap.size := ⟨_, rfl⟩
  obtain ⟨bR, eR⟩ : ∃ b, b = w.heap.size + 1 := ⟨_, rfl⟩
  obtain ⟨r0, r1, hB, hs⟩ := rows2 w 23 30 [.int .i64 x0, .int .i64 x1, .int .i64 x2, .int .i64 x3, .int .i64 x4] zC5 w1 hq
  rw [← eR, ← ex]
  rw [← ex] at r0
  rw [← eR] at r1
  have HN := Lib.hid (show bx < w1.heap.size ∧ bR < w1.heap.size ∧ w.heap.size ≤ bx ∧ w.heap.size ≤ bR ∧ bx ≠ bR by omega)
  have RX := Lib.hid r0
  have RR := Lib.hid r1
  have BB := Lib.hid hB
  clear hq ex eR r0 r1 hB hs
  have a0 := RX.out.cell 0
  have a1 := RX.out.cell 1
  have a2 := RX.out.cell 2
  have a4 := RX.out.cell 4
  have la := RX.out.lt
  simp only [List.getElem?_cons_zero, List.getElem?_cons_succ] at a0 a1 a2 a4
  go_cut [3] (fun t3 wx => ∃ bl o c o2 c2, t3 = ptV bl ∧ w1.heap.size ≤ bl ∧ NG w wx bx bR bl [.int .i64 x0, .int .i64 x1, .int .i64 x2, .int .i64 x3, .int .i64 x4] (evM (D0 * 10) (D1 * 7) o l1.length c l1 o2 l2.length c2 l2))
  case first =>
    (go_region_held3 (fun W => W.cell? ⟨bx, 0, none⟩ = some (.int .i64 x0) ∧ W.cell? ⟨bx, 1, none⟩ = some (.int .i64 x1) ∧ W.cell? ⟨bx, 2, none⟩ = some (.int .i64 x2) ∧ W.cell? ⟨bx, 4, none⟩ = some (.int .i64 x4)) (first | exact ⟨by with_reducible assumption, by with_reducible assumption, by with_reducible assumption, by with_reducible assumption⟩ | with_reducible exact ⟨far5 (by have := HN.out.1; have := BB4.out.size; have := BB5.out.size; first | omega | (simp; omega)) (by with_reducible assumption), far5 (by have := HN.out.1; have := BB4.out.size; have := BB5.out.size; first | omega | (simp; omega)) (by with_reducible assumption), far5 (by have := HN.out.1; have := BB4.out.size; have := BB5.out.size; first | omega | (simp; omega)) (by with_reducible assumption), far5 (by have := HN.out.1; have := BB4.out.size; have := BB5.out.size; first | omega | (simp; omega)) (by with_reducible assumption)⟩ | go_keep) (first
      | (go_at_call 37; first | ((with_reducible refine Calls.mono (P0.out _) ?_); rintro e w2 ⟨rfl, rfl⟩) | ((with_reducible refine Calls.mono (P1.out _) ?_); rintro e w2 ⟨rfl, rfl⟩))
      | (go_at_call 38; (with_reducible refine Calls.mono (C2.out _) ?_); rintro e w4 ⟨⟨v4, rfl, hv⟩, hb⟩; obtain ⟨o4, c4, rfl, -⟩ := own_sv hv; have BB4 := Lib.hid (show Below w1.heap.size w1 w4 from Below.andThen (by (repeat' first | exact Below.refl _ _ | assumption | (refine below_drewN ?_ _) | (refine Below.drew ?_) | (refine Below.alloc ?_ ?_ _) | (refine Below.setCell ?_ ?_ _) | (simp; done) | (simp; omega) | omega)) hb); have OW4 := Lib.hid (show Sq.Own intE 3 w4 w.heap.size (.slice o4 l1.length c4) l1 from Sq.Own.lower hv (by have := BB.out.size; simp; try omega)); have RX4 := Lib.hid (RX.out.next BB4.out); have RR4 := Lib.hid (RR.out.next BB4.out); clear a0 a1 a2 a4 la; have a0 := RX4.out.cell 0; have a1 := RX4.out.cell 1; have a2 := RX4.out.cell 2; have a4 := RX4.out.cell 4; have la := RX4.out.lt; simp only [List.getElem?_cons_zero, List.getElem?_cons_succ] at a0 a1 a2 a4; (first | (have RL4 := Lib.hid (show Row w4 w1.heap.size 30 zC5 from by with_reducible exact row_zero5 hb (by simp))) | skip); clear hv hb)
      | (go_at_call 38; (with_reducible refine Calls.mono (C4.out _) ?_); rintro e w5 ⟨⟨v5, rfl, hv⟩, hb⟩; obtain ⟨o5, c5, rfl, -⟩ := own_sv hv; have BB5 := Lib.hid (show Below w4.heap.size w4 w5 from Below.andThen (by (repeat' first | exact Below.refl _ _ | assumption | (refine below_drewN ?_ _) | (refine Below.drew ?_) | (refine Below.alloc ?_ ?_ _) | (refine Below.setCell ?_ ?_ _) | (simp; done) | (simp; omega) | omega)) hb); have BZ5 := Lib.hid (Below.andThen BB.out (Below.andThen BB4.out BB5.out)); have OK5 := Lib.hid (show Sq.Own intE 3 w5 w.heap.size (.slice o5 l2.length c5) l2 from Sq.Own.lower hv (by have := BB.out.size; have := BB4.out.size; simp; try omega)); have OW5 := Lib.hid (OW4.out.next BB5.out); have RX5 := Lib.hid (RX4.out.next BB5.out); have RR5 := Lib.hid (RR4.out.next BB5.out); clear a0 a1 a2 a4 la; have a0 := RX5.out.cell 0; have a1 := RX5.out.cell 1; have a2 := RX5.out.cell 2; have a4 := RX5.out.cell 4; have la := RX5.out.lt; simp only [List.getElem?_cons_zero, List.getElem?_cons_succ] at a0 a1 a2 a4; (first | (have RL5 := Lib.hid (RL4.out.next BB5.out); have HL5 := Lib.hid (show w1.heap.size ≤ w1.heap.size ∧ bx ≠ w1.heap.size ∧ bR ≠ w1.heap.size from ⟨Nat.le_refl _, Nat.ne_of_lt HN.out.1, Nat.ne_of_lt HN.out.2.1⟩)) | (have RL5 := Lib.hid (show Row w5 w4.heap.size 30 zC5 from by with_reducible exact row_zero5b hb); have HL5 := Lib.hid (show w1.heap.size ≤ w4.heap.size ∧ bx ≠ w4.heap.size ∧ bR ≠ w4.heap.size by have := BB4.out.size; have := HN.out; omega)) | skip); (first | (have l50 := RL5.out.cell 0; have l51 := RL5.out.cell 1; have l52 := RL5.out.cell 2; have l53 := RL5.out.cell 3; have l54 := RL5.out.cell 4; have fl50 := RL5.out.frozen 0; have fl51 := RL5.out.frozen 1; have fl52 := RL5.out.frozen 2; have fl53 := RL5.out.frozen 3; have fl54 := RL5.out.frozen 4; have ll5 := RL5.out.lt; simp only [List.getElem?_cons_zero, List.getElem?_cons_succ] at l50 l51 l52 l53 l54) | skip); clear hv hb)))
    all_goals
      go_wp2_with fail
      go_meet
      refine ⟨_, o4, c4, o5, c5, rfl, ?_⟩
      rw [HW.out.1, HW.out.2]
      first
        | exact ⟨Nat.le_trans BB4.out.size BB5.out.size, by with_reducible exact ng_new RX5.out RR5.out OW5.out OK5.out BZ5.out⟩
        | exact ⟨HL5.out.1, by with_reducible exact ng_set RX5.out RR5.out RL5.out OW5.out OK5.out BZ5.out HL5.out.2.1 HL5.out.2.2 (Nat.le_trans BB.out.size HL5.out.1)⟩
        | (trace_state; sorry)
  obtain ⟨bl, o, c, o2, c2, rfl, hl, hM⟩ := hcut
  rename World => w2
  have M2 := Lib.hid hM
  have HP := Lib.hid (show bx ≠ bl ∧ bR ≠ bl ∧ w.heap.size ≤ bl by have := HN.out; have := BB.out.size; omega)
  clear hM hl a0 a1 a2 a4 la RX RR P0 P1 C2 C4 HW
  go_wp2_with fail
  go_loopw [4] (fun jv wr => ∃ (k : Nat) (o5 : Option Addr) (n5 c5 : Nat), jv = .int .i64 k ∧ k ≤ 4 ∧ NG w wr bx bR bl [.int .i64 x0, .int .i64 x1, .int .i64 x2, .int .i64 x3, .int .i64 x4] ⟨D0 * 10, D1 * 7, o, l1.length, c, l1, o5, n5, c5, cfL P p k, o2, l2.length, c2, l2⟩) (fun jv _ => 4 - (intOf jv).toNat)
  case atStart => exact ⟨0, none, 0, 0, rfl, Nat.zero_le _, M2.out⟩
  case round =>
    obtain ⟨k, o5, n5, c5, rfl, hk, hM⟩ := hrel
    rename World => wr
    clear M2
    have M := Lib.hid hM
    have HLN := Lib.hid (show (cfL P p k).length = n5 from (own_sv' hM.ow.2.1).len)
    have HLC := Lib.hid (cfL_len P p k)
    clear hM
    have RX := Lib.hid M.out.rx
    have RL := Lib.hid M.out.rl
    unfold Mo.cells at RL
    by_cases hlt : k < 4
    · obtain ⟨z, hz⟩ : ∃ z, bitZ P k = z := ⟨_, rfl⟩
      have f1 := bits_f bP hz
      have a3 := RX.out.cell 3
      have la := RX.out.lt
      simp only [List.getElem?_cons_zero, List.getElem?_cons_succ] at a3
      have d3 := RL.out.cell 3
      have ld := RL.out.lt
      simp only [List.getElem?_cons_zero, List.getElem?_cons_succ] at d3
      have fd3 := RL.out.frozen 3
      cases z with
      | true =>
        have HF := Lib.hid (cfL_next (p := p) hz)
        have HN5 := Lib.hid (show n5 ≤ 4 by have := HLN.out; have := HLC.out; omega)
        clear hz
        go_upto_region 6 with (go_at_call 37; (with_reducible refine Calls.mono (P3.out _) ?_); rintro e w2 ⟨rfl, rfl⟩)
        have HA := Lib.hid (show Below wr.heap.size wr (wr.drew.alloc (.cells #[.int .i64 k, .int .i64 p] 67)) by (repeat' first | exact Below.refl _ _ | assumption | (refine below_drewN ?_ _) | (refine Below.drew ?_) | (refine Below.alloc ?_ ?_ _) | (refine Below.setCell ?_ ?_ _) | (simp; done) | (simp; omega) | omega))
        have hw2 : IntKind.i64.wrap (x3.tdiv 16) = x3.tdiv 16 := by have := HT.out; unfold inM1 at this; rw [IntKind.wrap_i64]; omega
        go_region_law (first
          | (refine step_append tyC rfl (.tmp 32) (.tmp 39) rfl w.heap.size (.slice o5 n5 c5) (cfL P p k) rfl (M.out.ow.2.1.next HA.out) (some ⟨wr.heap.size, 0, none⟩) 1 1 [⟨(k : Int), p⟩] rfl rfl (fun h => by cases h) (sl_new cnE wr.drew _ [⟨(k : Int), p⟩]) (by have h1 := HLN.out; have h2 := HN5.out; clear hw2; omega) (by have h1 := M.out.below.size; clear hw2; simp; omega) ?_; intro v4 w4 ho hg; rw [← HF.out] at ho; obtain ⟨o4, c4, rfl, -⟩ := own_sv ho; have HO4 := Lib.hid ho; have HG4 := Lib.hid hg; have RL4 := Lib.hid (row_beside (M.out.rl.next HA.out) (M.out.ow.2.1.next HA.out) (by decide) hg); clear ho hg; clear d3 fd3 ld; have d3 := RL4.out.cell 3; have fd3 := RL4.out.frozen 3; have ld := RL4.out.lt; unfold Mo.cells at d3; simp only [List.getElem?_cons_zero, List.getElem?_cons_succ] at d3)
          | (go_simp; go_at_call 37; (with_reducible refine Calls.mono (PQ.out _) ?_); rintro e w2 ⟨rfl, rfl⟩))
        all_goals
          clear hw2
          have M4 := Lib.hid (ng_app M.out HA.out HG4.out HO4.out HP.out.1 HP.out.2.1 HP.out.2.2)
          go_wp2_with fail
          go_roundw
          case rel => exact ⟨k + 1, o4, _, c4, by go_num, by omega, M4.out⟩
          case measure => first | (simp [intOf]; done) | (simp [intOf]; omega)
      | false =>
        have HF := Lib.hid (cfL_same (p := p) hz)
        clear hz
        go_wp2_with (go_at_call 37; (with_reducible refine Calls.mono (P3.out _) ?_); rintro e w2 ⟨rfl, rfl⟩)
        go_roundw
        case rel => exact ⟨k + 1, o5, n5, c5, by go_num, by omega, by rw [HF.out]; exact M.out⟩
        case measure => first | (simp [intOf]; done) | (simp [intOf]; omega)
    · obtain rfl : k = 4 := by omega
      have RR := Lib.hid M.out.rr
      have d0 := RL.out.cell 0
      have d1 := RL.out.cell 1
      have d2 := RL.out.cell 2
      have d3 := RL.out.cell 3
      have d4 := RL.out.cell 4
      have ld := RL.out.lt
      simp only [List.getElem?_cons_zero, List.getElem?_cons_succ] at d0 d1 d2 d3 d4
      have r0 := RR.out.cell 0
      have r1 := RR.out.cell 1
      have r2 := RR.out.cell 2
      have r3 := RR.out.cell 3
      have r4 := RR.out.cell 4
      have lr := RR.out.lt
      simp only [List.getElem?_cons_zero, List.getElem?_cons_succ] at r0 r1 r2 r3 r4
      have fr0 := RR.out.frozen 0
      have fr1 := RR.out.frozen 1
      have fr2 := RR.out.frozen 2
      have fr3 := RR.out.frozen 3
      have fr4 := RR.out.frozen 4
      have HV := Lib.hid (moment_vm (P := P) (eo := o) (en := l1.length) (ec := c) (co := o5) (cn := n5) (cc := c5) (ko := o2) (kn := l2.length) (kc := c2) HD.out N1.out N2.out HB.out)
      have HV2 := Lib.hid (show D0 * 10 ≤ 390 ∧ D1 * 7 ≤ 14 by have := HD.out; omega)
      go_wp2_with fail
      refine bodyPost_named fun WW hq => ?_
      have RXn := Lib.hid (show Row WW _ _ _ from by rw [hq]; exact (((((RR.out.set 0 (.int .i64 (D0 * 10))).set 1 (.int .i64 (D1 * 7))).set 2 (.slice o l1.length c)).set 3 (.slice o5 n5 c5)).set 4 (.slice o2 l2.length c2)))
      have BB6 := Lib.hid (show Below w.heap.size w WW from by rw [hq]; exact set5_below M.out.below HN.out.2.2.2.1)
      have OW6 := Lib.hid (show Mo.own WW w.heap.size ⟨D0 * 10, D1 * 7, o, l1.length, c, l1, o5, n5, c5, cfL P p 4, o2, l2.length, c2, l2⟩ from by rw [hq]; exact mo_set5 M.out.ow RR.out)
      clear hq
      have xr0 := RXn.out.cell 0
      have xr1 := RXn.out.cell 1
      have xr2 := RXn.out.cell 2
      have xr3 := RXn.out.cell 3
      have xr4 := RXn.out.cell 4
      simp only [List.set_cons_zero, List.set_cons_succ, List.getElem?_cons_zero, List.getElem?_cons_succ] at xr0 xr1 xr2 xr3 xr4
      refine bodyPost_ret (v := .agg #[.int .i64 (D0 * 10), .int .i64 (D1 * 7), .slice o l1.length c, .slice o5 n5 c5, .slice o2 l2.length c2]) (by first | (simp [results, Tryz.results22, go_sem]; done) | simp [results, Tryz.results22, go_sem, *]) rfl ⟨⟨⟨D0 * 10, D1 * 7, o, l1.length, c, l1, o5, n5, c5, cfL P p 4, o2, l2.length, c2, l2⟩, rfl, OW6.out, HV.out, HV2.out.1, HV2.out.2⟩, BB6.out⟩
end Lb
end Go.Proofs.YthjolojpjajppaaGreat
