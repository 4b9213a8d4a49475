/- Closed months, in one form; the reference's Close. -/
import Derived.Test.YtnhlhoijajhcjaaDoorBkRE
set_option linter.unusedVariables false
set_option linter.unusedSimpArgs false
set_option linter.unnecessarySimpa false
namespace Go.Proofs.YtnhlhoijajhcjaaDoor
open Go.RowKit
namespace Bk
open Sq
theorem close_u {acc cl m : Int} {l : List Po} {N : Nat} {e : Ending} {w' : World} {B0 : Nat} (hl : l.length = N) (h : (CloseP acc l cl m → ∃ o' c', e = .returned (.tuple #[bookV acc o' N c' (cl + 1), .int .i64 0]) ∧ Sq.Own poE 27 w' B0 (.slice o' N c') l) ∧
      (¬ CloseP acc l cl m → e = .returned (.tuple #[zeroBook, .int .i64 310]))) : BoEr B0 (closeB acc l cl m) e w' := by
  unfold closeB
  by_cases hp : CloseP acc l cl m
  · rw [if_pos hp]
    obtain ⟨o', c', h1, h2⟩ := h.1 hp
    exact ⟨o', N, c', h1, own_bkw h2 hl rfl, fr_own h2⟩
  · rw [if_neg hp]
    exact ⟨none, 0, 0, h.2 hp, bkw_zero _, fun a e => by cases e⟩
theorem Close_u (acc cl m : Int) (o : Option Addr) (N c : Nat) (l : List Po) (w : World) (hN : N ≤ 2 ^ 30) (h : BkW w o N c l) : Calls Tryd.prog 21 #[bookV acc o N c cl, .int .i64 m] w fun e w' => BoEr w.heap.size (closeB acc l cl m) e w' ∧ Below w.heap.size w w' :=
  (Close_any acc cl m o N c l w h.1 hN h.2.1 h.2.2.1 h.2.2.2.1 h.2.2.2.2).mono fun _ _ q => ⟨close_u h.1 q.1, q.2⟩
set_option maxRecDepth 100000 in
set_option maxHeartbeats 8000000 in
theorem rClose_any (acc cl m : Int) (o : Option Addr) (N c : Nat) (l : List Po) (w : World) (hN : N ≤ 2 ^ 30) (h : BkW w o N c l) :
    Calls Tryd.prog 31 #[bookV acc o N c cl, .int .i64 m] w fun e w' => ((CloseP acc l cl m → ∃ o' c', e = .returned (.tuple #[bookV acc o' N c' (cl + 1), .int .i64 0]) ∧ Sq.Own poE 27 w' w.heap.size (.slice o' N c') l) ∧
      (¬ CloseP acc l cl m → e = .returned (.tuple #[zeroBook, .int .i64 310]))) ∧ Below w.heap.size w w' := by
  have BW := Lib.hid h
  have CI := Lib.hid rIn_any
  have CV := Lib.hid (fun W (h : BkW W o N c l) => rValid_any acc cl o N c l W h.1 h.2.2.2.2)
  have HI := Lib.hid (show CloseP acc l cl m ↔ (vd acc l cl = true ∧ m = cl ∧ 0 ≤ m ∧ m < 12) from by unfold CloseP; rw [vd_iff])
  obtain ⟨G, hG⟩ : ∃ G, vd acc l cl = G := ⟨_, rfl⟩
  rw [hG] at CV HI
  clear hG h
  go_enter Tryd.func31, Tryd.ntmps31
  go_upto_region 1 with (fail)
  refine wp_named fun w1 hq => ?_
  obtain ⟨bA, eA⟩ : ∃ b, b = w.heap.size := ⟨_, rfl⟩
  obtain ⟨br, er⟩ : ∃ b, b = w.heap.size + 1 := ⟨_, rfl⟩
  obtain ⟨r0, r1, hB, hs⟩ := rows2 w 24 24 [.int .i64 acc, .slice o N c, .int .i64 cl] [.int .i64 0, .slice none 0 0, .int .i64 0] w1 hq
  have HS := Lib.hid (show w.heap.size ≤ bA ∧ bA < br ∧ br < w1.heap.size by omega)
  rw [← er, ← eA]
  rw [← eA] at r0
  rw [← er] at r1
  have BB := Lib.hid hB
  replace BW := Lib.hid (BW.out.next hB)
  have RA := Lib.hid r0
  have RR := Lib.hid r1
  clear hq er eA hB hs r0 r1
  have hbr : w.heap.size ≤ br := by have := HS.out; omega
  have a0 := RA.out.cell 0
  have a1 := RA.out.cell 1
  have a2 := RA.out.cell 2
  have la := RA.out.lt
  simp only [List.getElem?_cons_zero, List.getElem?_cons_succ] at a0 a1 a2
  go_wp2_with fail
  with_reducible refine Calls.mono (CV.out _ BW.out) ?_
  rintro e w2 ⟨rfl, hb⟩
  replace RA := Lib.hid (RA.out.next hb)
  replace RR := Lib.hid (RR.out.next hb)
  replace BW := Lib.hid (BW.out.next hb)
  replace BB := Lib.hid (Below.andThen BB.out hb)
  have HZ := Lib.hid hb.size
  clear hb CV
  clear a0 a1 a2 la
  have a0 := RA.out.cell 0
  have a1 := RA.out.cell 1
  have a2 := RA.out.cell 2
  have la := RA.out.lt
  simp only [List.getElem?_cons_zero, List.getElem?_cons_succ] at a0 a1 a2
  cases G with
  | false =>
    have HNo := Lib.hid (show ¬ CloseP acc l cl m from fun h => by have := (HI.out.1 h).1; cases this)
    have q0 := RR.out.cell 0
    have q1 := RR.out.cell 1
    have q2 := RR.out.cell 2
    have lq := RR.out.lt
    simp only [List.getElem?_cons_zero, List.getElem?_cons_succ] at q0 q1 q2
    have fq0 := RR.out.frozen 0
    have fq1 := RR.out.frozen 1
    have fq2 := RR.out.frozen 2
    go_wp2_with fail
    clear q0 q1 q2 lq
    refine bodyPost_named fun WW hq => ?_
    have RXn := Lib.hid (show Row WW _ _ _ from by rw [hq]; exact ((RR.out.set 0 (.int .i64 0)).set 1 (.slice none 0 0)).set 2 (.int .i64 0))
    have BB6 := Lib.hid (show Below w.heap.size w WW from by rw [hq]; exact ((BB.out.setCell (p := ⟨br, 0, none⟩) hbr _).setCell (p := ⟨br, 1, none⟩) hbr _).setCell (p := ⟨br, 2, none⟩) hbr _)
    clear hq
    have xr0 := RXn.out.cell 0
    have xr1 := RXn.out.cell 1
    have xr2 := RXn.out.cell 2
    simp only [List.set_cons_zero, List.set_cons_succ, List.getElem?_cons_zero, List.getElem?_cons_succ] at xr0 xr1 xr2
    refine bodyPost_ret (v := .tuple #[zeroBook, .int .i64 310]) (by first | (simp [results, Tryd.results31, go_sem]; done) | simp [results, Tryd.results31, go_sem, *]) rfl ⟨⟨fun h => absurd h HNo.out, fun _ => rfl⟩, BB6.out⟩
  | true =>
    by_cases hm : m = cl
    · subst hm
      by_cases hr : 0 ≤ m ∧ m ≤ 11
      · have hin : decide (0 ≤ m ∧ m ≤ 11) = true := decide_eq_true hr
        have HYe := Lib.hid (show CloseP acc l m m from HI.out.2 ⟨rfl, rfl, by omega, by omega⟩)
        obtain ⟨hm0, hm1⟩ := hr
        go_upto_region 4 with (go_at_call 62; with_reducible refine Calls.mono (CI.out _ _ _ _) ?_; rintro e w' ⟨rfl, rfl⟩)
        refine wp_named fun w3 hq => ?_
        obtain ⟨bX, eX⟩ : ∃ b, b = w2.heap.size := ⟨_, rfl⟩
        have RX := Lib.hid (show Row w3 bX 24 [.int .i64 acc, .slice o N c, .int .i64 m] from by rw [hq, eX]; exact Row.new w2 _ _)
        have hB : Below w2.heap.size w2 w3 := by rw [hq]; (repeat' first | exact Below.refl _ _ | assumption | (refine below_drewN ?_ _) | (refine Below.drew ?_) | (refine Below.alloc ?_ ?_ _) | (refine Below.setCell ?_ ?_ _) | (simp; done) | (simp; omega) | omega)
        replace RA := Lib.hid (RA.out.next hB)
        replace RR := Lib.hid (RR.out.next hB)
        replace BW := Lib.hid (BW.out.next hB)
        replace BB := Lib.hid (Below.andThen BB.out hB)
        have HS3 := Lib.hid (show br < bX ∧ bX < w3.heap.size from ⟨by have := HS.out; have := HZ.out; omega, RX.out.lt⟩)
        rw [← eX]
        clear hq hB eX hin CI
        clear a0 a1 a2 la
        have a0 := RA.out.cell 0
        have a1 := RA.out.cell 1
        have a2 := RA.out.cell 2
        have la := RA.out.lt
        simp only [List.getElem?_cons_zero, List.getElem?_cons_succ] at a0 a1 a2
        have nX : br ≠ bX := by have := HS3.out; omega
        have hbX : w.heap.size ≤ bX := by have := HS3.out; omega
        go_wp2_with (at_builtin; refine wpList_append tyP rfl (.tmp 23) (.tmp 25) rfl w3.heap.size (.slice (some ⟨w3.heap.size, 0, none⟩) 0 0) [] rfl (made_own poE 27 w3 [] (Nat.le_refl _) rfl rfl (by decide)) o N c l rfl BW.out.1 BW.out.2.2.2.1 (BW.out.2.2.2.2.next ((Below.refl _ _).alloc (Nat.le_refl _) _)) (by simp; omega) (by simp) ?_; intro v4 w4 ho hg; rw [List.nil_append] at ho; have HO4 := Lib.hid ho; obtain ⟨o4, c4, rfl, q1, q2, q3, q4⟩ := ho.vw; have RX4 := Lib.hid (keep_row (RX.out.alloc (.cells #[] 27)) hg (fun r e => by have := HS3.out; simp [Value.ownBlock] at e; omega)); have RR4 := Lib.hid (keep_row (RR.out.alloc (.cells #[] 27)) hg (fun r e => by have := HS3.out; simp [Value.ownBlock] at e; omega)); have BB4 := Lib.hid (Below.grown (BB.out.alloc BB.out.size (.cells #[] 27)) hg (by have := BB.out.size; simp; omega) (fun k e => by have := BB.out.size; simp [Value.ownBlock] at e; omega)); clear ho hg q1 q2 q3 q4; rw [BW.out.1] at HO4; try rw [BW.out.1]; have x0 := RX4.out.cell 0; have x1 := RX4.out.cell 1; have x2 := RX4.out.cell 2; have y0 := RR4.out.cell 0; have y1 := RR4.out.cell 1; have y2 := RR4.out.cell 2; simp only [List.getElem?_cons_zero, List.getElem?_cons_succ] at x0 x1 x2 y0 y1 y2; have lx := RX4.out.lt; have ly := RR4.out.lt; have fx1 := RX4.out.frozen 1; have fx2 := RX4.out.frozen 2; have fy0 := RR4.out.frozen 0; have fy1 := RR4.out.frozen 1; have fy2 := RR4.out.frozen 2)
        have HO5 := Lib.hid (show Sq.Own poE 27 (((((w4.setCell ⟨bX, 1, none⟩ (.slice o4 N c4)).setCell ⟨bX, 2, none⟩ (.int .i64 (m + 1))).setCell ⟨br, 0, none⟩ (.int .i64 acc)).setCell ⟨br, 1, none⟩ (.slice o4 N c4)).setCell ⟨br, 2, none⟩ (.int .i64 (m + 1))) w3.heap.size (.slice o4 N c4) l from by
          have h := HO4.out
          have ax := own_apart h RX4.out (by decide)
          have ar := own_apart h RR4.out (by decide)
          exact World.ownsRow.kept (row := some br) (World.ownsRow.kept (row := some br) (World.ownsRow.kept (row := some br) (World.ownsRow.kept (row := some bX) (World.ownsRow.kept (row := some bX) h (grown_at _ bX 1 _) (.inr ax)) (grown_at _ bX 2 _) (.inr ax)) (grown_at _ br 0 _) (.inr ar)) (grown_at _ br 1 _) (.inr ar)) (grown_at _ br 2 _) (.inr ar))
        clear x0 x1 x2 y0 y1 y2 lx ly fx1 fx2 fy0 fy1 fy2
        refine bodyPost_named fun WW hq => ?_
        have RXn := Lib.hid (show Row WW _ _ _ from by rw [hq]; exact (((RR4.out.other nX 1 _).other nX 2 _).set 0 (.int .i64 acc)).set 1 (.slice o4 N c4) |>.set 2 (.int .i64 (m + 1)))
        have HO6 := Lib.hid (show Sq.Own poE 27 WW w3.heap.size (.slice o4 N c4) l from by rw [hq]; exact HO5.out)
        have BB6 := Lib.hid (show Below w.heap.size w WW from by rw [hq]; exact ((((BB4.out.setCell (p := ⟨bX, 1, none⟩) hbX _).setCell (p := ⟨bX, 2, none⟩) hbX _).setCell (p := ⟨br, 0, none⟩) hbr _).setCell (p := ⟨br, 1, none⟩) hbr _).setCell (p := ⟨br, 2, none⟩) hbr _)
        clear hq
        have xr0 := RXn.out.cell 0
        have xr1 := RXn.out.cell 1
        have xr2 := RXn.out.cell 2
        simp only [List.set_cons_zero, List.set_cons_succ, List.getElem?_cons_zero, List.getElem?_cons_succ] at xr0 xr1 xr2
        refine bodyPost_ret (v := .tuple #[bookV acc o4 N c4 (m + 1), .int .i64 0]) (by first | (simp [results, Tryd.results31, go_sem]; done) | simp [results, Tryd.results31, go_sem, *]) rfl ⟨⟨fun _ => ⟨o4, c4, rfl, Sq.Own.lower HO6.out BB.out.size⟩, fun h => absurd HYe.out h⟩, BB6.out⟩
      · have hin : decide (0 ≤ m ∧ m ≤ 11) = false := decide_eq_false hr
        have HNo := Lib.hid (show ¬ CloseP acc l m m from fun h => hr (by have := (HI.out.1 h).2.2; omega))
        clear hr
        have q0 := RR.out.cell 0
        have q1 := RR.out.cell 1
        have q2 := RR.out.cell 2
        have lq := RR.out.lt
        simp only [List.getElem?_cons_zero, List.getElem?_cons_succ] at q0 q1 q2
        have fq0 := RR.out.frozen 0
        have fq1 := RR.out.frozen 1
        have fq2 := RR.out.frozen 2
        go_wp2_with (go_at_call 62; with_reducible refine Calls.mono (CI.out _ _ _ _) ?_; rintro e w' ⟨rfl, rfl⟩)
        clear q0 q1 q2 lq
        refine bodyPost_named fun WW hq => ?_
        have RXn := Lib.hid (show Row WW _ _ _ from by rw [hq]; exact ((RR.out.set 0 (.int .i64 0)).set 1 (.slice none 0 0)).set 2 (.int .i64 0))
        have BB6 := Lib.hid (show Below w.heap.size w WW from by rw [hq]; exact ((BB.out.setCell (p := ⟨br, 0, none⟩) hbr _).setCell (p := ⟨br, 1, none⟩) hbr _).setCell (p := ⟨br, 2, none⟩) hbr _)
        clear hq
        have xr0 := RXn.out.cell 0
        have xr1 := RXn.out.cell 1
        have xr2 := RXn.out.cell 2
        simp only [List.set_cons_zero, List.set_cons_succ, List.getElem?_cons_zero, List.getElem?_cons_succ] at xr0 xr1 xr2
        refine bodyPost_ret (v := .tuple #[zeroBook, .int .i64 310]) (by first | (simp [results, Tryd.results31, go_sem]; done) | simp [results, Tryd.results31, go_sem, *]) rfl ⟨⟨fun h => absurd h HNo.out, fun _ => rfl⟩, BB6.out⟩
    · have HNo := Lib.hid (show ¬ CloseP acc l cl m from fun h => hm (HI.out.1 h).2.1)
      have q0 := RR.out.cell 0
      have q1 := RR.out.cell 1
      have q2 := RR.out.cell 2
      have lq := RR.out.lt
      simp only [List.getElem?_cons_zero, List.getElem?_cons_succ] at q0 q1 q2
      have fq0 := RR.out.frozen 0
      have fq1 := RR.out.frozen 1
      have fq2 := RR.out.frozen 2
      go_wp2_with fail
      clear q0 q1 q2 lq
      refine bodyPost_named fun WW hq => ?_
      have RXn := Lib.hid (show Row WW _ _ _ from by rw [hq]; exact ((RR.out.set 0 (.int .i64 0)).set 1 (.slice none 0 0)).set 2 (.int .i64 0))
      have BB6 := Lib.hid (show Below w.heap.size w WW from by rw [hq]; exact ((BB.out.setCell (p := ⟨br, 0, none⟩) hbr _).setCell (p := ⟨br, 1, none⟩) hbr _).setCell (p := ⟨br, 2, none⟩) hbr _)
      clear hq
      have xr0 := RXn.out.cell 0
      have xr1 := RXn.out.cell 1
      have xr2 := RXn.out.cell 2
      simp only [List.set_cons_zero, List.set_cons_succ, List.getElem?_cons_zero, List.getElem?_cons_succ] at xr0 xr1 xr2
      refine bodyPost_ret (v := .tuple #[zeroBook, .int .i64 310]) (by first | (simp [results, Tryd.results31, go_sem]; done) | simp [results, Tryd.results31, go_sem, *]) rfl ⟨⟨fun h => absurd h HNo.out, fun _ => rfl⟩, BB6.out⟩
theorem rClose_u (acc cl m : Int) (o : Option Addr) (N c : Nat) (l : List Po) (w : World) (hN : N ≤ 2 ^ 30) (h : BkW w o N c l) : Calls Tryd.prog 31 #[bookV acc o N c cl, .int .i64 m] w fun e w' => BoEr w.heap.size (closeB acc l cl m) e w' ∧ Below w.heap.size w w' :=
  (rClose_any acc cl m o N c l w hN h).mono fun _ _ q => ⟨close_u h.1 q.1, q.2⟩
end Bk
end Go.Proofs.YtnhlhoijajhcjaaDoor
