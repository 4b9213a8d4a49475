/- Dispute whole; Close. -/
import Derived.Test.YtnhlhoijajhcjaaDoorBkN
set_option linter.unusedVariables false
set_option linter.unusedSimpArgs false
set_option linter.unnecessarySimpa false
namespace Go.Proofs.YtnhlhoijajhcjaaDoor
open Go.RowKit
namespace Bk
open Sq
theorem disp_bad {acc cl i day amt : Int} {l : List Po} (h : ¬ (0 ≤ i ∧ i < l.length ∧ 0 ≤ amt ∧ amt ≤ 1000000000)) : disp acc l cl i day amt = none := if_neg h
theorem Dispute_any (acc cl i day amt : Int) (o : Option Addr) (N c : Nat) (l : List Po) (w : World) (hl : l.length = N) (hN : N ≤ 2 ^ 29) (hc : N ≤ c) (hc2 : c ≤ 9223372036854775807) (hnil : o = none → c = 0) (hS : Sl poE w o l) (hd : inI day) :
    Calls Tryd.prog 19 #[bookV acc o N c cl, .int .i64 i, .int .i64 day, .int .i64 amt] w fun e w' => ((∀ l2, disp acc l cl i day amt = some l2 → ∃ o' c', e = .returned (.tuple #[bookV acc o' l2.length c' cl, .int .i64 0]) ∧ Sq.Own poE 27 w' w.heap.size (.slice o' l2.length c') l2) ∧
      (disp acc l cl i day amt = none → e = .returned (.tuple #[zeroBook, .int .i64 310]))) ∧ Below w.heap.size w w' := by
  by_cases h : 0 ≤ i ∧ i < N ∧ 0 ≤ amt ∧ amt ≤ 1000000000
  · exact dispute_go acc cl i day amt i.toNat (by omega) o N c l w hl hN hc hc2 hnil hS hd (by omega) h.2.2.1 h.2.2.2
  · have hD : disp acc l cl i day amt = none := disp_bad (by rw [hl]; exact h)
    refine Calls.mono (dispute_bad acc cl i day amt o N c w h) ?_
    rintro e w' ⟨rfl, hb⟩
    exact ⟨⟨(fun l2 h2 => by rw [hD] at h2; cases h2), fun _ => rfl⟩, hb⟩
theorem close_iff {acc cl m : Int} {l : List Po} : CloseP acc l cl m ↔ (!vd acc l cl) = false ∧ m = cl ∧ (0 ≤ m ∧ m < 12) := by
  unfold CloseP
  rw [Bool.not_eq_false', vd_iff]
set_option maxRecDepth 100000 in
set_option maxHeartbeats 4000000 in
theorem Close_any (acc cl m : Int) (o : Option Addr) (N c : Nat) (l : List Po) (w : World) (hl : l.length = N) (hN : N ≤ 2 ^ 30) (hc : N ≤ c) (hc2 : c ≤ 9223372036854775807) (hnil : o = none → c = 0) (hS : Sl poE w o l) :
    Calls Tryd.prog 21 #[bookV acc o N c cl, .int .i64 m] w fun e w' => ((CloseP acc l cl m → ∃ o' c', e = .returned (.tuple #[bookV acc o' N c' (cl + 1), .int .i64 0]) ∧ Sq.Own poE 27 w' w.heap.size (.slice o' N c') l) ∧
      (¬ CloseP acc l cl m → e = .returned (.tuple #[zeroBook, .int .i64 310]))) ∧ Below w.heap.size w w' := by
  have CO := Lib.hid (fun W (h : Sl poE W o l) => open_any acc cl o N c l W hl (by omega) hc hc2 hnil h)
  have CI := Lib.hid (fun W => isMonth_any m W)
  have SL := Lib.hid hS
  have HL := Lib.hid hl
  have HI := Lib.hid (close_iff (acc := acc) (cl := cl) (l := l) (m := m))
  obtain ⟨G, hG⟩ : ∃ G, (!vd acc l cl) = G := ⟨_, rfl⟩
  rw [hG] at CO HI
  clear hG hnil hS hl
  go_enter Tryd.func21, Tryd.ntmps21
  go_upto_region 1 with (fail)
  refine wp_named fun w1 hq => ?_
  obtain ⟨bA, eA⟩ : ∃ b, b = w.heap.size := ⟨_, rfl⟩
  obtain ⟨br, er⟩ : ∃ b, b = w.heap.size + 1 := ⟨_, rfl⟩
  obtain ⟨r0, r1, hB, hs⟩ := rows2 w 24 24 [.int .i64 acc, .slice o N c, .int .i64 cl] [.int .i64 0, .slice none 0 0, .int .i64 0] w1 hq
  have HS := Lib.hid (show w.heap.size ≤ br ∧ br < w1.heap.size by omega)
  rw [← er, ← eA]
  rw [← eA] at r0
  rw [← er] at r1
  have BB := Lib.hid hB
  replace SL := Lib.hid (SL.out.next hB)
  have RR := Lib.hid r1
  have a0 := r0.cell 0
  have a1 := r0.cell 1
  have a2 := r0.cell 2
  simp only [List.getElem?_cons_zero, List.getElem?_cons_succ] at a0 a1 a2
  have la := r0.lt
  clear hq er eA hB hs r0 r1
  go_wp2_with fail
  refine Calls.mono (CO.out _ SL.out) ?_
  rintro e w2 ⟨bk, o2, c2, rfl, hL, hb⟩
  clear a0 a1 a2 la
  have OW2 := Lib.hid hL.own
  have RR2 := Lib.hid (RR.out.next hb)
  have BB2 := Lib.hid (Below.andThen BB.out hb)
  have RK2 := Lib.hid hL.row
  rw [HL.out] at RK2 OW2
  have HNE := Lib.hid (show br ≠ bk ∧ w.heap.size ≤ bk from by have := hL.le; have := HS.out; omega)
  clear hb hL CO
  have k2 := RK2.out.cell 2
  have k3 := RK2.out.cell 3
  simp only [List.getElem?_cons_zero, List.getElem?_cons_succ] at k2 k3
  have lk := RK2.out.lt
  have fk2 := RK2.out.frozen 2
  have fk3 := RK2.out.frozen 3
  cases G with
  | true =>
    have HNo := Lib.hid (show ¬ CloseP acc l cl m from fun h => by have := (HI.out.1 h).1; cases this)
    go_upto_region 3 with (fail)
    refine wp_named fun w3 hq => ?_
    have RK3 := Lib.hid (show Row w3 bk 79 [.slice o2 N c2, .int .i64 acc, .int .i64 cl, .bool true] from by rw [hq]; exact RK2.out.set 3 _)
    have RR3 := Lib.hid (show Row w3 br _ _ from by rw [hq]; exact RR2.out.other HNE.out.1 _ _)
    have BB3 := Lib.hid (show Below w.heap.size w w3 from by rw [hq]; exact BB2.out.setCell (p := ⟨bk, 3, none⟩) HNE.out.2 _)
    skip
    clear hq k2 k3 lk fk2 fk3
    have k2 := RK3.out.cell 2
    simp only [List.getElem?_cons_zero, List.getElem?_cons_succ] at k2
    have lk := RK3.out.lt
    have fk2 := RK3.out.frozen 2
    go_upto_region 4 with (fail)
    refine wp_named fun w4 hq => ?_
    skip
    obtain ⟨x, RK4⟩ : ∃ x, Row w4 bk 79 [.slice o2 N c2, .int .i64 acc, .int .i64 x, .bool true] := ⟨_, by rw [hq]; exact RK3.out.set 2 _⟩
    have CD := Lib.hid (done_bad bk N o2 c2 acc x w4 RK4)
    have RR4 := Lib.hid (show Row w4 br _ _ from by rw [hq]; exact RR3.out.other HNE.out.1 _ _)
    have BB4 := Lib.hid (show Below w.heap.size w w4 from by rw [hq]; exact BB3.out.setCell (p := ⟨bk, 2, none⟩) HNE.out.2 _)
    skip
    clear hq k2 lk fk2 RK4
    go_wp2_with fail
    with_reducible refine Calls.mono CD.out ?_
    rintro e w9 ⟨rfl, hb⟩
    have RR9 := Lib.hid (RR4.out.next hb)
    have BB9 := Lib.hid (Below.andThen BB4.out hb)
    clear hb
    have q0 := RR9.out.cell 0
    have q1 := RR9.out.cell 1
    have q2 := RR9.out.cell 2
    simp only [List.getElem?_cons_zero, List.getElem?_cons_succ] at q0 q1 q2
    have f0 := RR9.out.frozen 0
    have f1 := RR9.out.frozen 1
    have f2 := RR9.out.frozen 2
    have l2' := RR9.out.lt
    go_wp2_with fail
    have RX := ((RR9.out.set 0 (.int .i64 0)).set 1 (.slice none 0 0)).set 2 (.int .i64 0)
    have x0 := RX.cell 0
    have x1 := RX.cell 1
    have x2 := RX.cell 2
    simp only [List.set_cons_zero, List.set_cons_succ, List.getElem?_cons_zero, List.getElem?_cons_succ] at x0 x1 x2
    refine bodyPost_ret (v := .tuple #[zeroBook, .int .i64 310]) (by first | (simp [results, Tryd.results21, go_sem]; done) | simp [results, Tryd.results21, go_sem, *]) rfl ⟨⟨(fun h => absurd h HNo.out), fun _ => rfl⟩, ((BB9.out.setCell (p := ⟨br, 0, none⟩) HS.out.1 _).setCell (p := ⟨br, 1, none⟩) HS.out.1 _).setCell (p := ⟨br, 2, none⟩) HS.out.1 _⟩
  | false =>
    by_cases hm : m = cl
    · by_cases hr : 0 ≤ m ∧ m < 12
      · have HYr := Lib.hid hr
        rw [hm] at CI
        rw [show decide (0 ≤ cl ∧ cl < 12) = true from decide_eq_true (by omega)] at CI
        have hb1 : 0 ≤ cl ∧ cl < 12 := by omega
        have HYe := Lib.hid (show CloseP acc l cl m from HI.out.2 ⟨rfl, hm, hr⟩)
        go_upto_region 3 with (fail)
        with_reducible refine Calls.mono (CI.out _) ?_
        rintro e w3 ⟨rfl, rfl⟩
        go_upto_region 3 with (fail)
        refine wp_named fun w3 hq => ?_
        have RK3 := Lib.hid (show Row w3 bk 79 [.slice o2 N c2, .int .i64 acc, .int .i64 cl, .bool false] from by rw [hq]; exact RK2.out.set 3 _)
        have RR3 := Lib.hid (show Row w3 br _ _ from by rw [hq]; exact RR2.out.other HNE.out.1 _ _)
        have BB3 := Lib.hid (show Below w.heap.size w w3 from by rw [hq]; exact BB2.out.setCell (p := ⟨bk, 3, none⟩) HNE.out.2 _)
        have OW3 := Lib.hid (show Sq.Own poE 27 w3 w1.heap.size (.slice o2 N c2) l from by rw [hq]; exact World.ownsRow.kept (row := some bk) OW2.out (grown_at _ bk 3 _) (.inr (own_apart OW2.out RK2.out (by decide))))
        clear hq k2 k3 lk fk2 fk3
        have k2 := RK3.out.cell 2
        simp only [List.getElem?_cons_zero, List.getElem?_cons_succ] at k2
        have lk := RK3.out.lt
        have fk2 := RK3.out.frozen 2
        go_upto_region 4 with (fail)
        refine wp_named fun w4 hq => ?_
        skip
        have RK4 : Row w4 bk 79 [.slice o2 N c2, .int .i64 acc, .int .i64 (cl + 1), .bool false] := by rw [hq]; exact RK3.out.set 2 _
        have CD := Lib.hid (done_ok bk N o2 c2 acc (cl + 1) w4 RK4)
        have RR4 := Lib.hid (show Row w4 br _ _ from by rw [hq]; exact RR3.out.other HNE.out.1 _ _)
        have BB4 := Lib.hid (show Below w.heap.size w w4 from by rw [hq]; exact BB3.out.setCell (p := ⟨bk, 2, none⟩) HNE.out.2 _)
        have OW4 := Lib.hid (show Sq.Own poE 27 w4 w1.heap.size (.slice o2 N c2) l from by rw [hq]; exact World.ownsRow.kept (row := some bk) OW3.out (grown_at _ bk 2 _) (.inr (own_apart OW3.out RK3.out (by decide))))
        clear hq k2 lk fk2 RK4
        go_wp2_with fail
        with_reducible refine Calls.mono CD.out ?_
        rintro e w9 ⟨rfl, hb⟩
        have OW9 := Lib.hid (OW4.out.next hb)
        have RR9 := Lib.hid (RR4.out.next hb)
        have BB9 := Lib.hid (Below.andThen BB4.out hb)
        clear hb
        have q0 := RR9.out.cell 0
        have q1 := RR9.out.cell 1
        have q2 := RR9.out.cell 2
        simp only [List.getElem?_cons_zero, List.getElem?_cons_succ] at q0 q1 q2
        have f0 := RR9.out.frozen 0
        have f1 := RR9.out.frozen 1
        have f2 := RR9.out.frozen 2
        have l2' := RR9.out.lt
        go_wp2_with fail
        have RX := ((RR9.out.set 0 (.int .i64 acc)).set 1 (.slice o2 N c2)).set 2 (.int .i64 (cl + 1))
        have x0 := RX.cell 0
        have x1 := RX.cell 1
        have x2 := RX.cell 2
        simp only [List.set_cons_zero, List.set_cons_succ, List.getElem?_cons_zero, List.getElem?_cons_succ] at x0 x1 x2
        have HOW := Lib.hid (show Sq.Own poE 27 (((w9.setCell ⟨br, 0, none⟩ (.int .i64 acc)).setCell ⟨br, 1, none⟩ (.slice o2 N c2)).setCell ⟨br, 2, none⟩ (.int .i64 (cl + 1))) w.heap.size (.slice o2 N c2) l from by
          have h := OW9.out
          have h1 := World.ownsRow.kept (row := some br) h (grown_at _ br 0 (.int .i64 acc)) (.inr (own_apart h RR9.out (by decide)))
          have h2 := World.ownsRow.kept (row := some br) h1 (grown_at _ br 1 (.slice o2 N c2)) (.inr (own_apart h RR9.out (by decide)))
          have h3 := World.ownsRow.kept (row := some br) h2 (grown_at _ br 2 (.int .i64 (cl + 1))) (.inr (own_apart h RR9.out (by decide)))
          exact Sq.Own.lower h3 BB.out.size)
        refine bodyPost_ret (v := .tuple #[bookV acc o2 N c2 (cl + 1), .int .i64 0]) (by first | (simp [results, Tryd.results21, go_sem]; done) | simp [results, Tryd.results21, go_sem, *]) rfl ⟨⟨(fun _ => ⟨o2, c2, rfl, HOW.out⟩), (fun h => absurd HYe.out h)⟩, ((BB9.out.setCell (p := ⟨br, 0, none⟩) HS.out.1 _).setCell (p := ⟨br, 1, none⟩) HS.out.1 _).setCell (p := ⟨br, 2, none⟩) HS.out.1 _⟩
      · have HNr := Lib.hid hr
        rw [hm] at CI
        rw [show decide (0 ≤ cl ∧ cl < 12) = false from decide_eq_false (by omega)] at CI
        have HNo := Lib.hid (show ¬ CloseP acc l cl m from fun h => hr (HI.out.1 h).2.2)
        go_upto_region 3 with (fail)
        with_reducible refine Calls.mono (CI.out _) ?_
        rintro e w3 ⟨rfl, rfl⟩
        go_upto_region 3 with (fail)
        refine wp_named fun w3 hq => ?_
        have RK3 := Lib.hid (show Row w3 bk 79 [.slice o2 N c2, .int .i64 acc, .int .i64 cl, .bool true] from by rw [hq]; exact RK2.out.set 3 _)
        have RR3 := Lib.hid (show Row w3 br _ _ from by rw [hq]; exact RR2.out.other HNE.out.1 _ _)
        have BB3 := Lib.hid (show Below w.heap.size w w3 from by rw [hq]; exact BB2.out.setCell (p := ⟨bk, 3, none⟩) HNE.out.2 _)
        skip
        clear hq k2 k3 lk fk2 fk3
        have k2 := RK3.out.cell 2
        simp only [List.getElem?_cons_zero, List.getElem?_cons_succ] at k2
        have lk := RK3.out.lt
        have fk2 := RK3.out.frozen 2
        go_upto_region 4 with (fail)
        refine wp_named fun w4 hq => ?_
        skip
        obtain ⟨x, RK4⟩ : ∃ x, Row w4 bk 79 [.slice o2 N c2, .int .i64 acc, .int .i64 x, .bool true] := ⟨_, by rw [hq]; exact RK3.out.set 2 _⟩
        have CD := Lib.hid (done_bad bk N o2 c2 acc x w4 RK4)
        have RR4 := Lib.hid (show Row w4 br _ _ from by rw [hq]; exact RR3.out.other HNE.out.1 _ _)
        have BB4 := Lib.hid (show Below w.heap.size w w4 from by rw [hq]; exact BB3.out.setCell (p := ⟨bk, 2, none⟩) HNE.out.2 _)
        skip
        clear hq k2 lk fk2 RK4
        go_wp2_with fail
        with_reducible refine Calls.mono CD.out ?_
        rintro e w9 ⟨rfl, hb⟩
        have RR9 := Lib.hid (RR4.out.next hb)
        have BB9 := Lib.hid (Below.andThen BB4.out hb)
        clear hb
        have q0 := RR9.out.cell 0
        have q1 := RR9.out.cell 1
        have q2 := RR9.out.cell 2
        simp only [List.getElem?_cons_zero, List.getElem?_cons_succ] at q0 q1 q2
        have f0 := RR9.out.frozen 0
        have f1 := RR9.out.frozen 1
        have f2 := RR9.out.frozen 2
        have l2' := RR9.out.lt
        go_wp2_with fail
        have RX := ((RR9.out.set 0 (.int .i64 0)).set 1 (.slice none 0 0)).set 2 (.int .i64 0)
        have x0 := RX.cell 0
        have x1 := RX.cell 1
        have x2 := RX.cell 2
        simp only [List.set_cons_zero, List.set_cons_succ, List.getElem?_cons_zero, List.getElem?_cons_succ] at x0 x1 x2
        refine bodyPost_ret (v := .tuple #[zeroBook, .int .i64 310]) (by first | (simp [results, Tryd.results21, go_sem]; done) | simp [results, Tryd.results21, go_sem, *]) rfl ⟨⟨(fun h => absurd h HNo.out), fun _ => rfl⟩, ((BB9.out.setCell (p := ⟨br, 0, none⟩) HS.out.1 _).setCell (p := ⟨br, 1, none⟩) HS.out.1 _).setCell (p := ⟨br, 2, none⟩) HS.out.1 _⟩
    · have HNm := Lib.hid hm
      have HNo := Lib.hid (show ¬ CloseP acc l cl m from fun h => hm (HI.out.1 h).2.1)
      go_upto_region 3 with (fail)
      refine wp_named fun w3 hq => ?_
      have RK3 := Lib.hid (show Row w3 bk 79 [.slice o2 N c2, .int .i64 acc, .int .i64 cl, .bool true] from by rw [hq]; exact RK2.out.set 3 _)
      have RR3 := Lib.hid (show Row w3 br _ _ from by rw [hq]; exact RR2.out.other HNE.out.1 _ _)
      have BB3 := Lib.hid (show Below w.heap.size w w3 from by rw [hq]; exact BB2.out.setCell (p := ⟨bk, 3, none⟩) HNE.out.2 _)
      skip
      clear hq k2 k3 lk fk2 fk3
      have k2 := RK3.out.cell 2
      simp only [List.getElem?_cons_zero, List.getElem?_cons_succ] at k2
      have lk := RK3.out.lt
      have fk2 := RK3.out.frozen 2
      go_upto_region 4 with (fail)
      refine wp_named fun w4 hq => ?_
      skip
      obtain ⟨x, RK4⟩ : ∃ x, Row w4 bk 79 [.slice o2 N c2, .int .i64 acc, .int .i64 x, .bool true] := ⟨_, by rw [hq]; exact RK3.out.set 2 _⟩
      have CD := Lib.hid (done_bad bk N o2 c2 acc x w4 RK4)
      have RR4 := Lib.hid (show Row w4 br _ _ from by rw [hq]; exact RR3.out.other HNE.out.1 _ _)
      have BB4 := Lib.hid (show Below w.heap.size w w4 from by rw [hq]; exact BB3.out.setCell (p := ⟨bk, 2, none⟩) HNE.out.2 _)
      skip
      clear hq k2 lk fk2 RK4
      go_wp2_with fail
      with_reducible refine Calls.mono CD.out ?_
      rintro e w9 ⟨rfl, hb⟩
      have RR9 := Lib.hid (RR4.out.next hb)
      have BB9 := Lib.hid (Below.andThen BB4.out hb)
      clear hb
      have q0 := RR9.out.cell 0
      have q1 := RR9.out.cell 1
      have q2 := RR9.out.cell 2
      simp only [List.getElem?_cons_zero, List.getElem?_cons_succ] at q0 q1 q2
      have f0 := RR9.out.frozen 0
      have f1 := RR9.out.frozen 1
      have f2 := RR9.out.frozen 2
      have l2' := RR9.out.lt
      go_wp2_with fail
      have RX := ((RR9.out.set 0 (.int .i64 0)).set 1 (.slice none 0 0)).set 2 (.int .i64 0)
      have x0 := RX.cell 0
      have x1 := RX.cell 1
      have x2 := RX.cell 2
      simp only [List.set_cons_zero, List.set_cons_succ, List.getElem?_cons_zero, List.getElem?_cons_succ] at x0 x1 x2
      refine bodyPost_ret (v := .tuple #[zeroBook, .int .i64 310]) (by first | (simp [results, Tryd.results21, go_sem]; done) | simp [results, Tryd.results21, go_sem, *]) rfl ⟨⟨(fun h => absurd h HNo.out), fun _ => rfl⟩, ((BB9.out.setCell (p := ⟨br, 0, none⟩) HS.out.1 _).setCell (p := ⟨br, 1, none⟩) HS.out.1 _).setCell (p := ⟨br, 2, none⟩) HS.out.1 _⟩
end Bk
end Go.Proofs.YtnhlhoijajhcjaaDoor
