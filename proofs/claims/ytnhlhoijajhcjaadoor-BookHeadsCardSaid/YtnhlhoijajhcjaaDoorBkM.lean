/- done; Post. -/
import Derived.Test.YtnhlhoijajhcjaaDoorBkL
set_option linter.unusedVariables false
set_option linter.unusedSimpArgs false
set_option linter.unnecessarySimpa false
namespace Go.Proofs.YtnhlhoijajhcjaaDoor
open Go.RowKit
namespace Bk
open Sq
abbrev zeroBook : Value := .agg #[.int .i64 0, .slice none 0 0, .int .i64 0]
set_option maxRecDepth 100000 in
theorem done_bad (bk n : Nat) (o : Option Addr) (c : Nat) (acc cl : Int) (w : World) (hr : Row w bk 79 [.slice o n c, .int .i64 acc, .int .i64 cl, .bool true]) :
    Calls Tryd.prog 39 #[ptV bk] w fun e w' => e = .returned (.tuple #[zeroBook, .int .i64 310]) ∧ Below w.heap.size w w' := by
  have c3 := hr.cell 3
  simp only [List.getElem?_cons_zero, List.getElem?_cons_succ] at c3
  have lk := hr.lt
  have hne : w.heap.size ≠ bk := by omega
  clear hr
  go_enter Tryd.func39, Tryd.ntmps39
  go_wp2_with fail
  refine bodyPost_ret (v := .tuple #[zeroBook, .int .i64 310]) (by first | (simp [results, Tryd.results39, go_sem]; done) | simp [results, Tryd.results39, go_sem, *]) rfl ⟨rfl, by (repeat' first | exact Below.refl _ _ | assumption | (refine below_drewN ?_ _) | (refine Below.drew ?_) | (refine Below.alloc ?_ ?_ _) | (refine Below.setCell ?_ ?_ _) | (simp; done) | (simp; omega) | omega)⟩
set_option maxRecDepth 100000 in
theorem done_ok (bk n : Nat) (o : Option Addr) (c : Nat) (acc cl : Int) (w : World) (hr : Row w bk 79 [.slice o n c, .int .i64 acc, .int .i64 cl, .bool false]) :
    Calls Tryd.prog 39 #[ptV bk] w fun e w' => e = .returned (.tuple #[bookV acc o n c cl, .int .i64 0]) ∧ Below w.heap.size w w' := by
  have HR := Lib.hid hr
  have CB := Lib.hid (fun W hr => book_any bk n o c acc cl false W hr)
  clear hr
  go_enter Tryd.func39, Tryd.ntmps39
  go_upto_region 1 with (fail)
  refine wp_named fun w1 hq => ?_
  obtain ⟨b2, e2⟩ : ∃ b, b = w.heap.size := ⟨_, rfl⟩
  have R2 := Lib.hid (show Row w1 b2 24 [.int .i64 0, .slice none 0 0, .int .i64 0] from by rw [hq, e2]; exact Row.new w _ _)
  have BB := Lib.hid (show Below w.heap.size w w1 from by rw [hq]; (repeat' first | exact Below.refl _ _ | assumption | (refine below_drewN ?_ _) | (refine Below.drew ?_) | (refine Below.alloc ?_ ?_ _) | (refine Below.setCell ?_ ?_ _) | (simp; done) | (simp; omega) | omega))
  replace HR := Lib.hid (HR.out.next BB.out)
  have HS := Lib.hid (show w.heap.size ≤ b2 by omega)
  rw [← e2]
  clear hq e2
  have c3 := HR.out.cell 3
  simp only [List.getElem?_cons_zero, List.getElem?_cons_succ] at c3
  have lk := HR.out.lt
  go_wp2_with fail
  with_reducible refine Calls.mono (CB.out _ HR.out) ?_
  rintro e w2 ⟨rfl, hb⟩
  replace R2 := Lib.hid (R2.out.next hb)
  replace BB := Lib.hid (Below.andThen BB.out hb)
  clear hb c3 lk HR
  have q0 := R2.out.cell 0
  have q1 := R2.out.cell 1
  have q2 := R2.out.cell 2
  simp only [List.getElem?_cons_zero, List.getElem?_cons_succ] at q0 q1 q2
  have f0 := R2.out.frozen 0
  have f1 := R2.out.frozen 1
  have f2 := R2.out.frozen 2
  have l2 := R2.out.lt
  go_wp2_with fail
  have RX := ((R2.out.set 0 (.int .i64 acc)).set 1 (.slice o n c)).set 2 (.int .i64 cl)
  have x0 := RX.cell 0
  have x1 := RX.cell 1
  have x2 := RX.cell 2
  simp only [List.set_cons_zero, List.set_cons_succ, List.getElem?_cons_zero, List.getElem?_cons_succ] at x0 x1 x2
  clear q0 q1 q2
  refine bodyPost_ret (v := .tuple #[bookV acc o n c cl, .int .i64 0]) (by first | (simp [results, Tryd.results39, go_sem]; done) | simp [results, Tryd.results39, go_sem, *]) rfl ⟨rfl, ((BB.out.setCell (p := ⟨b2, 0, none⟩) HS.out _).setCell (p := ⟨b2, 1, none⟩) HS.out _).setCell (p := ⟨b2, 2, none⟩) HS.out _⟩
theorem post_iff {acc cl : Int} {l : List Po} {p : Po} : PostP acc l cl p ↔ (!vd acc l cl || failed acc cl l p) = false := by
  unfold failed
  rw [Bool.or_eq_false_iff, Bool.or_eq_false_iff, Bool.not_eq_false', Bool.not_eq_false', decide_eq_false_iff_not, vd_iff, vd_iff]
  constructor
  · rintro ⟨h1, h2, h3⟩
    refine ⟨h1, h2, ?_⟩
    have h4 := (h2.2 l.length (by rw [List.length_append]; exact Nat.lt_succ_self _)).1.2.1
    rw [at_last] at h4
    rw [Int.tdiv_eq_ediv_of_nonneg h4.1]
    omega
  · rintro ⟨h1, h2, h3⟩
    refine ⟨h1, h2, ?_⟩
    have h4 := (h2.2 l.length (by rw [List.length_append]; exact Nat.lt_succ_self _)).1.2.1
    rw [at_last] at h4
    rw [Int.tdiv_eq_ediv_of_nonneg h4.1] at h3
    omega
set_option maxRecDepth 100000 in
set_option maxHeartbeats 4000000 in
theorem Post_any (acc cl : Int) (o : Option Addr) (N c : Nat) (l : List Po) (p : Po) (w : World) (hl : l.length = N) (hN : N ≤ 2 ^ 30) (hc : N ≤ c) (hc2 : c ≤ 9223372036854775807) (hnil : o = none → c = 0) (hS : Sl poE w o l) (hd : inI p.day) :
    Calls Tryd.prog 17 #[bookV acc o N c cl, p.v] w fun e w' => ((PostP acc l cl p → ∃ o' c', e = .returned (.tuple #[bookV acc o' (N + 1) c' cl, .int .i64 N, .int .i64 0]) ∧ Sq.Own poE 27 w' w.heap.size (.slice o' (N + 1) c') (l ++ [p])) ∧
      (¬ PostP acc l cl p → e = .returned (.tuple #[zeroBook, .int .i64 0, .int .i64 310]))) ∧ Below w.heap.size w w' := by
  have CO := Lib.hid (fun W (h : Sl poE W o l) => open_any acc cl o N c l W hl (by omega) hc hc2 hnil h)
  have CP := Lib.hid (fun B0 bk o c W (h : Led W B0 bk o c acc cl (!vd acc l cl) l) hB => post_any B0 bk o c acc cl (!vd acc l cl) l p W h hd hB (by omega))
  have SL := Lib.hid hS
  have HL := Lib.hid hl
  have HI := Lib.hid (post_iff (acc := acc) (cl := cl) (l := l) (p := p))
  obtain ⟨F, hF⟩ : ∃ F, (!vd acc l cl || failed acc cl l p) = F := ⟨_, rfl⟩
  rw [hF] at CP HI
  obtain ⟨G, hG⟩ : ∃ G, (!vd acc l cl) = G := ⟨_, rfl⟩
  rw [hG] at CO CP
  have HLP := Lib.hid (show (l ++ [p]).length = N + 1 by rw [List.length_append, hl]; rfl)
  obtain ⟨lp, hlp⟩ : ∃ lp, l ++ [p] = lp := ⟨_, rfl⟩
  rw [hlp] at CP HLP ⊢
  clear hF hG hlp hS hnil hd
  obtain ⟨kind, day, deb, cre, amt, sub, of⟩ := p
  unfold Po.v at CP ⊢
  dsimp only at CP ⊢
  go_enter Tryd.func17, Tryd.ntmps17
  go_upto_region 1 with (fail)
  refine wp_named fun w1 hq => ?_
  obtain ⟨bA, eA⟩ : ∃ b, b = w.heap.size := ⟨_, rfl⟩
  obtain ⟨bP, eP⟩ : ∃ b, b = w.heap.size + 1 := ⟨_, rfl⟩
  obtain ⟨br, er⟩ : ∃ b, b = w.heap.size + 1 + 1 := ⟨_, rfl⟩
  obtain ⟨r0, r1, r2, hB, hs⟩ := rows3 w 24 27 24 [.int .i64 acc, .slice o N c, .int .i64 cl] [.int .i64 kind, .int .i64 day, .int .i64 deb, .int .i64 cre, .int .i64 amt, .int .i64 sub, .int .i64 of] [.int .i64 0, .slice none 0 0, .int .i64 0] w1 hq
  have HS := Lib.hid (show w.heap.size ≤ br ∧ bP < w1.heap.size ∧ br < w1.heap.size by omega)
  rw [← er, ← eP, ← eA]
  rw [← eA] at r0
  rw [← eP] at r1
  rw [← er] at r2
  have BB := Lib.hid hB
  replace SL := Lib.hid (SL.out.next hB)
  have RP := Lib.hid r1
  have RR := Lib.hid r2
  have a0 := r0.cell 0
  have a1 := r0.cell 1
  have a2 := r0.cell 2
  simp only [List.getElem?_cons_zero, List.getElem?_cons_succ] at a0 a1 a2
  have la := r0.lt
  clear hq er eP eA hB hs r0 r1 r2
  go_wp2_with fail
  refine Calls.mono (CO.out _ SL.out) ?_
  rintro e w2 ⟨bk, o2, c2, rfl, hL, hb⟩
  clear a0 a1 a2 la
  have LD := Lib.hid hL
  have RP2 := Lib.hid (RP.out.next hb)
  have RR2 := Lib.hid (RR.out.next hb)
  have BB2 := Lib.hid (Below.andThen BB.out hb)
  have HB2 := Lib.hid hb
  clear hb hL
  have p0 := RP2.out.cell 0
  have p1 := RP2.out.cell 1
  have p2 := RP2.out.cell 2
  have p3 := RP2.out.cell 3
  have p4 := RP2.out.cell 4
  have p5 := RP2.out.cell 5
  have p6 := RP2.out.cell 6
  simp only [List.getElem?_cons_zero, List.getElem?_cons_succ] at p0 p1 p2 p3 p4 p5 p6
  have lP := RP2.out.lt
  go_wp2_with fail
  refine Calls.mono (CP.out _ _ _ _ _ LD.out HB2.out.size) ?_
  rintro e w3 ⟨v, o3, c3, rfl, hL, hM⟩
  have how := own_block LD.out.own
  have hle := LD.out.le
  have RR3 := Lib.hid (hM.row RR2.out (by have := HS.out; omega) (fun e => by have := how _ e; have := HS.out; omega))
  have BB3 := Lib.hid (BB2.out.trans (hM.under (by have := BB2.out.size; omega) (by have := BB.out.size; omega) (fun j hj => by have := how j hj; have := BB.out.size; omega)))
  have LD3 := Lib.hid hL
  have RK := Lib.hid hL.row
  rw [HLP.out] at RK
  clear p0 p1 p2 p3 p4 p5 p6 lP hL hM how hle
  cases F with
  | true =>
    have HNo := Lib.hid (show ¬ PostP acc l cl ⟨kind, day, deb, cre, amt, sub, of⟩ from fun h => by have := HI.out.1 h; cases this)
    have CD := Lib.hid (done_bad bk (N + 1) o3 c3 acc cl w3 RK.out)
    clear HI CP CO
    go_wp2_with fail
    with_reducible refine Calls.mono CD.out ?_
    rintro e w4 ⟨rfl, hb⟩
    have RR4 := Lib.hid (RR3.out.next hb)
    have BB4 := Lib.hid (Below.andThen BB3.out hb)
    clear hb CD
    have q0 := RR4.out.cell 0
    have q1 := RR4.out.cell 1
    have q2 := RR4.out.cell 2
    simp only [List.getElem?_cons_zero, List.getElem?_cons_succ] at q0 q1 q2
    have f0 := RR4.out.frozen 0
    have f1 := RR4.out.frozen 1
    have f2 := RR4.out.frozen 2
    have l2 := RR4.out.lt
    go_wp2_with fail
    have RX := ((RR4.out.set 0 (.int .i64 0)).set 1 (.slice none 0 0)).set 2 (.int .i64 0)
    have x0 := RX.cell 0
    have x1 := RX.cell 1
    have x2 := RX.cell 2
    simp only [List.set_cons_zero, List.set_cons_succ, List.getElem?_cons_zero, List.getElem?_cons_succ] at x0 x1 x2
    refine bodyPost_ret (v := .tuple #[zeroBook, .int .i64 0, .int .i64 310]) (by first | (simp [results, Tryd.results17, go_sem]; done) | simp [results, Tryd.results17, go_sem, *]) rfl ⟨⟨fun h => absurd h HNo.out, fun _ => rfl⟩, ((((BB4.out.setCell (p := ⟨br, 0, none⟩) HS.out.1 _).setCell (p := ⟨br, 1, none⟩) HS.out.1 _).setCell (p := ⟨br, 2, none⟩) HS.out.1 _).alloc (by simpa using BB4.out.size) _)⟩
  | false =>
    have HYe := Lib.hid (show PostP acc l cl ⟨kind, day, deb, cre, amt, sub, of⟩ from HI.out.2 rfl)
    have CD := Lib.hid (done_ok bk (N + 1) o3 c3 acc cl w3 RK.out)
    clear HI CP CO
    go_wp2_with fail
    with_reducible refine Calls.mono CD.out ?_
    rintro e w4 ⟨rfl, hb⟩
    have RR4 := Lib.hid (RR3.out.next hb)
    have BB4 := Lib.hid (Below.andThen BB3.out hb)
    have RK4 := Lib.hid (RK.out.next hb)
    have OW4 := Lib.hid (LD3.out.own.next hb)
    clear hb CD
    go_upto_region 6 with (fail)
    refine wp_named fun w5 hq => ?_
    obtain ⟨bQ, eQ⟩ : ∃ b, b = w4.heap.size := ⟨_, rfl⟩
    have RQ := Lib.hid (show Row w5 bQ 24 [.int .i64 acc, .slice o3 (N + 1) c3, .int .i64 cl] from by rw [hq, eQ]; exact Row.new w4 _ _)
    have hB : Below w4.heap.size w4 w5 := by rw [hq]; (repeat' first | exact Below.refl _ _ | assumption | (refine below_drewN ?_ _) | (refine Below.drew ?_) | (refine Below.alloc ?_ ?_ _) | (refine Below.setCell ?_ ?_ _) | (simp; done) | (simp; omega) | omega)
    have RR5 := Lib.hid (RR4.out.next hB)
    have BB5 := Lib.hid (Below.andThen BB4.out hB)
    have RK5 := Lib.hid (RK4.out.next hB)
    have OW5 := Lib.hid (OW4.out.next hB)
    have HNQ := Lib.hid (show br < bQ ∧ br < bk from ⟨by rw [eQ]; exact RR4.out.lt, by have := LD3.out.le; have := HS.out; omega⟩)
    rw [← eQ]
    clear hq eQ hB RR4 BB4 RK4 OW4
    have nQ : bQ ≠ br := fun e => by have := HNQ.out; omega
    have nK : bk ≠ br := fun e => by have := HNQ.out; omega
    have a0 := RQ.out.cell 0
    have a1 := RQ.out.cell 1
    have a2 := RQ.out.cell 2
    have k0 := RK5.out.cell 0
    have q0 := RR5.out.cell 0
    have q1 := RR5.out.cell 1
    have q2 := RR5.out.cell 2
    simp only [List.getElem?_cons_zero, List.getElem?_cons_succ] at a0 a1 a2 k0 q0 q1 q2
    have la := RQ.out.lt
    have lk := RK5.out.lt
    have f0 := RR5.out.frozen 0
    have f1 := RR5.out.frozen 1
    have f2 := RR5.out.frozen 2
    have l2 := RR5.out.lt
    go_region
    go_wp2_with fail
    have RX := ((RR5.out.drew.set 0 (.int .i64 acc)).set 1 (.slice o3 (N + 1) c3)).set 2 (.int .i64 cl)
    have x0 := RX.cell 0
    have x1 := RX.cell 1
    have x2 := RX.cell 2
    simp only [List.set_cons_zero, List.set_cons_succ, List.getElem?_cons_zero, List.getElem?_cons_succ] at x0 x1 x2
    have HOW := Lib.hid (show Sq.Own poE 27 (((w5.drew.setCell ⟨br, 0, none⟩ (.int .i64 acc)).setCell ⟨br, 1, none⟩ (.slice o3 (N + 1) c3)).setCell ⟨br, 2, none⟩ (.int .i64 cl)) w.heap.size (.slice o3 (N + 1) c3) lp from by
      have h := OW5.out
      rw [HLP.out] at h
      have h0 : Sq.Own poE 27 w5.drew w1.heap.size (.slice o3 (N + 1) c3) lp := h.next (Below.refl _ _).drew
      have h1 := World.ownsRow.kept (row := some br) h0 (grown_at _ br 0 (.int .i64 acc)) (.inr (own_apart h RR5.out (by decide)))
      have h2 := World.ownsRow.kept (row := some br) h1 (grown_at _ br 1 (.slice o3 (N + 1) c3)) (.inr (own_apart h RR5.out (by decide)))
      have h3 := World.ownsRow.kept (row := some br) h2 (grown_at _ br 2 (.int .i64 cl)) (.inr (own_apart h RR5.out (by decide)))
      exact Sq.Own.lower h3 BB.out.size)
    refine bodyPost_ret (v := .tuple #[bookV acc o3 (N + 1) c3 cl, .int .i64 N, .int .i64 0]) (by first | (simp [results, Tryd.results17, go_sem]; done) | simp [results, Tryd.results17, go_sem, *]) rfl ⟨⟨fun _ => ⟨o3, c3, rfl, HOW.out⟩, fun h => absurd HYe.out h⟩, (((BB5.out.drew).setCell (p := ⟨br, 0, none⟩) HS.out.1 _).setCell (p := ⟨br, 1, none⟩) HS.out.1 _).setCell (p := ⟨br, 2, none⟩) HS.out.1 _⟩
end Bk
end Go.Proofs.YtnhlhoijajhcjaaDoor
