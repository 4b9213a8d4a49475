/- The reference's Post. -/
import Derived.Test.YtnhlhoijajhcjaaDoorBkRB
set_option linter.unusedVariables false
set_option linter.unusedSimpArgs false
set_option linter.unnecessarySimpa false
namespace Go.Proofs.YtnhlhoijajhcjaaDoor
open Go.RowKit
namespace Bk
open Sq
set_option maxRecDepth 100000 in
set_option maxHeartbeats 8000000 in
theorem rPost_any (acc cl : Int) (o : Option Addr) (N c : Nat) (l : List Po) (p : Po) (w : World) (hl : l.length = N) (hN : N ≤ 2 ^ 30) (hc : N ≤ c) (hc2 : c ≤ 9223372036854775807) (hnil : o = none → c = 0) (hS : Sl poE w o l) (hd : inI p.day) :
    Calls Tryd.prog 29 #[bookV acc o N c cl, p.v] w fun e w' => ((PostP acc l cl p → ∃ o' c', e = .returned (.tuple #[bookV acc o' (N + 1) c' cl, .int .i64 N, .int .i64 0]) ∧ Sq.Own poE 27 w' w.heap.size (.slice o' (N + 1) c') (l ++ [p])) ∧
      (¬ PostP acc l cl p → e = .returned (.tuple #[zeroBook, .int .i64 0, .int .i64 310]))) ∧ Below w.heap.size w w' := by
  have SL := Lib.hid hS
  have HL := Lib.hid hl
  have HNil := Lib.hid hnil
  clear hnil
  obtain ⟨kind, day, deb, cre, amt, sub, of⟩ := p
  unfold Po.v
  dsimp only
  go_enter Tryd.func29, Tryd.ntmps29
  go_upto_region 2 with (fail)
  refine wp_named fun w1 hq => ?_
  obtain ⟨bA, eA⟩ : ∃ b, b = w.heap.size := ⟨_, rfl⟩
  obtain ⟨bP, eP⟩ : ∃ b, b = w.heap.size + 1 := ⟨_, rfl⟩
  obtain ⟨br, er⟩ : ∃ b, b = w.heap.size + 1 + 1 := ⟨_, rfl⟩
  obtain ⟨bO, eO⟩ : ∃ b, b = w.heap.size + 1 + 1 + 1 := ⟨_, rfl⟩
  obtain ⟨r0, r1, r2, r3, hB, hs⟩ := rows4 w 24 27 24 24 [.int .i64 acc, .slice o N c, .int .i64 cl] [.int .i64 kind, .int .i64 day, .int .i64 deb, .int .i64 cre, .int .i64 amt, .int .i64 sub, .int .i64 of] [.int .i64 0, .slice none 0 0, .int .i64 0] [.int .i64 acc, .slice o N c, .int .i64 cl] w1 hq
  have HS := Lib.hid (show w.heap.size ≤ bA ∧ bA < bP ∧ bP < br ∧ br < bO ∧ bO < w1.heap.size by omega)
  rw [← eO, ← er, ← eP, ← eA]
  rw [← eA] at r0
  rw [← eP] at r1
  rw [← er] at r2
  rw [← eO] at r3
  have BB := Lib.hid hB
  have SL1 := Lib.hid (SL.out.next hB)
  have RA := Lib.hid r0
  have RP := Lib.hid r1
  have RR := Lib.hid r2
  have RO := Lib.hid r3
  clear hq er eP eA eO hB hs r0 r1 r2 r3 hS hl
  have a1 := RA.out.cell 1
  have p0 := RP.out.cell 0
  have p1 := RP.out.cell 1
  have p2 := RP.out.cell 2
  have p3 := RP.out.cell 3
  have p4 := RP.out.cell 4
  have p5 := RP.out.cell 5
  have p6 := RP.out.cell 6
  have o1 := RO.out.cell 1
  simp only [List.getElem?_cons_zero, List.getElem?_cons_succ] at a1 p0 p1 p2 p3 p4 p5 p6 o1
  have la := RA.out.lt
  have lP := RP.out.lt
  have lO := RO.out.lt
  have fO := RO.out.frozen 1
  go_cut [] (fun wx => ∃ g c', Row wx bO 24 [.int .i64 acc, .slice (some ⟨g, 0, none⟩) (N + 1) c', .int .i64 cl] ∧ Sq.Own poE 27 wx w1.heap.size (.slice (some ⟨g, 0, none⟩) (N + 1) c') (l ++ [⟨kind, day, deb, cre, amt, sub, of⟩]) ∧ N + 1 ≤ c' ∧ c' ≤ 9223372036854775807 ∧
    Row wx bP 27 [.int .i64 kind, .int .i64 day, .int .i64 deb, .int .i64 cre, .int .i64 amt, .int .i64 sub, .int .i64 of] ∧ Row wx bA 24 [.int .i64 acc, .slice o N c, .int .i64 cl] ∧ Row wx br 24 [.int .i64 0, .slice none 0 0, .int .i64 0] ∧ Sl poE wx o l ∧ Below w.heap.size w wx)
  case first =>
    go_region_law (first
      | (show (if Region.wanted _ _ = true then Oper.wp _ _ _ (World.drew (World.alloc (World.alloc _ _) _)) _ _ else _); refine step_append tyP rfl (.tmp 9) (.tmp 11) rfl w1.heap.size (.slice (some ⟨w1.heap.size, 0, none⟩) 0 0) [] rfl ((made_own poE 27 w1 [] (Nat.le_refl _) rfl rfl (by decide)).next (by repeat (first | exact Below.refl _ _ | refine Below.drew ?_ | refine Below.alloc ?_ (by simp) _))) o N c l rfl HL.out HNil.out (SL1.out.next (by repeat (first | exact Below.refl _ _ | refine Below.drew ?_ | refine Below.alloc ?_ (by simp) _))) (by simp; omega) (by simp; try omega) ?_; intro v2 w2 ho2 hg2; rw [List.nil_append] at ho2; have HO2 := Lib.hid ho2; have RA2 := Lib.hid (keep_row (RA.out.next (by repeat (first | exact Below.refl _ _ | refine Below.drew ?_ | refine Below.alloc ?_ (by simp) _))) hg2 (fun r e => by intro e2; simp [Value.ownBlock] at e; have := HS.out; omega)); have RP2 := Lib.hid (keep_row (RP.out.next (by repeat (first | exact Below.refl _ _ | refine Below.drew ?_ | refine Below.alloc ?_ (by simp) _))) hg2 (fun r e => by intro e2; simp [Value.ownBlock] at e; have := HS.out; omega)); have RR2 := Lib.hid (keep_row (RR.out.next (by repeat (first | exact Below.refl _ _ | refine Below.drew ?_ | refine Below.alloc ?_ (by simp) _))) hg2 (fun r e => by intro e2; simp [Value.ownBlock] at e; have := HS.out; omega)); have RO2 := Lib.hid (keep_row (RO.out.next (by repeat (first | exact Below.refl _ _ | refine Below.drew ?_ | refine Below.alloc ?_ (by simp) _))) hg2 (fun r e => by intro e2; simp [Value.ownBlock] at e; have := HS.out; omega)); have HB2 := Lib.hid (Below.grown (show Below w1.heap.size w1 _ from (by repeat (first | exact Below.refl _ _ | refine Below.drew ?_ | refine Below.alloc ?_ (by simp) _))) hg2 (by simp; try omega) (fun k e => by simp [Value.ownBlock] at e; omega)); have RW := Lib.hid (keep_row ((Row.new (w1.alloc (.cells #[] 27)) 27 [.int .i64 kind, .int .i64 day, .int .i64 deb, .int .i64 cre, .int .i64 amt, .int .i64 sub, .int .i64 of]).next (by repeat (first | exact Below.refl _ _ | refine Below.drew ?_ | refine Below.alloc ?_ (by simp) _))) hg2 (fun r e => by intro e2; simp [Value.ownBlock] at e e2; omega)); rw [World.size_alloc] at RW; have WB := Lib.hid (show True from trivial); have x0 := RP2.out.cell 0; have x1 := RP2.out.cell 1; have x2 := RP2.out.cell 2; have x3 := RP2.out.cell 3; have x4 := RP2.out.cell 4; have x5 := RP2.out.cell 5; have x6 := RP2.out.cell 6; have y1 := RO2.out.cell 1; simp only [List.getElem?_cons_zero, List.getElem?_cons_succ] at x0 x1 x2 x3 x4 x5 x6 y1; have xP := RP2.out.lt; have xO := RO2.out.lt; have zO := RO2.out.frozen 1)
      | (refine step_append tyP rfl (.tmp 9) (.tmp 11) rfl w1.heap.size (.slice (some ⟨w1.heap.size, 0, none⟩) 0 0) [] rfl ((made_own poE 27 w1 [] (Nat.le_refl _) rfl rfl (by decide)).next (by repeat (first | exact Below.refl _ _ | refine Below.drew ?_ | refine Below.alloc ?_ (by simp) _))) o N c l rfl HL.out HNil.out (SL1.out.next (by repeat (first | exact Below.refl _ _ | refine Below.drew ?_ | refine Below.alloc ?_ (by simp) _))) (by simp; omega) (by simp; try omega) ?_; intro v2 w2 ho2 hg2; rw [List.nil_append] at ho2; have HO2 := Lib.hid ho2; have RA2 := Lib.hid (keep_row (RA.out.next (by repeat (first | exact Below.refl _ _ | refine Below.drew ?_ | refine Below.alloc ?_ (by simp) _))) hg2 (fun r e => by intro e2; simp [Value.ownBlock] at e; have := HS.out; omega)); have RP2 := Lib.hid (keep_row (RP.out.next (by repeat (first | exact Below.refl _ _ | refine Below.drew ?_ | refine Below.alloc ?_ (by simp) _))) hg2 (fun r e => by intro e2; simp [Value.ownBlock] at e; have := HS.out; omega)); have RR2 := Lib.hid (keep_row (RR.out.next (by repeat (first | exact Below.refl _ _ | refine Below.drew ?_ | refine Below.alloc ?_ (by simp) _))) hg2 (fun r e => by intro e2; simp [Value.ownBlock] at e; have := HS.out; omega)); have RO2 := Lib.hid (keep_row (RO.out.next (by repeat (first | exact Below.refl _ _ | refine Below.drew ?_ | refine Below.alloc ?_ (by simp) _))) hg2 (fun r e => by intro e2; simp [Value.ownBlock] at e; have := HS.out; omega)); have HB2 := Lib.hid (Below.grown (show Below w1.heap.size w1 _ from (by repeat (first | exact Below.refl _ _ | refine Below.drew ?_ | refine Below.alloc ?_ (by simp) _))) hg2 (by simp; try omega) (fun k e => by simp [Value.ownBlock] at e; omega)); have x0 := RP2.out.cell 0; have x1 := RP2.out.cell 1; have x2 := RP2.out.cell 2; have x3 := RP2.out.cell 3; have x4 := RP2.out.cell 4; have x5 := RP2.out.cell 5; have x6 := RP2.out.cell 6; have y1 := RO2.out.cell 1; simp only [List.getElem?_cons_zero, List.getElem?_cons_succ] at x0 x1 x2 x3 x4 x5 x6 y1; have xP := RP2.out.lt; have xO := RO2.out.lt; have zO := RO2.out.frozen 1)
      | (refine step_append tyP rfl (.tmp 9) (.tmp 11) rfl w1.heap.size (.slice (some ⟨w1.heap.size + 1, 0, none⟩) 0 0) [] rfl ((made_own poE 27 (w1.alloc (.cells ([.int .i64 kind, .int .i64 day, .int .i64 deb, .int .i64 cre, .int .i64 amt, .int .i64 sub, .int .i64 of] : List Value).toArray 27)) [] (by simp) (by simp) rfl (by decide)).next (by repeat (first | exact Below.refl _ _ | refine Below.drew ?_ | refine Below.alloc ?_ (by simp) _))) o N c l rfl HL.out HNil.out (SL1.out.next (by repeat (first | exact Below.refl _ _ | refine Below.drew ?_ | refine Below.alloc ?_ (by simp) _))) (by simp; omega) (by simp; try omega) ?_; intro v2 w2 ho2 hg2; rw [List.nil_append] at ho2; have HO2 := Lib.hid ho2; have RA2 := Lib.hid (keep_row (RA.out.next (by repeat (first | exact Below.refl _ _ | refine Below.drew ?_ | refine Below.alloc ?_ (by simp) _))) hg2 (fun r e => by intro e2; simp [Value.ownBlock] at e; have := HS.out; omega)); have RP2 := Lib.hid (keep_row (RP.out.next (by repeat (first | exact Below.refl _ _ | refine Below.drew ?_ | refine Below.alloc ?_ (by simp) _))) hg2 (fun r e => by intro e2; simp [Value.ownBlock] at e; have := HS.out; omega)); have RR2 := Lib.hid (keep_row (RR.out.next (by repeat (first | exact Below.refl _ _ | refine Below.drew ?_ | refine Below.alloc ?_ (by simp) _))) hg2 (fun r e => by intro e2; simp [Value.ownBlock] at e; have := HS.out; omega)); have RO2 := Lib.hid (keep_row (RO.out.next (by repeat (first | exact Below.refl _ _ | refine Below.drew ?_ | refine Below.alloc ?_ (by simp) _))) hg2 (fun r e => by intro e2; simp [Value.ownBlock] at e; have := HS.out; omega)); have HB2 := Lib.hid (Below.grown (show Below w1.heap.size w1 _ from (by repeat (first | exact Below.refl _ _ | refine Below.drew ?_ | refine Below.alloc ?_ (by simp) _))) hg2 (by simp; try omega) (fun k e => by simp [Value.ownBlock] at e; omega)); have RW := Lib.hid (keep_row ((Row.new w1 27 [.int .i64 kind, .int .i64 day, .int .i64 deb, .int .i64 cre, .int .i64 amt, .int .i64 sub, .int .i64 of]).next (by repeat (first | exact Below.refl _ _ | refine Below.drew ?_ | refine Below.alloc ?_ (by simp) _))) hg2 (fun r e => by intro e2; simp [Value.ownBlock] at e e2; omega)); have x0 := RP2.out.cell 0; have x1 := RP2.out.cell 1; have x2 := RP2.out.cell 2; have x3 := RP2.out.cell 3; have x4 := RP2.out.cell 4; have x5 := RP2.out.cell 5; have x6 := RP2.out.cell 6; have y1 := RO2.out.cell 1; simp only [List.getElem?_cons_zero, List.getElem?_cons_succ] at x0 x1 x2 x3 x4 x5 x6 y1; have xP := RP2.out.lt; have xO := RO2.out.lt; have zO := RO2.out.frozen 1)
      | (refine step_append tyP rfl (.tmp 12) (.tmp 14) rfl w1.heap.size v2 l rfl (HO2.out.next (by repeat (first | exact Below.refl _ _ | refine Below.drew ?_ | refine Below.alloc ?_ (by simp) _))) (some ⟨w2.heap.size, 0, none⟩) 1 1 [⟨kind, day, deb, cre, amt, sub, of⟩] rfl rfl (fun h => by cases h) ((sl_new poE w2 _ [⟨kind, day, deb, cre, amt, sub, of⟩]).next (by repeat (first | exact Below.refl _ _ | refine Below.drew ?_ | refine Below.alloc ?_ (by simp) _))) (by rw [HL.out]; omega) (by have := HB2.out.size; simp; try omega) ?_; intro v3 w3 ho3 hg3; have HO3 := Lib.hid ho3; obtain ⟨g, c', rfl, q1, q2, q3, q4⟩ := own_is_some ho3 (k := N) (by rw [List.length_append, HL.out]; rfl); have RA3 := Lib.hid (keep_row (RA2.out.next (by repeat (first | exact Below.refl _ _ | refine Below.drew ?_ | refine Below.alloc ?_ (by simp) _))) hg3 (fun r e => by intro e2; have := own_block HO2.out r e; have := HS.out; omega)); have RP3 := Lib.hid (keep_row (RP2.out.next (by repeat (first | exact Below.refl _ _ | refine Below.drew ?_ | refine Below.alloc ?_ (by simp) _))) hg3 (fun r e => by intro e2; have := own_block HO2.out r e; have := HS.out; omega)); have RR3 := Lib.hid (keep_row (RR2.out.next (by repeat (first | exact Below.refl _ _ | refine Below.drew ?_ | refine Below.alloc ?_ (by simp) _))) hg3 (fun r e => by intro e2; have := own_block HO2.out r e; have := HS.out; omega)); have RO3 := Lib.hid (keep_row (RO2.out.next (by repeat (first | exact Below.refl _ _ | refine Below.drew ?_ | refine Below.alloc ?_ (by simp) _))) hg3 (fun r e => by intro e2; have := own_block HO2.out r e; have := HS.out; omega)); have HB3 := Lib.hid (Below.grown (Below.andThen HB2.out (show Below w2.heap.size w2 _ from (by repeat (first | exact Below.refl _ _ | refine Below.drew ?_ | refine Below.alloc ?_ (by simp) _)))) hg3 (by have := HB2.out.size; simp; try omega) (own_block HO2.out)); have u1 := RO3.out.cell 1; simp only [List.getElem?_cons_zero, List.getElem?_cons_succ] at u1; have uO := RO3.out.lt; have vO := RO3.out.frozen 1)
      | (refine step_append tyP rfl (.tmp 12) (.tmp 14) rfl w1.heap.size v2 l rfl (HO2.out.next (by repeat (first | exact Below.refl _ _ | refine Below.drew ?_ | refine Below.alloc ?_ (by simp) _))) (some ⟨w1.heap.size + 1, 0, none⟩) 1 1 [⟨kind, day, deb, cre, amt, sub, of⟩] rfl rfl (fun h => by cases h) ((row_sl (E := poE) (l := [⟨kind, day, deb, cre, amt, sub, of⟩]) RW.out).next (by repeat (first | exact Below.refl _ _ | refine Below.drew ?_ | refine Below.alloc ?_ (by simp) _))) (by rw [HL.out]; omega) (by have := HB2.out.size; simp; try omega) ?_; intro v3 w3 ho3 hg3; have HO3 := Lib.hid ho3; obtain ⟨g, c', rfl, q1, q2, q3, q4⟩ := own_is_some ho3 (k := N) (by rw [List.length_append, HL.out]; rfl); have RA3 := Lib.hid (keep_row (RA2.out.next (by repeat (first | exact Below.refl _ _ | refine Below.drew ?_ | refine Below.alloc ?_ (by simp) _))) hg3 (fun r e => by intro e2; have := own_block HO2.out r e; have := HS.out; omega)); have RP3 := Lib.hid (keep_row (RP2.out.next (by repeat (first | exact Below.refl _ _ | refine Below.drew ?_ | refine Below.alloc ?_ (by simp) _))) hg3 (fun r e => by intro e2; have := own_block HO2.out r e; have := HS.out; omega)); have RR3 := Lib.hid (keep_row (RR2.out.next (by repeat (first | exact Below.refl _ _ | refine Below.drew ?_ | refine Below.alloc ?_ (by simp) _))) hg3 (fun r e => by intro e2; have := own_block HO2.out r e; have := HS.out; omega)); have RO3 := Lib.hid (keep_row (RO2.out.next (by repeat (first | exact Below.refl _ _ | refine Below.drew ?_ | refine Below.alloc ?_ (by simp) _))) hg3 (fun r e => by intro e2; have := own_block HO2.out r e; have := HS.out; omega)); have HB3 := Lib.hid (Below.grown (Below.andThen HB2.out (show Below w2.heap.size w2 _ from (by repeat (first | exact Below.refl _ _ | refine Below.drew ?_ | refine Below.alloc ?_ (by simp) _)))) hg3 (by have := HB2.out.size; simp; try omega) (own_block HO2.out)); have u1 := RO3.out.cell 1; simp only [List.getElem?_cons_zero, List.getElem?_cons_succ] at u1; have uO := RO3.out.lt; have vO := RO3.out.frozen 1)
      | (refine step_append tyP rfl (.tmp 12) (.tmp 14) rfl w1.heap.size v2 l rfl (HO2.out.next (by repeat (first | exact Below.refl _ _ | refine Below.drew ?_ | refine Below.alloc ?_ (by simp) _))) (some ⟨w1.heap.size, 0, none⟩) 1 1 [⟨kind, day, deb, cre, amt, sub, of⟩] rfl rfl (fun h => by cases h) ((row_sl (E := poE) (l := [⟨kind, day, deb, cre, amt, sub, of⟩]) RW.out).next (by repeat (first | exact Below.refl _ _ | refine Below.drew ?_ | refine Below.alloc ?_ (by simp) _))) (by rw [HL.out]; omega) (by have := HB2.out.size; simp; try omega) ?_; intro v3 w3 ho3 hg3; have HO3 := Lib.hid ho3; obtain ⟨g, c', rfl, q1, q2, q3, q4⟩ := own_is_some ho3 (k := N) (by rw [List.length_append, HL.out]; rfl); have RA3 := Lib.hid (keep_row (RA2.out.next (by repeat (first | exact Below.refl _ _ | refine Below.drew ?_ | refine Below.alloc ?_ (by simp) _))) hg3 (fun r e => by intro e2; have := own_block HO2.out r e; have := HS.out; omega)); have RP3 := Lib.hid (keep_row (RP2.out.next (by repeat (first | exact Below.refl _ _ | refine Below.drew ?_ | refine Below.alloc ?_ (by simp) _))) hg3 (fun r e => by intro e2; have := own_block HO2.out r e; have := HS.out; omega)); have RR3 := Lib.hid (keep_row (RR2.out.next (by repeat (first | exact Below.refl _ _ | refine Below.drew ?_ | refine Below.alloc ?_ (by simp) _))) hg3 (fun r e => by intro e2; have := own_block HO2.out r e; have := HS.out; omega)); have RO3 := Lib.hid (keep_row (RO2.out.next (by repeat (first | exact Below.refl _ _ | refine Below.drew ?_ | refine Below.alloc ?_ (by simp) _))) hg3 (fun r e => by intro e2; have := own_block HO2.out r e; have := HS.out; omega)); have HB3 := Lib.hid (Below.grown (Below.andThen HB2.out (show Below w2.heap.size w2 _ from (by repeat (first | exact Below.refl _ _ | refine Below.drew ?_ | refine Below.alloc ?_ (by simp) _)))) hg3 (by have := HB2.out.size; simp; try omega) (own_block HO2.out)); have u1 := RO3.out.cell 1; simp only [List.getElem?_cons_zero, List.getElem?_cons_succ] at u1; have uO := RO3.out.lt; have vO := RO3.out.frozen 1))
    all_goals
      rename_i J K' hJ hK'
      refine hK' _ _ ?_
      refine Met.intro ?_
      refine hJ _ _ ?_
      (repeat apply Exists.intro)
      refine ⟨?_, rfl⟩
      refine ⟨g, c', RO3.out.set 1 _, ?_, q3, q4, RP3.out.other (by have := HS.out; omega) _ _, RA3.out.other (by have := HS.out; omega) _ _, RR3.out.other (by have := HS.out; omega) _ _, ?_, ?_⟩
      · exact World.ownsRow.kept (row := some bO) HO3.out (grown_at _ _ _ _) (.inr (own_apart HO3.out RO3.out (by decide)))
      · exact sl_set (SL1.out.next HB3.out) SL.out (by have := HS.out; omega) _
      · exact (Below.andThen BB.out HB3.out).setCell (p := ⟨bO, 1, none⟩) (by have := HS.out; show w.heap.size ≤ bO; omega) _
  obtain ⟨g, c', r1, ow, q3, q4, r2, r3, r4, s1, bb⟩ := hcut
  rename World => w2
  clear RA RP RR RO BB
  have RO := Lib.hid r1
  have RP := Lib.hid r2
  have RA := Lib.hid r3
  have RR := Lib.hid r4
  have SL2 := Lib.hid s1
  have BB := Lib.hid bb
  have OW := Lib.hid ow
  have HC := Lib.hid (And.intro q3 q4)
  have HGL := Lib.hid (show w1.heap.size ≤ g from own_block ow g (by simp [Value.ownBlock]))
  clear r1 ow q3 q4 r2 r3 r4 s1 bb a1 p0 p1 p2 p3 p4 p5 p6 o1 la lP lO fO
  have CV1 := Lib.hid (fun W (h : Sl poE W o l) => rValid_any acc cl o N c l W HL.out h)
  have CV2 := Lib.hid (fun W (h : Sl poE W (some ⟨g, 0, none⟩) (l ++ [⟨kind, day, deb, cre, amt, sub, of⟩])) => rValid_any acc cl (some ⟨g, 0, none⟩) (N + 1) c' (l ++ [⟨kind, day, deb, cre, amt, sub, of⟩]) W (by rw [List.length_append, HL.out]; rfl) h)
  have HI := Lib.hid (show PostP acc l cl ⟨kind, day, deb, cre, amt, sub, of⟩ ↔ (vd acc l cl = true ∧ vd acc (l ++ [⟨kind, day, deb, cre, amt, sub, of⟩]) cl = true ∧ 30 * cl ≤ day) from by rw [vd_iff, vd_iff]; exact Iff.rfl)
  have HBD := Lib.hid (fun h : vd acc l cl = true => (show 0 ≤ cl ∧ cl ≤ 12 from ⟨(vd_iff.1 h).1.2.2.1, (vd_iff.1 h).1.2.2.2.1⟩))
  obtain ⟨G1, hG1⟩ : ∃ G, vd acc l cl = G := ⟨_, rfl⟩
  obtain ⟨G2, hG2⟩ : ∃ G, vd acc (l ++ [⟨kind, day, deb, cre, amt, sub, of⟩]) cl = G := ⟨_, rfl⟩
  rw [hG1] at CV1 HI HBD
  rw [hG2] at CV2 HI
  clear hG1 hG2
  have a0 := RA.out.cell 0
  have a1 := RA.out.cell 1
  have a2 := RA.out.cell 2
  have la := RA.out.lt
  simp only [List.getElem?_cons_zero, List.getElem?_cons_succ] at a0 a1 a2
  go_wp2_with fail
  with_reducible refine Calls.mono (CV1.out _ SL2.out) ?_
  rintro e w3 ⟨rfl, hb⟩
  replace RO := Lib.hid (RO.out.next hb)
  replace RP := Lib.hid (RP.out.next hb)
  replace RA := Lib.hid (RA.out.next hb)
  replace RR := Lib.hid (RR.out.next hb)
  replace OW := Lib.hid (OW.out.next hb)
  replace BB := Lib.hid (Below.andThen BB.out hb)
  clear hb CV1 SL2
  clear a0 a1 a2 la
  cases G1 with
  | false =>
    have HNo := Lib.hid (show ¬ PostP acc l cl ⟨kind, day, deb, cre, amt, sub, of⟩ from fun h => by have := (HI.out.1 h).1; cases this)
    have q0 := RR.out.cell 0
    have q1 := RR.out.cell 1
    have q2 := RR.out.cell 2
    have lq := RR.out.lt
    simp only [List.getElem?_cons_zero, List.getElem?_cons_succ] at q0 q1 q2
    have fq0 := RR.out.frozen 0
    have fq1 := RR.out.frozen 1
    have fq2 := RR.out.frozen 2
    go_wp2_with fail
    have RXx := (((RR.out.set 0 (.int .i64 0)).set 1 (.slice none 0 0)).set 2 (.int .i64 0))
    have x0 := RXx.cell 0
    have x1 := RXx.cell 1
    have x2 := RXx.cell 2
    simp only [List.set_cons_zero, List.set_cons_succ, List.getElem?_cons_zero, List.getElem?_cons_succ] at x0 x1 x2
    clear q0 q1 q2 lq
    refine bodyPost_ret (v := .tuple #[zeroBook, .int .i64 0, .int .i64 310]) (by first | (simp [results, Tryd.results29, go_sem]; done) | simp [results, Tryd.results29, go_sem, *]) rfl ⟨⟨fun h => absurd h HNo.out, fun _ => rfl⟩, by have hbr : w.heap.size ≤ br := (by have := HS.out; omega); (repeat' first | exact Below.refl _ _ | assumption | (refine Below.andThen ?_ BB.out) | (exact BB.out.size) | (simpa using BB.out.size) | (refine below_drewN ?_ _) | (refine Below.drew ?_) | (refine Below.alloc ?_ ?_ _) | (refine Below.setCell ?_ ?_ _) | (simp; done) | (simp; omega) | omega)⟩
  | true =>
    obtain ⟨hc0, hc12⟩ := HBD.out rfl
    have o0 := RO.out.cell 0
    have o1 := RO.out.cell 1
    have o2 := RO.out.cell 2
    have lo := RO.out.lt
    simp only [List.getElem?_cons_zero, List.getElem?_cons_succ] at o0 o1 o2
    go_wp2_with fail
    with_reducible refine Calls.mono (CV2.out _ OW.out.sl) ?_
    rintro e w4 ⟨rfl, hb⟩
    replace RO := Lib.hid (RO.out.next hb)
    replace RP := Lib.hid (RP.out.next hb)
    replace RA := Lib.hid (RA.out.next hb)
    replace RR := Lib.hid (RR.out.next hb)
    replace OW := Lib.hid (OW.out.next hb)
    replace BB := Lib.hid (Below.andThen BB.out hb)
    clear hb CV2
    clear o0 o1 o2 lo
    cases G2 with
    | false =>
      have HNo := Lib.hid (show ¬ PostP acc l cl ⟨kind, day, deb, cre, amt, sub, of⟩ from fun h => by have := (HI.out.1 h).2.1; cases this)
      have q0 := RR.out.cell 0
      have q1 := RR.out.cell 1
      have q2 := RR.out.cell 2
      have lq := RR.out.lt
      simp only [List.getElem?_cons_zero, List.getElem?_cons_succ] at q0 q1 q2
      have fq0 := RR.out.frozen 0
      have fq1 := RR.out.frozen 1
      have fq2 := RR.out.frozen 2
      go_wp2_with fail
      have RXx := (((RR.out.set 0 (.int .i64 0)).set 1 (.slice none 0 0)).set 2 (.int .i64 0))
      have x0 := RXx.cell 0
      have x1 := RXx.cell 1
      have x2 := RXx.cell 2
      simp only [List.set_cons_zero, List.set_cons_succ, List.getElem?_cons_zero, List.getElem?_cons_succ] at x0 x1 x2
      clear q0 q1 q2 lq
      refine bodyPost_ret (v := .tuple #[zeroBook, .int .i64 0, .int .i64 310]) (by first | (simp [results, Tryd.results29, go_sem]; done) | simp [results, Tryd.results29, go_sem, *]) rfl ⟨⟨fun h => absurd h HNo.out, fun _ => rfl⟩, by have hbr : w.heap.size ≤ br := (by have := HS.out; omega); (repeat' first | exact Below.refl _ _ | assumption | (refine Below.andThen ?_ BB.out) | (exact BB.out.size) | (simpa using BB.out.size) | (refine below_drewN ?_ _) | (refine Below.drew ?_) | (refine Below.alloc ?_ ?_ _) | (refine Below.setCell ?_ ?_ _) | (simp; done) | (simp; omega) | omega)⟩
    | true =>
      have a0 := RA.out.cell 0
      have a1 := RA.out.cell 1
      have a2 := RA.out.cell 2
      have la := RA.out.lt
      simp only [List.getElem?_cons_zero, List.getElem?_cons_succ] at a0 a1 a2
      have p1 := RP.out.cell 1
      have lp := RP.out.lt
      simp only [List.getElem?_cons_zero, List.getElem?_cons_succ] at p1
      by_cases hd3 : day < 30 * cl
      · have HNo := Lib.hid (show ¬ PostP acc l cl ⟨kind, day, deb, cre, amt, sub, of⟩ from fun h => by have := (HI.out.1 h).2.2; omega)
        have q0 := RR.out.cell 0
        have q1 := RR.out.cell 1
        have q2 := RR.out.cell 2
        have lq := RR.out.lt
        simp only [List.getElem?_cons_zero, List.getElem?_cons_succ] at q0 q1 q2
        have fq0 := RR.out.frozen 0
        have fq1 := RR.out.frozen 1
        have fq2 := RR.out.frozen 2
        go_wp2_with fail
        have RXx := (((RR.out.set 0 (.int .i64 0)).set 1 (.slice none 0 0)).set 2 (.int .i64 0))
        have x0 := RXx.cell 0
        have x1 := RXx.cell 1
        have x2 := RXx.cell 2
        simp only [List.set_cons_zero, List.set_cons_succ, List.getElem?_cons_zero, List.getElem?_cons_succ] at x0 x1 x2
        clear q0 q1 q2 lq
        refine bodyPost_ret (v := .tuple #[zeroBook, .int .i64 0, .int .i64 310]) (by first | (simp [results, Tryd.results29, go_sem]; done) | simp [results, Tryd.results29, go_sem, *]) rfl ⟨⟨fun h => absurd h HNo.out, fun _ => rfl⟩, by have hbr : w.heap.size ≤ br := (by have := HS.out; omega); (repeat' first | exact Below.refl _ _ | assumption | (refine Below.andThen ?_ BB.out) | (exact BB.out.size) | (simpa using BB.out.size) | (refine below_drewN ?_ _) | (refine Below.drew ?_) | (refine Below.alloc ?_ ?_ _) | (refine Below.setCell ?_ ?_ _) | (simp; done) | (simp; omega) | omega)⟩
      · have HYe := Lib.hid (show PostP acc l cl ⟨kind, day, deb, cre, amt, sub, of⟩ from HI.out.2 ⟨by simp, by simp, by omega⟩)
        have nA : bA ≠ br := by have := HS.out; omega
        have nO : bO ≠ br := by have := HS.out; omega
        have o0 := RO.out.cell 0
        have o1 := RO.out.cell 1
        have o2 := RO.out.cell 2
        have lo := RO.out.lt
        simp only [List.getElem?_cons_zero, List.getElem?_cons_succ] at o0 o1 o2
        have q0 := RR.out.cell 0
        have q1 := RR.out.cell 1
        have q2 := RR.out.cell 2
        have lq := RR.out.lt
        simp only [List.getElem?_cons_zero, List.getElem?_cons_succ] at q0 q1 q2
        have fq0 := RR.out.frozen 0
        have fq1 := RR.out.frozen 1
        have fq2 := RR.out.frozen 2
        go_wp2_with fail
        go_region
        go_wp2_with fail
        have HR2 := Lib.hid RR.out.drew
        have RXx := (((HR2.out.set 0 (.int .i64 acc)).set 1 (.slice (some ⟨g, 0, none⟩) (N + 1) c')).set 2 (.int .i64 cl))
        have x0 := RXx.cell 0
        have x1 := RXx.cell 1
        have x2 := RXx.cell 2
        simp only [List.set_cons_zero, List.set_cons_succ, List.getElem?_cons_zero, List.getElem?_cons_succ] at x0 x1 x2
        have HOW := Lib.hid (show Sq.Own poE 27 (((w4.drew.setCell ⟨br, 0, none⟩ (.int .i64 acc)).setCell ⟨br, 1, none⟩ (.slice (some ⟨g, 0, none⟩) (N + 1) c')).setCell ⟨br, 2, none⟩ (.int .i64 cl)) w.heap.size (.slice (some ⟨g, 0, none⟩) (N + 1) c') (l ++ [⟨kind, day, deb, cre, amt, sub, of⟩]) from by
          have h := OW.out
          have h0 : Sq.Own poE 27 w4.drew w1.heap.size (.slice (some ⟨g, 0, none⟩) (N + 1) c') _ := h.next (Below.refl _ _).drew
          have h1 := World.ownsRow.kept (row := some br) h0 (grown_at _ br 0 (.int .i64 acc)) (.inr (own_apart h RR.out (by decide)))
          have h2 := World.ownsRow.kept (row := some br) h1 (grown_at _ br 1 (.slice (some ⟨g, 0, none⟩) (N + 1) c')) (.inr (own_apart h RR.out (by decide)))
          have h3 := World.ownsRow.kept (row := some br) h2 (grown_at _ br 2 (.int .i64 cl)) (.inr (own_apart h RR.out (by decide)))
          exact Sq.Own.lower h3 (by have := HS.out; omega))
        refine bodyPost_ret (v := .tuple #[bookV acc (some ⟨g, 0, none⟩) (N + 1) c' cl, .int .i64 N, .int .i64 0]) (by first | (simp [results, Tryd.results29, go_sem]; done) | simp [results, Tryd.results29, go_sem, *]) rfl ⟨⟨fun _ => ⟨some ⟨g, 0, none⟩, c', rfl, HOW.out⟩, fun h => absurd HYe.out h⟩, (((BB.out.drew).setCell (p := ⟨br, 0, none⟩) (by have := HS.out; show w.heap.size ≤ br; omega) _).setCell (p := ⟨br, 1, none⟩) (by have := HS.out; show w.heap.size ≤ br; omega) _).setCell (p := ⟨br, 2, none⟩) (by have := HS.out; show w.heap.size ≤ br; omega) _⟩
end Bk
end Go.Proofs.YtnhlhoijajhcjaaDoor
