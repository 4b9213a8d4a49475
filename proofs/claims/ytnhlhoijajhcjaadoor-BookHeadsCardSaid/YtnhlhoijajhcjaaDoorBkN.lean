/- Dispute. -/
import Derived.Test.YtnhlhoijajhcjaaDoorBkM
set_option linter.unusedVariables false
set_option linter.unusedSimpArgs false
set_option linter.unnecessarySimpa false
namespace Go.Proofs.YtnhlhoijajhcjaaDoor
open Go.RowKit
namespace Bk
open Sq
theorem own_apart_len {α : Type} {E : El α} {e t : TypeId} {w : World} {B0 b n c : Nat} {o : Option Addr} {l : List α} {C : List Value} (h : Sq.Own E e w B0 (.slice o n c) l) (hr : Row w b t C) (hn : C.length < l.length * E.k) : (Value.slice o n c).ownBlock ≠ some b := by
  intro hb
  rcases h.2 with ⟨h1, h2⟩ | ⟨g, cap, cur, h1, _, h3, h4, _, h5, _⟩
  · obtain ⟨rfl, -, -⟩ := Value.slice.inj h1
    cases hb
  · obtain ⟨rfl, -, -⟩ := Value.slice.inj h1
    simp [Value.ownBlock] at hb
    subst hb
    rw [show w.heap[g]? = _ from hr] at h3
    cases h3
    have := Nat.mul_le_mul_right E.k h4
    simp at h5
    omega
theorem disp_none {acc cl i day amt : Int} {l : List Po} (h : ¬ (0 ≤ i ∧ i < l.length ∧ 0 ≤ amt ∧ amt ≤ 1000000000)) : disp acc l cl i day amt = none := if_neg h
theorem disp_zero {acc cl day : Int} {l : List Po} {k : Nat} (hk : k < l.length) : disp acc l cl k day 0 = if (!vd acc l cl || failed acc cl l (back (at' l k) k day)) = false then some (l ++ [back (at' l k) k day]) else none := by
  unfold disp
  rw [if_pos ⟨by omega, by omega, by decide, by decide⟩, Int.toNat_natCast]
  unfold post
  by_cases h : PostP acc l cl (back (at' l k) k day)
  · rw [if_pos h, if_pos (post_iff.1 h)]
    rfl
  · rw [if_neg h, if_neg (fun g => h (post_iff.2 g))]
theorem disp_more {acc cl day amt : Int} {l : List Po} {k : Nat} (hk : k < l.length) (ha : 0 < amt) (hb : amt ≤ 1000000000) :
    disp acc l cl k day amt = if ((!vd acc l cl || failed acc cl l (back (at' l k) k day)) || failed acc cl (l ++ [back (at' l k) k day]) (again (at' l k) day amt)) = false then some ((l ++ [back (at' l k) k day]) ++ [again (at' l k) day amt]) else none := by
  unfold disp
  rw [if_pos ⟨by omega, by omega, by omega, hb⟩, Int.toNat_natCast]
  unfold post
  by_cases h : PostP acc l cl (back (at' l k) k day)
  · rw [if_pos h]
    show (if amt = 0 then _ else _) = _
    rw [if_neg (by omega)]
    have h1 := post_iff.1 h
    have h2 : vd acc (l ++ [back (at' l k) k day]) cl = true := vd_iff.2 h.2.1
    by_cases g : PostP acc (l ++ [back (at' l k) k day]) cl (again (at' l k) day amt)
    · have g1 := post_iff.1 g
      rw [Bool.or_eq_false_iff] at g1
      rw [if_pos g, if_pos (by rw [h1, g1.2]; rfl)]
    · rw [if_neg g, if_neg (fun e => g (post_iff.2 (by rw [Bool.or_eq_false_iff] at e; rw [h2, e.2]; rfl)))]
  · rw [if_neg h, if_neg (fun e => h (post_iff.2 (by rw [Bool.or_eq_false_iff] at e; exact e.1)))]
theorem disp_cases {i amt : Int} {N : Nat} (h : ¬ (0 ≤ i ∧ i < N ∧ 0 ≤ amt ∧ amt ≤ 1000000000)) : i < 0 ∨ (¬ i < 0 ∧ (N : Int) ≤ i) ∨ (¬ i < 0 ∧ ¬ (N : Int) ≤ i ∧ amt < 0) ∨ (¬ i < 0 ∧ ¬ (N : Int) ≤ i ∧ ¬ amt < 0 ∧ 1000000000 < amt) := by omega
set_option maxRecDepth 100000 in
set_option maxHeartbeats 2000000 in
theorem dispute_bad (acc cl i day amt : Int) (o : Option Addr) (N c : Nat) (w : World) (h : ¬ (0 ≤ i ∧ i < N ∧ 0 ≤ amt ∧ amt ≤ 1000000000)) : Calls Tryd.prog 19 #[bookV acc o N c cl, .int .i64 i, .int .i64 day, .int .i64 amt] w fun e w' => e = .returned (.tuple #[zeroBook, .int .i64 310]) ∧ Below w.heap.size w w' := by
  have g := disp_cases h
  clear h
  rcases g with h | ⟨h, h1⟩ | ⟨h, h1, h2⟩ | ⟨h, h1, h2, h3⟩
  all_goals
    go_enter Tryd.func19, Tryd.ntmps19
    go_wp2_with fail
    refine bodyPost_ret (v := .tuple #[zeroBook, .int .i64 310]) (by first | (simp [results, Tryd.results19, go_sem]; done) | simp [results, Tryd.results19, go_sem, *]) rfl ⟨rfl, by (repeat' first | exact Below.refl _ _ | assumption | (refine below_drewN ?_ _) | (refine Below.drew ?_) | (refine Below.alloc ?_ ?_ _) | (refine Below.setCell ?_ ?_ _) | (simp; done) | (simp; omega) | omega)⟩
set_option maxRecDepth 100000 in
set_option maxHeartbeats 8000000 in
theorem dispute_go (acc cl i day amt : Int) (k : Nat) (hi : i = k) (o : Option Addr) (N c : Nat) (l : List Po) (w : World) (hl : l.length = N) (hN : N ≤ 2 ^ 29) (hc : N ≤ c) (hc2 : c ≤ 9223372036854775807) (hnil : o = none → c = 0) (hS : Sl poE w o l) (hd : inI day) (hk : k < N) (ha : 0 ≤ amt) (ha2 : amt ≤ 1000000000) :
    Calls Tryd.prog 19 #[bookV acc o N c cl, .int .i64 i, .int .i64 day, .int .i64 amt] w fun e w' => ((∀ l2, disp acc l cl i day amt = some l2 → ∃ o' c', e = .returned (.tuple #[bookV acc o' l2.length c' cl, .int .i64 0]) ∧ Sq.Own poE 27 w' w.heap.size (.slice o' l2.length c') l2) ∧
      (disp acc l cl i day amt = none → e = .returned (.tuple #[zeroBook, .int .i64 310]))) ∧ Below w.heap.size w w' := by
  subst hi
  have CO := Lib.hid (fun W (h : Sl poE W o l) => open_any acc cl o N c l W hl (by omega) hc hc2 hnil h)
  have CP1 := Lib.hid (fun B0 bk o c fl W (h : Led W B0 bk o c acc cl fl l) hB => post_any B0 bk o c acc cl fl l (back (at' l k) k day) W h hd hB (by omega))
  have CP2 := Lib.hid (fun B0 bk o c fl W (h : Led W B0 bk o c acc cl fl (l ++ [back (at' l k) k day])) hB => post_any B0 bk o c acc cl fl (l ++ [back (at' l k) k day]) (again (at' l k) day amt) W h hd hB (by rw [List.length_append, hl]; show N + 1 ≤ 2 ^ 30; omega))
  have HZ := Lib.hid (fun (e : amt = 0) => (show disp acc l cl k day amt = (if (!vd acc l cl || failed acc cl l (back (at' l k) k day)) = false then some (l ++ [back (at' l k) k day]) else none) from by rw [e]; exact disp_zero (acc := acc) (cl := cl) (day := day) (k := k) (by rw [hl]; exact hk)))
  have HM := Lib.hid (fun (e : 0 < amt) => disp_more (acc := acc) (cl := cl) (day := day) (k := k) (l := l) (by rw [hl]; exact hk) e ha2)
  have SL := Lib.hid hS
  have HL := Lib.hid hl
  have H1 := Lib.hid (show (l ++ [back (at' l k) k day]).length = N + 1 by rw [List.length_append, hl]; rfl)
  have H2 := Lib.hid (show ((l ++ [back (at' l k) k day]) ++ [again (at' l k) day amt]).length = N + 1 + 1 by rw [List.length_append, H1.out]; rfl)
  obtain ⟨G, hG⟩ : ∃ G, (!vd acc l cl) = G := ⟨_, rfl⟩
  rw [hG] at CO HZ HM
  obtain ⟨D, hD⟩ : ∃ D, disp acc l cl k day amt = D := ⟨_, rfl⟩
  rw [hD] at HZ HM ⊢
  obtain ⟨F1, hF1⟩ : ∃ F, (G || failed acc cl l (back (at' l k) k day)) = F := ⟨_, rfl⟩
  have CP1' := Lib.hid (fun B0 bk o c W (h : Led W B0 bk o c acc cl G l) hB => CP1.out B0 bk o c G W h hB)
  rw [hF1] at HZ HM CP1'
  obtain ⟨F2, hF2⟩ : ∃ F, (F1 || failed acc cl (l ++ [back (at' l k) k day]) (again (at' l k) day amt)) = F := ⟨_, rfl⟩
  have CP2' := Lib.hid (fun B0 bk o c W (h : Led W B0 bk o c acc cl F1 (l ++ [back (at' l k) k day])) hB => CP2.out B0 bk o c F1 W h hB)
  rw [hF2] at HM CP2'
  clear CP1 CP2 hG hD hF1 hF2 hnil hd
  have CELL := Lib.hid (fun W o (h : Sl poE W o l) => (show ∃ b off, o = some ⟨b, off, none⟩ ∧ b < W.heap.size ∧ At7 W b (off + k * 7) (at' l k) from by
    obtain ⟨b, off, rfl, -, -⟩ := h.cells (fun e => by rw [e] at hl; simp at hl; omega)
    exact ⟨b, off, rfl, sl_at h (by rw [hl]; exact hk)⟩))
  unfold back Po.v at CP1'
  unfold back again Po.v at CP2'
  dsimp only at CP1' CP2'
  obtain ⟨l1, hl1⟩ : ∃ l1, l ++ [back (at' l k) k day] = l1 := ⟨_, rfl⟩
  obtain ⟨l2, hl2⟩ : ∃ l2, l1 ++ [again (at' l k) day amt] = l2 := ⟨_, rfl⟩
  unfold back at hl1
  unfold again at hl2
  have HZ' := HZ
  have HM' := HM
  unfold back at HZ' HM' H1 H2
  unfold again at HM' H2
  rw [hl1] at HZ' HM' CP1' CP2' H1 H2
  rw [hl2] at HM' CP2' H2
  clear HZ HM hl1 hl2
  generalize at' l k = q at *
  obtain ⟨kind, day', deb, cre, amt', sub, of⟩ := q
  dsimp only at *
  have d1 : ¬ (k : Int) < 0 := by omega
  have d2 : ¬ (N : Int) ≤ k := by omega
  have d3 : ¬ amt < 0 := by omega
  have d4 : ¬ 1000000000 < amt := by omega
  go_enter Tryd.func19, Tryd.ntmps19
  go_upto_region 3 with (fail)
  refine wp_named fun w1 hq => ?_
  obtain ⟨bA, eA⟩ : ∃ b, b = w.heap.size := ⟨_, rfl⟩
  obtain ⟨br, er⟩ : ∃ b, b = w.heap.size + 1 := ⟨_, rfl⟩
  obtain ⟨r0, r1, hB, hs⟩ := rows2 w 24 24 [.int .i64 acc, .slice o N c, .int .i64 cl] [.int .i64 0, .slice none 0 0, .int .i64 0] w1 hq
  have HS := Lib.hid (show w.heap.size ≤ br ∧ br < w1.heap.size by omega)
  rw [← er, ← eA]
  rw [← eA] at r0
  rw [← er] at r1
  have BB := Lib.hid hB
  replace SL := Lib.hid (SL.out.next hB)
  have RR := Lib.hid r1
  have a0 := r0.cell 0
  have a1 := r0.cell 1
  have a2 := r0.cell 2
  simp only [List.getElem?_cons_zero, List.getElem?_cons_succ] at a0 a1 a2
  have la := r0.lt
  clear hq er eA hB hs r0 r1 d1 d2 d3 d4
  go_wp2_with fail
  refine Calls.mono (CO.out _ SL.out) ?_
  rintro e w2 ⟨bk, o2, c2, rfl, hL, hb⟩
  clear a0 a1 a2 la
  have LD := Lib.hid hL
  have RR2 := Lib.hid (RR.out.next hb)
  have BB2 := Lib.hid (Below.andThen BB.out hb)
  have HB2 := Lib.hid hb
  have RK2 := Lib.hid hL.row
  rw [HL.out] at RK2
  have how := own_block LD.out.own
  have hle := LD.out.le
  have HLE := Lib.hid (show br < bk ∧ ∀ j, (Value.slice o2 l.length c2).ownBlock = some j → w1.heap.size ≤ j ∧ j < w2.heap.size from ⟨by have := HS.out; omega, fun j hj => ⟨how j hj, own_lt LD.out.own j hj⟩⟩)
  obtain ⟨be, fe, rfl, lbe, e0, e1, e2, e3, e4, e5, e6⟩ := CELL.out w2 o2 (by obtain ⟨o', c', e, -, -, -, hs⟩ := LD.out.own.vw; obtain ⟨e1, -, -⟩ := Value.slice.inj e; rw [e1]; exact hs)
  dsimp only at e0 e1 e2 e3 e4 e5 e6
  have k0 := RK2.out.cell 0
  simp only [List.getElem?_cons_zero, List.getElem?_cons_succ] at k0
  have lk := RK2.out.lt
  clear hb hL how hle CELL CO
  go_upto_region 5 with (fail)
  refine wp_named fun w3 hq => ?_
  obtain ⟨bO, eO⟩ : ∃ b, b = w2.heap.size := ⟨_, rfl⟩
  have RO := Lib.hid (show Row w3 bO 27 [.int .i64 kind, .int .i64 day', .int .i64 deb, .int .i64 cre, .int .i64 amt', .int .i64 sub, .int .i64 of] from by rw [hq, eO]; exact Row.new w2 _ _)
  have hB : Below w2.heap.size w2 w3 := by rw [hq]; (repeat' first | exact Below.refl _ _ | assumption | (refine below_drewN ?_ _) | (refine Below.drew ?_) | (refine Below.alloc ?_ ?_ _) | (refine Below.setCell ?_ ?_ _) | (simp; done) | (simp; omega) | omega)
  have RR3 := Lib.hid (RR2.out.next hB)
  have BB3 := Lib.hid (Below.andThen BB2.out hB)
  have LD3 := Lib.hid (LD.out.next hB)
  have HS3 := Lib.hid (show w1.heap.size ≤ w3.heap.size ∧ bk < bO ∧ w2.heap.size ≤ bO from ⟨Nat.le_trans HB2.out.size hB.size, by rw [eO]; exact RK2.out.lt, by omega⟩)
  rw [← eO]
  clear hq eO hB e0 e1 e2 e3 e4 e5 e6 k0 lk lbe
  have p0 := RO.out.cell 0
  have p1 := RO.out.cell 1
  have p2 := RO.out.cell 2
  have p3 := RO.out.cell 3
  have p4 := RO.out.cell 4
  have p5 := RO.out.cell 5
  have p6 := RO.out.cell 6
  simp only [List.getElem?_cons_zero, List.getElem?_cons_succ] at p0 p1 p2 p3 p4 p5 p6
  have lP := RO.out.lt
  go_wp2_with fail
  refine Calls.mono (CP1'.out _ _ _ _ _ LD3.out HS3.out.1) ?_
  rintro e w4 ⟨v4, o4, c4, rfl, hL, hM⟩
  have RR4 := Lib.hid (hM.row RR3.out (by have := HLE.out.1; omega) (fun e => by have := (HLE.out.2 _ e).1; have := HS.out; omega))
  have RO4 := Lib.hid (hM.row RO.out (by have := HS3.out; omega) (fun e => by have := (HLE.out.2 _ e).2; have := HS3.out; omega))
  have BB4 := Lib.hid (BB3.out.trans (hM.under BB3.out.size (by have := HS.out; have := HLE.out.1; omega) (fun j hj => by have := (HLE.out.2 j hj).1; have := BB.out.size; omega)))
  have LD4 := Lib.hid hL
  have RK4 := Lib.hid hL.row
  rw [H1.out] at RK4
  have HS4 := Lib.hid (show w1.heap.size ≤ w4.heap.size from Nat.le_trans HS3.out.1 hM.size)
  have HOA := Lib.hid (show ∀ j, (Value.slice o4 l1.length c4).ownBlock = some j → w1.heap.size ≤ j from own_block hL.own)
  clear p0 p1 p2 p3 p4 p5 p6 lP hL hM CP1'
  by_cases hz : 0 < amt
  · have HD0 := Lib.hid (HM'.out hz)
    have dz : ¬ amt ≤ 0 := by omega
    have r1 := RO4.out.cell 1
    have r4 := RO4.out.cell 4
    simp only [List.getElem?_cons_zero, List.getElem?_cons_succ] at r1 r4
    have g1 := RO4.out.frozen 1
    have g4 := RO4.out.frozen 4
    have lO := RO4.out.lt
    go_upto_region 8 with (fail)
    refine wp_named fun w5 hq => ?_
    have RO5 := Lib.hid (show Row w5 bO 27 [.int .i64 kind, .int .i64 day, .int .i64 deb, .int .i64 cre, .int .i64 amt, .int .i64 sub, .int .i64 of] from by rw [hq]; exact (RO4.out.set 1 _).set 4 _)
    have NEr := Lib.hid (show br ≠ bO ∧ bk ≠ bO ∧ w.heap.size ≤ bO from by have := HLE.out.1; have := HS3.out; have := HS.out; omega)
    have RR5 := Lib.hid (show Row w5 br _ _ from by rw [hq]; exact (RR4.out.other NEr.out.1 _ _).other NEr.out.1 _ _)
    have BB5 := Lib.hid (show Below w.heap.size w w5 from by rw [hq]; exact (BB4.out.setCell (p := ⟨bO, 1, none⟩) NEr.out.2.2 _).setCell (p := ⟨bO, 4, none⟩) NEr.out.2.2 _)
    have HNO := Lib.hid (show (Value.slice o4 l1.length c4).ownBlock ≠ some bO from own_apart_len LD4.out.own RO4.out (by rw [H1.out]; show 7 < (N + 1) * 7; omega))
    have LD5 := Lib.hid (show Led w5 w1.heap.size bk o4 c4 acc cl F1 l1 from by
      rw [hq]
      exact ⟨(LD4.out.row.other NEr.out.2.1 _ _).other NEr.out.2.1 _ _, World.ownsRow.kept (row := some bO) (World.ownsRow.kept (row := some bO) LD4.out.own (grown_at _ bO 1 _) (.inr HNO.out)) (grown_at _ bO 4 _) (.inr HNO.out), LD4.out.le⟩)
    have HS5 := Lib.hid (show w1.heap.size ≤ w5.heap.size from by rw [hq]; simpa using HS4.out)
    clear hq r1 r4 g1 g4 lO dz
    have p0 := RO5.out.cell 0
    have p1 := RO5.out.cell 1
    have p2 := RO5.out.cell 2
    have p3 := RO5.out.cell 3
    have p4 := RO5.out.cell 4
    have p5 := RO5.out.cell 5
    have p6 := RO5.out.cell 6
    simp only [List.getElem?_cons_zero, List.getElem?_cons_succ] at p0 p1 p2 p3 p4 p5 p6
    have lP := RO5.out.lt
    go_wp2_with fail
    refine Calls.mono (CP2'.out _ _ _ _ _ LD5.out HS5.out) ?_
    rintro e w6 ⟨v6, o6, c6, rfl, hL, hM⟩
    have RR6 := Lib.hid (hM.row RR5.out (by have := HLE.out.1; omega) (fun e => by have := HOA.out _ e; have := HS.out; omega))
    have BB6 := Lib.hid (BB5.out.trans (hM.under BB5.out.size (by have := HS.out; have := HLE.out.1; omega) (fun j hj => by have := HOA.out j hj; have := BB.out.size; omega)))
    have LD6 := Lib.hid hL
    have RK6 := Lib.hid hL.row
    rw [H2.out] at RK6
    clear p0 p1 p2 p3 p4 p5 p6 lP hL hM CP2' HZ' HM'
    cases F2 with
    | true =>
      have HD := Lib.hid (HD0.out.trans (if_neg (fun h => by cases h)))
      have CD := Lib.hid (done_bad bk (N + 1 + 1) o6 c6 acc cl w6 RK6.out)
      go_wp2_with fail
      with_reducible refine Calls.mono CD.out ?_
      rintro e w9 ⟨rfl, hb⟩
      have RR9 := Lib.hid (RR6.out.next hb)
      have BB9 := Lib.hid (Below.andThen BB6.out hb)
      have OW9 := Lib.hid (LD6.out.own.next hb)
      clear hb CD
      have q0 := RR9.out.cell 0
      have q1 := RR9.out.cell 1
      have q2 := RR9.out.cell 2
      simp only [List.getElem?_cons_zero, List.getElem?_cons_succ] at q0 q1 q2
      have f0 := RR9.out.frozen 0
      have f1 := RR9.out.frozen 1
      have f2 := RR9.out.frozen 2
      have l2' := RR9.out.lt
      go_wp2_with fail
      have RX := ((RR9.out.set 0 (.int .i64 0)).set 1 (.slice none 0 0)).set 2 (.int .i64 0)
      have x0 := RX.cell 0
      have x1 := RX.cell 1
      have x2 := RX.cell 2
      simp only [List.set_cons_zero, List.set_cons_succ, List.getElem?_cons_zero, List.getElem?_cons_succ] at x0 x1 x2
      refine bodyPost_ret (v := .tuple #[zeroBook, .int .i64 310]) (by first | (simp [results, Tryd.results19, go_sem]; done) | simp [results, Tryd.results19, go_sem, *]) rfl ⟨⟨(fun l2 h => by rw [HD.out] at h; cases h), fun _ => rfl⟩, ((BB9.out.setCell (p := ⟨br, 0, none⟩) HS.out.1 _).setCell (p := ⟨br, 1, none⟩) HS.out.1 _).setCell (p := ⟨br, 2, none⟩) HS.out.1 _⟩
    | false =>
      have HD := Lib.hid (HD0.out.trans (if_pos rfl))
      have CD := Lib.hid (done_ok bk (N + 1 + 1) o6 c6 acc cl w6 RK6.out)
      go_wp2_with fail
      with_reducible refine Calls.mono CD.out ?_
      rintro e w9 ⟨rfl, hb⟩
      have RR9 := Lib.hid (RR6.out.next hb)
      have BB9 := Lib.hid (Below.andThen BB6.out hb)
      have OW9 := Lib.hid (LD6.out.own.next hb)
      clear hb CD
      have q0 := RR9.out.cell 0
      have q1 := RR9.out.cell 1
      have q2 := RR9.out.cell 2
      simp only [List.getElem?_cons_zero, List.getElem?_cons_succ] at q0 q1 q2
      have f0 := RR9.out.frozen 0
      have f1 := RR9.out.frozen 1
      have f2 := RR9.out.frozen 2
      have l2' := RR9.out.lt
      go_wp2_with fail
      have RX := ((RR9.out.set 0 (.int .i64 acc)).set 1 (.slice o6 (N + 1 + 1) c6)).set 2 (.int .i64 cl)
      have x0 := RX.cell 0
      have x1 := RX.cell 1
      have x2 := RX.cell 2
      simp only [List.set_cons_zero, List.set_cons_succ, List.getElem?_cons_zero, List.getElem?_cons_succ] at x0 x1 x2
      have HOW := Lib.hid (show Sq.Own poE 27 (((w9.setCell ⟨br, 0, none⟩ (.int .i64 acc)).setCell ⟨br, 1, none⟩ (.slice o6 (N + 1 + 1) c6)).setCell ⟨br, 2, none⟩ (.int .i64 cl)) w.heap.size (.slice o6 (N + 1 + 1) c6) l2 from by
        have h := OW9.out
        rw [H2.out] at h
        have h1 := World.ownsRow.kept (row := some br) h (grown_at _ br 0 (.int .i64 acc)) (.inr (own_apart h RR9.out (by decide)))
        have h2 := World.ownsRow.kept (row := some br) h1 (grown_at _ br 1 (.slice o6 (N + 1 + 1) c6)) (.inr (own_apart h RR9.out (by decide)))
        have h3 := World.ownsRow.kept (row := some br) h2 (grown_at _ br 2 (.int .i64 cl)) (.inr (own_apart h RR9.out (by decide)))
        exact Sq.Own.lower h3 BB.out.size)
      refine bodyPost_ret (v := .tuple #[bookV acc o6 (N + 1 + 1) c6 cl, .int .i64 0]) (by first | (simp [results, Tryd.results19, go_sem]; done) | simp [results, Tryd.results19, go_sem, *]) rfl ⟨⟨(fun l3 h => by rw [HD.out] at h; cases h; exact ⟨o6, c6, by rw [H2.out], by rw [H2.out]; exact HOW.out⟩), (fun h => by rw [HD.out] at h; cases h)⟩, ((BB9.out.setCell (p := ⟨br, 0, none⟩) HS.out.1 _).setCell (p := ⟨br, 1, none⟩) HS.out.1 _).setCell (p := ⟨br, 2, none⟩) HS.out.1 _⟩
  · obtain rfl : amt = 0 := by omega
    have HD0 := Lib.hid (HZ'.out rfl)
    clear CP2' HZ' HM'
    cases F1 with
    | true =>
      have HD := Lib.hid (HD0.out.trans (if_neg (fun h => by cases h)))
      have CD := Lib.hid (done_bad bk (N + 1) o4 c4 acc cl w4 RK4.out)
      go_wp2_with fail
      with_reducible refine Calls.mono CD.out ?_
      rintro e w9 ⟨rfl, hb⟩
      have RR9 := Lib.hid (RR4.out.next hb)
      have BB9 := Lib.hid (Below.andThen BB4.out hb)
      have OW9 := Lib.hid (LD4.out.own.next hb)
      clear hb CD
      have q0 := RR9.out.cell 0
      have q1 := RR9.out.cell 1
      have q2 := RR9.out.cell 2
      simp only [List.getElem?_cons_zero, List.getElem?_cons_succ] at q0 q1 q2
      have f0 := RR9.out.frozen 0
      have f1 := RR9.out.frozen 1
      have f2 := RR9.out.frozen 2
      have l2' := RR9.out.lt
      go_wp2_with fail
      have RX := ((RR9.out.set 0 (.int .i64 0)).set 1 (.slice none 0 0)).set 2 (.int .i64 0)
      have x0 := RX.cell 0
      have x1 := RX.cell 1
      have x2 := RX.cell 2
      simp only [List.set_cons_zero, List.set_cons_succ, List.getElem?_cons_zero, List.getElem?_cons_succ] at x0 x1 x2
      refine bodyPost_ret (v := .tuple #[zeroBook, .int .i64 310]) (by first | (simp [results, Tryd.results19, go_sem]; done) | simp [results, Tryd.results19, go_sem, *]) rfl ⟨⟨(fun l2 h => by rw [HD.out] at h; cases h), fun _ => rfl⟩, ((BB9.out.setCell (p := ⟨br, 0, none⟩) HS.out.1 _).setCell (p := ⟨br, 1, none⟩) HS.out.1 _).setCell (p := ⟨br, 2, none⟩) HS.out.1 _⟩
    | false =>
      have HD := Lib.hid (HD0.out.trans (if_pos rfl))
      have CD := Lib.hid (done_ok bk (N + 1) o4 c4 acc cl w4 RK4.out)
      go_wp2_with fail
      with_reducible refine Calls.mono CD.out ?_
      rintro e w9 ⟨rfl, hb⟩
      have RR9 := Lib.hid (RR4.out.next hb)
      have BB9 := Lib.hid (Below.andThen BB4.out hb)
      have OW9 := Lib.hid (LD4.out.own.next hb)
      clear hb CD
      have q0 := RR9.out.cell 0
      have q1 := RR9.out.cell 1
      have q2 := RR9.out.cell 2
      simp only [List.getElem?_cons_zero, List.getElem?_cons_succ] at q0 q1 q2
      have f0 := RR9.out.frozen 0
      have f1 := RR9.out.frozen 1
      have f2 := RR9.out.frozen 2
      have l2' := RR9.out.lt
      go_wp2_with fail
      have RX := ((RR9.out.set 0 (.int .i64 acc)).set 1 (.slice o4 (N + 1) c4)).set 2 (.int .i64 cl)
      have x0 := RX.cell 0
      have x1 := RX.cell 1
      have x2 := RX.cell 2
      simp only [List.set_cons_zero, List.set_cons_succ, List.getElem?_cons_zero, List.getElem?_cons_succ] at x0 x1 x2
      have HOW := Lib.hid (show Sq.Own poE 27 (((w9.setCell ⟨br, 0, none⟩ (.int .i64 acc)).setCell ⟨br, 1, none⟩ (.slice o4 (N + 1) c4)).setCell ⟨br, 2, none⟩ (.int .i64 cl)) w.heap.size (.slice o4 (N + 1) c4) l1 from by
        have h := OW9.out
        rw [H1.out] at h
        have h1 := World.ownsRow.kept (row := some br) h (grown_at _ br 0 (.int .i64 acc)) (.inr (own_apart h RR9.out (by decide)))
        have h2 := World.ownsRow.kept (row := some br) h1 (grown_at _ br 1 (.slice o4 (N + 1) c4)) (.inr (own_apart h RR9.out (by decide)))
        have h3 := World.ownsRow.kept (row := some br) h2 (grown_at _ br 2 (.int .i64 cl)) (.inr (own_apart h RR9.out (by decide)))
        exact Sq.Own.lower h3 BB.out.size)
      refine bodyPost_ret (v := .tuple #[bookV acc o4 (N + 1) c4 cl, .int .i64 0]) (by first | (simp [results, Tryd.results19, go_sem]; done) | simp [results, Tryd.results19, go_sem, *]) rfl ⟨⟨(fun l3 h => by rw [HD.out] at h; cases h; exact ⟨o4, c4, by rw [H1.out], by rw [H1.out]; exact HOW.out⟩), (fun h => by rw [HD.out] at h; cases h)⟩, ((BB9.out.setCell (p := ⟨br, 0, none⟩) HS.out.1 _).setCell (p := ⟨br, 1, none⟩) HS.out.1 _).setCell (p := ⟨br, 2, none⟩) HS.out.1 _⟩
end Bk
end Go.Proofs.YtnhlhoijajhcjaaDoor
