/- The reference's Parts: month by month. -/
import Derived.Test.YtdldokhiefeloaaDoorCalRA
namespace Go.Proofs.YtdldokhiefeloaaDoor
open Go.RowKit

def preD : Nat → Int
  | 0 => 0
  | j + 1 => preD j + daysZ ((1999 + j / 12 : Nat) : Int) ((j % 12 + 1 : Nat) : Int)
theorem preD_first (k : Nat) : preD (k + 11) = firstM k + 365 := by
  induction k with
  | zero => decide
  | succ k ih =>
    obtain ⟨h1, h2⟩ := stM_ym k
    rw [show k + 1 + 11 = (k + 11) + 1 by omega]
    unfold preD
    rw [ih, firstM_succ, h1, h2]
    have e : ((1999 + (k + 11) / 12 : Nat) : Int) = 1999 + (((k + 11) / 12 - 0 : Nat) : Int) := by omega
    rw [e]
    omega
theorem preD_mono {i j : Nat} (h : i ≤ j) : preD i ≤ preD j := by
  obtain ⟨e, rfl⟩ := Nat.exists_eq_add_of_le h
  clear h
  induction e with
  | zero => exact Int.le_refl _
  | succ e ih =>
    have := (daysZ_bd ((1999 + (i + e) / 12 : Nat) : Int) (((i + e) % 12 + 1 : Nat) : Int)).1
    have e1 : preD (i + (e + 1)) = preD (i + e) + daysZ ((1999 + (i + e) / 12 : Nat) : Int) (((i + e) % 12 + 1 : Nat) : Int) := rfl
    omega

set_option maxRecDepth 100000 in
set_option maxHeartbeats 4000000 in
theorem refParts_any (m o : Int) (w : World) :
    Calls Tryd.prog 44 #[.int .i64 m, .int .i64 o] w fun e w' => e = .returned (.tuple #[civA (partsR m o), .int .i64 (partsE m o)]) ∧ Below w.heap.size w w' := by
  have HM := Lib.hid (fun w => refRight_any m o w)
  obtain ⟨R, hR⟩ : ∃ R, R = partsR m o := ⟨_, rfl⟩
  obtain ⟨E, hE⟩ : ∃ E, E = partsE m o := ⟨_, rfl⟩
  rw [← hR, ← hE]
  unfold partsR at hR
  unfold partsE at hE
  cases hg : (minuteB m && offsetB o)
  · rw [hg] at hR hE HM
    simp only [Bool.false_eq_true, if_false] at hR hE
    subst hR hE
    clear hg
    go_enter Tryd.func44, Tryd.ntmps44
    go_wp2_with (refine Calls.mono (HM.out _) ?_; rintro e w' ⟨rfl, rfl⟩)
    refine bodyPost_ret (v := .tuple #[civV 0 0 0 0 0 0, .int .i64 60]) (by first | (simp [results, Tryd.results44, go_sem]; done) | simp [results, Tryd.results44, go_sem, *]) rfl ⟨rfl, by (repeat' first | with_reducible exact Below.refl _ _ | with_reducible assumption | (with_reducible refine below_drewN ?_ _) | (with_reducible refine Below.drew ?_) | (with_reducible refine Below.alloc ?_ ?_ _) | (with_reducible refine Below.setCell ?_ ?_ _) | omega | (simp; done) | (simp; omega))⟩
  · have km : 0 ≤ m ∧ m ≤ 50000000 := by rw [Bool.and_eq_true] at hg; have := hg.1; unfold minuteB at this; simpa using this
    have ko : -840 ≤ o ∧ o ≤ 840 := by rw [Bool.and_eq_true] at hg; have := hg.2; unfold offsetB at this; simpa using this
    rw [hg] at HM
    rw [hg] at hR hE
    simp only [if_true] at hR hE
    subst hE
    clear hg
    obtain ⟨D0, D1, D2, D3, D4⟩ := day_bd (L := m + o) (by omega) (by omega)
    obtain ⟨M0, M1, M2, M3⟩ := mIdx_spec (day := dayOf (m + o)) (by omega) (by omega)
    obtain ⟨s1, s2⟩ := stM_ym (mIdx (dayOf (m + o)))
    have hR2 : R = (⟨(stM (mIdx (dayOf (m + o)))).1, (stM (mIdx (dayOf (m + o)))).2.1, dayOf (m + o) - firstM (mIdx (dayOf (m + o))) + 1, timeOf (m + o) / 60, timeOf (m + o) % 60, (dayOf (m + o) + 12) % 7⟩ : Civ) := hR
    clear hR
    clear M3
    have P0 := preD_first (mIdx (dayOf (m + o)))
    have P1 := preD_first (mIdx (dayOf (m + o)) + 1)
    generalize mIdx (dayOf (m + o)) = k at *
    obtain ⟨K, hK⟩ : ∃ K, K = k + 11 := ⟨_, rfl⟩
    rw [← hK] at P0 s1 s2
    rw [show k + 1 + 11 = K + 1 by omega] at P1
    obtain ⟨q, hq⟩ : ∃ q, q = (m + o + 525600) / 1440 := ⟨_, rfl⟩
    have hq2 : q = dayOf (m + o) + 365 := by rw [hq]; unfold dayOf; omega
    obtain ⟨t, ht⟩ : ∃ t, t = (m + o + 525600) % 1440 := ⟨_, rfl⟩
    have ht2 : t = timeOf (m + o) := by rw [ht]; unfold timeOf; omega
    have ht3 : t % 60 = (m + o + 525600) % 60 := by rw [ht]; omega
    have stop1 : preD K ≤ q := by omega
    have stop2 : q < preD (K + 1) := by omega
    have MONO := Lib.hid (fun j (h : j < K) => Int.le_trans (preD_mono (show j + 1 ≤ K from h)) stop1)
    have HR := Lib.hid (show R = (⟨((1999 + K / 12 : Nat) : Int), ((K % 12 + 1 : Nat) : Int), q - preD K + 1, t / 60, t % 60, (4 + q) % 7⟩ : Civ) by
      rw [hR2]
      refine Civ.ext' ?_ ?_ ?_ ?_ ?_ ?_ <;> dsimp only <;> omega)
    have bq : 0 ≤ q ∧ q ≤ 35100 := by omega
    have bt : 0 ≤ t ∧ t < 1440 := by omega
    have HK := Lib.hid (show K ≤ 1211 by omega)
    have ST1 := Lib.hid stop1
    have ST2 := Lib.hid stop2
    have HQ := Lib.hid hq
    have HT := Lib.hid ht
    have HT3 := Lib.hid ht3
    have c1 : 0 ≤ m + o + 525600 := by omega
    clear hq ht ht2 ht3 hq2 hR2 s1 s2 P0 P1 M0 M1 M2 D0 D1 D2 D3 D4 hK stop1 stop2 k
    obtain ⟨km0, km1⟩ := km
    obtain ⟨ko0, ko1⟩ := ko
    obtain ⟨bq0, bq1⟩ := bq
    obtain ⟨bt0, bt1⟩ := bt
    go_enter Tryd.func44, Tryd.ntmps44
    go_wp2_with (first | (with_reducible refine Calls.mono (HM.out _) ?_; rintro e w' ⟨rfl, rfl⟩) | fail)
    rw [← HQ.out, ← HT.out, ← HT3.out]
    have R4 : Row ((w.alloc (.cells #[.int .i64 0, .int .i64 0, .int .i64 0, .int .i64 0, .int .i64 0, .int .i64 0] 57)).alloc (.cells #[.int .i64 1999, .int .i64 1, .int .i64 1, .int .i64 (t / 60), .int .i64 (t % 60), .int .i64 ((4 + q) % 7)] 57)) w.heap.size 57 [.int .i64 0, .int .i64 0, .int .i64 0, .int .i64 0, .int .i64 0, .int .i64 0] := (Row.new w 57 [.int .i64 0, .int .i64 0, .int .i64 0, .int .i64 0, .int .i64 0, .int .i64 0]).alloc _
    have R7 : Row ((w.alloc (.cells #[.int .i64 0, .int .i64 0, .int .i64 0, .int .i64 0, .int .i64 0, .int .i64 0] 57)).alloc (.cells #[.int .i64 1999, .int .i64 1, .int .i64 1, .int .i64 (t / 60), .int .i64 (t % 60), .int .i64 ((4 + q) % 7)] 57)) (w.heap.size + 1) 57 [.int .i64 1999, .int .i64 1, .int .i64 1, .int .i64 (t / 60), .int .i64 (t % 60), .int .i64 ((4 + q) % 7)] := by
      have h := Row.new (w.alloc (.cells #[.int .i64 0, .int .i64 0, .int .i64 0, .int .i64 0, .int .i64 0, .int .i64 0] 57)) 57 [.int .i64 1999, .int .i64 1, .int .i64 1, .int .i64 (t / 60), .int .i64 (t % 60), .int .i64 ((4 + q) % 7)]
      rw [World.size_alloc] at h
      exact h
    have BW : Below w.heap.size w ((w.alloc (.cells #[.int .i64 0, .int .i64 0, .int .i64 0, .int .i64 0, .int .i64 0, .int .i64 0] 57)).alloc (.cells #[.int .i64 1999, .int .i64 1, .int .i64 1, .int .i64 (t / 60), .int .i64 (t % 60), .int .i64 ((4 + q) % 7)] 57)) := by (repeat' first | with_reducible exact Below.refl _ _ | with_reducible assumption | (with_reducible refine below_drewN ?_ _) | (with_reducible refine Below.drew ?_) | (with_reducible refine Below.alloc ?_ ?_ _) | (with_reducible refine Below.setCell ?_ ?_ _) | omega | (simp; done) | (simp; omega))
    generalize ((w.alloc (.cells #[.int .i64 0, .int .i64 0, .int .i64 0, .int .i64 0, .int .i64 0, .int .i64 0] 57)).alloc (.cells #[.int .i64 1999, .int .i64 1, .int .i64 1, .int .i64 (t / 60), .int .i64 (t % 60), .int .i64 ((4 + q) % 7)] 57)) = w4 at *
    have G4 := Lib.hid R4
    have G7 := Lib.hid R7
    have GW := Lib.hid BW
    clear R4 R7 BW
    go_loopw [8] (fun d wr => ∃ j : Nat, j ≤ K ∧ d = .int .i64 (q - preD j) ∧ Row wr w.heap.size 57 [.int .i64 0, .int .i64 0, .int .i64 0, .int .i64 0, .int .i64 0, .int .i64 0] ∧ Row wr (w.heap.size + 1) 57 [.int .i64 ((1999 + j / 12 : Nat) : Int), .int .i64 ((j % 12 + 1 : Nat) : Int), .int .i64 1, .int .i64 (t / 60), .int .i64 (t % 60), .int .i64 ((4 + q) % 7)] ∧ Below w.heap.size w wr) (fun d _ => (intOf d).toNat)
    case atStart => exact ⟨0, Nat.zero_le _, by simp [preD], G4.out, G7.out, GW.out⟩
    case round =>
      obtain ⟨j, hj, rfl, R4, R7, BW⟩ := hrel
      clear G4 G7 GW
      have hK := HK.out
      have PS := Lib.hid (show preD (j + 1) = preD j + daysZ ((1999 + j / 12 : Nat) : Int) ((j % 12 + 1 : Nat) : Int) from rfl)
      have D28 := daysZ_low (y := ((1999 + j / 12 : Nat) : Int)) (m := ((j % 12 + 1 : Nat) : Int)) (by omega)
      have D31 := (daysZ_bd ((1999 + j / 12 : Nat) : Int) ((j % 12 + 1 : Nat) : Int)).2
      have HD := Lib.hid (fun w => refDays_any ((1999 + j / 12 : Nat) : Int) ((j % 12 + 1 : Nat) : Int) w)
      have pj0 := preD_mono (Nat.zero_le j)
      have pj1 := preD_mono hj
      rw [show preD 0 = 0 from rfl] at pj0
      have sK := ST1.out
      have NEXT := Lib.hid (show ((1999 + (j + 1) / 12 : Nat) : Int) = (if j % 12 + 1 = 12 then ((1999 + j / 12 : Nat) : Int) + 1 else ((1999 + j / 12 : Nat) : Int)) ∧ (((j + 1) % 12 + 1 : Nat) : Int) = (if j % 12 + 1 = 12 then 1 else ((j % 12 + 1 : Nat) : Int) + 1) by
        constructor <;> split <;> omega)
      obtain ⟨y, hy⟩ : ∃ y : Int, y = ((1999 + j / 12 : Nat) : Int) := ⟨_, rfl⟩
      obtain ⟨mo, hmo⟩ : ∃ y : Int, y = ((j % 12 + 1 : Nat) : Int) := ⟨_, rfl⟩
      have by0 : 1999 ≤ y := by omega
      have by1 : y ≤ 2200 := by omega
      have bm0 : 1 ≤ mo := by omega
      have bm1 : mo ≤ 12 := by omega
      have HJ := Lib.hid (show (j % 12 + 1 = 12) ↔ mo = 12 by omega)
      have HRK := Lib.hid (fun (h : j = K) => show R = (⟨y, mo, q - preD j + 1, t / 60, t % 60, (4 + q) % 7⟩ : Civ) by rw [HR.out, hy, hmo, h])
      rw [← hy, ← hmo] at PS HD NEXT D28 D31 R7
      clear hy hmo
      generalize daysZ y mo = DD at *
      generalize hP : preD j = P at *
      have c0 := R7.cell 0
      have c1 := R7.cell 1
      simp only [List.getElem?_cons_zero, List.getElem?_cons_succ] at c0 c1
      have A7 := Lib.hid R7
      have A4 := Lib.hid R4
      have AW := Lib.hid BW
      clear R7 R4 BW
      by_cases hjK : j = K
      · have hR := HRK.out hjK
        subst hR
        have hlt : q - P < DD := by have := ST2.out; rw [← hjK, PS.out] at this; omega
        go_wp2_with fail
        refine (HD.out _).mono ?_
        rintro e w5 ⟨rfl, hb⟩
        have B7 := Lib.hid (A7.out.next hb)
        have B4 := Lib.hid (A4.out.next hb)
        have BB := Lib.hid (Below.andThen AW.out hb)
        clear hb c0 c1
        have e0 := B7.out.cell 0
        have e1 := B7.out.cell 1
        have e2 := B7.out.cell 2
        have e3 := B7.out.cell 3
        have e4 := B7.out.cell 4
        have e5 := B7.out.cell 5
        simp only [List.getElem?_cons_zero, List.getElem?_cons_succ] at e0 e1 e2 e3 e4 e5
        have f7 := B7.out.frozen
        have l7 := B7.out.lt
        have g0 := B4.out.cell 0
        have g1 := B4.out.cell 1
        have g2 := B4.out.cell 2
        have g3 := B4.out.cell 3
        have g4 := B4.out.cell 4
        have g5 := B4.out.cell 5
        simp only [List.getElem?_cons_zero, List.getElem?_cons_succ] at g0 g1 g2 g3 g4 g5
        have f4 := B4.out.frozen
        have l4 := B4.out.lt
        go_wp2
        refine bodyPost_ret (v := .tuple #[civV y mo (q - P + 1) (t / 60) (t % 60) ((4 + q) % 7), .int .i64 0]) (by first | (simp [results, Tryd.results44, go_sem]; done) | simp [results, Tryd.results44, go_sem, *]) rfl ⟨rfl, ?_⟩
        have bb := BB.out
        (repeat' first | with_reducible exact Below.refl _ _ | with_reducible assumption | (with_reducible refine below_drewN ?_ _) | (with_reducible refine Below.drew ?_) | (with_reducible refine Below.alloc ?_ ?_ _) | (with_reducible refine Below.setCell ?_ ?_ _) | omega | (simp; done) | (simp; omega))
      · have hge : ¬ (q - P < DD) := by have := MONO.out j (by omega); rw [PS.out] at this; omega
        have hjK2 : j < K := by omega
        by_cases h12 : mo = 12
        · have hn := NEXT.out
          rw [if_pos (HJ.out.2 h12), if_pos (HJ.out.2 h12)] at hn
          subst h12
          have HN := Lib.hid hn
          clear hn
          go_wp2_with fail
          refine (HD.out _).mono ?_
          rintro e w5 ⟨rfl, hb⟩
          have B7 := Lib.hid (A7.out.next hb)
          have B4 := Lib.hid (A4.out.next hb)
          have BB := Lib.hid (Below.andThen AW.out hb)
          clear hb c0 c1
          have e0 := B7.out.cell 0
          have e1 := B7.out.cell 1
          have e2 := B7.out.cell 2
          have e3 := B7.out.cell 3
          have e4 := B7.out.cell 4
          have e5 := B7.out.cell 5
          simp only [List.getElem?_cons_zero, List.getElem?_cons_succ] at e0 e1 e2 e3 e4 e5
          have f7 := B7.out.frozen
          have l7 := B7.out.lt
          go_upto_region 16 with fail
          obtain ⟨w6, e6⟩ : ∃ w6, w6 = w5.setCell ⟨w.heap.size + 1, 1, none⟩ (.int .i64 13) := ⟨_, rfl⟩
          rw [← e6]
          have R9 := B7.out.set 1 (.int .i64 13)
          have R8 := B4.out.other (show w.heap.size ≠ w.heap.size + 1 by omega) 1 (.int .i64 13)
          have B9 : Below w.heap.size w (w5.setCell ⟨w.heap.size + 1, 1, none⟩ (.int .i64 13)) := BB.out.setCell (show w.heap.size ≤ w.heap.size + 1 by omega) _
          simp only [List.set_cons_zero, List.set_cons_succ] at R9
          rw [← e6] at R9 R8 B9
          clear e6 e0 e1 e2 e3 e4 e5 f7 l7 B7 B4 BB
          have e0 := R9.cell 0
          have e1 := R9.cell 1
          simp only [List.getElem?_cons_zero, List.getElem?_cons_succ] at e0 e1
          have f7 := R9.frozen
          have l7 := R9.lt
          have Q9 := Lib.hid R9
          have Q8 := Lib.hid R8
          have QB := Lib.hid B9
          clear R9 R8 B9
          go_wp2
          go_roundw
          case rel =>
            refine ⟨j + 1, by omega, by rw [PS.out]; go_num, (Q8.out.other (show w.heap.size ≠ w.heap.size + 1 by omega) _ _).other (show w.heap.size ≠ w.heap.size + 1 by omega) _ _, ?_, (QB.out.setCell (show w.heap.size ≤ w.heap.size + 1 by omega) _).setCell (show w.heap.size ≤ w.heap.size + 1 by omega) _⟩
            have h := (Q9.out.set 1 (.int .i64 1)).set 0 (.int .i64 (y + 1))
            simp only [List.set_cons_zero, List.set_cons_succ] at h
            rw [HN.out.1, HN.out.2]
            exact h
          case measure => simp [intOf]; omega
        · have hm13 : (mo + 1 == 13) = false := by rw [beq_eq_false_iff_ne]; omega
          have hn := NEXT.out
          rw [if_neg (fun h => h12 (HJ.out.1 h)), if_neg (fun h => h12 (HJ.out.1 h))] at hn
          have HN := Lib.hid hn
          clear hn
          go_wp2_with fail
          refine (HD.out _).mono ?_
          rintro e w5 ⟨rfl, hb⟩
          have B7 := Lib.hid (A7.out.next hb)
          have B4 := Lib.hid (A4.out.next hb)
          have BB := Lib.hid (Below.andThen AW.out hb)
          clear hb c0 c1
          have e0 := B7.out.cell 0
          have e1 := B7.out.cell 1
          have e2 := B7.out.cell 2
          have e3 := B7.out.cell 3
          have e4 := B7.out.cell 4
          have e5 := B7.out.cell 5
          simp only [List.getElem?_cons_zero, List.getElem?_cons_succ] at e0 e1 e2 e3 e4 e5
          have f7 := B7.out.frozen
          have l7 := B7.out.lt
          go_wp2
          go_roundw
          case rel =>
            refine ⟨j + 1, by omega, by rw [PS.out]; go_num, B4.out.other (show w.heap.size ≠ w.heap.size + 1 by omega) _ _, ?_, BB.out.setCell (show w.heap.size ≤ w.heap.size + 1 by omega) _⟩
            have h := B7.out.set 1 (.int .i64 (mo + 1))
            simp only [List.set_cons_zero, List.set_cons_succ] at h
            rw [HN.out.1, HN.out.2]
            exact h
          case measure => simp [intOf]; omega
end Go.Proofs.YtdldokhiefeloaaDoor
