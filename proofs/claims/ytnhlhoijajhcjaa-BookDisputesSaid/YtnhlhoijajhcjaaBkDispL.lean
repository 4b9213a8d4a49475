/- BookDisputes. -/
import Derived.Test.YtnhlhoijajhcjaaBkY
import Derived.Test.YtnhlhoijajhcjaaBkSums
set_option linter.unusedVariables false
set_option linter.unusedSimpArgs false
namespace Go.Proofs.Ytnhlhoijajhcjaa
open Go.RowKit
namespace Bk
open Sq
set_option maxRecDepth 100000 in
set_option maxHeartbeats 16000000 in
theorem disputes_walk (na : Int) (ol : Option Addr) (nl cap : Nat) (L : List F5) (which later amount : Int) (w : World) (hna : inI na) (hV : Fv w ol nl L) (hwh : inI which) (hla : inI later) (ham : inI amount) :
    Calls Try.prog 6 #[.int .i64 na, .slice ol nl cap, .int .i64 which, .int .i64 later, .int .i64 amount] w fun e w' => e = .returned (.bool true) ∧ Below w.heap.size w w' := by
  have BB := Lib.hid (Below.refl w.heap.size w)
  have HV := Lib.hid hV
  have CM := Lib.hid (fun W (h : Fv W ol nl L) => rMade_any na ol nl cap L W hna h.1 h.2.1 h.2.2.1 h.2.2.2)
  clear hV hna
  go_enter Try.func6, Try.ntmps6
  go_wp2_with fail
  with_reducible refine Calls.mono (sane_any _) ?_
  rintro e w1 ⟨rfl, hb⟩
  replace HV := Lib.hid (HV.out.next hb)
  replace BB := Lib.hid (Below.andThen BB.out hb)
  clear hb
  go_wp2_with fail
  with_reducible refine Calls.mono (CM.out _ HV.out) ?_
  rintro e w2 ⟨⟨acc, l, cl⟩, o, N, c, rfl, hw, hG, hb⟩
  dsimp only at hw
  have hacc := hG.acc
  have HLen := Lib.hid hG.2.2.1
  have HSub := Lib.hid hG.2.2.2
  have hvd := hG.2.1
  have hav := hG.1
  dsimp only at hvd hav
  rw [← hav] at hacc
  clear hav hG
  obtain ⟨A, rfl⟩ : ∃ A : Nat, acc = A := ⟨acc.toNat, by omega⟩
  have HVd := Lib.hid hvd
  have hA12 : A ≤ 12 := by omega
  have hA2 : 2 ≤ A := by omega
  have BW := Lib.hid hw
  replace HV := Lib.hid (HV.out.next hb)
  replace BB := Lib.hid (Below.andThen BB.out hb)
  clear hb hw hvd hacc CM
  go_upto_region 3 with (fail)
  refine wp_named fun w3 hq => ?_
  obtain ⟨bB, eB⟩ : ∃ b, b = w2.heap.size := ⟨_, rfl⟩
  have RB := Lib.hid (show Row w3 bB 24 [.int .i64 A, .slice o N c, .int .i64 cl] from by rw [hq, eB]; exact Row.new w2 _ _)
  have hB : Below w2.heap.size w2 w3 := by rw [hq]; (repeat' first | exact Below.refl _ _ | assumption | (refine below_drewN ?_ _) | (refine Below.drew ?_) | (refine Below.alloc ?_ ?_ _) | (refine Below.setCell ?_ ?_ _) | (simp; done) | (simp; omega) | omega)
  have hbB : w.heap.size ≤ bB := by rw [eB]; exact BB.out.size
  replace HV := Lib.hid (HV.out.next hB)
  replace BW := Lib.hid (BW.out.next hB)
  replace BB := Lib.hid (Below.andThen BB.out hB)
  rw [← eB]
  clear hq hB eB
  clear HV
  have HL := Lib.hid BW.out.1
  have a0 := RB.out.cell 0
  have a1 := RB.out.cell 1
  have a2 := RB.out.cell 2
  have la := RB.out.lt
  simp only [List.getElem?_cons_zero, List.getElem?_cons_succ] at a0 a1 a2
  by_cases h0 : N = 0
  · subst h0
    go_wp2_with fail
    go_ret
    exact ⟨rfl, BB.out⟩
  · obtain ⟨M, rfl⟩ : ∃ M, N = M + 1 := ⟨N - 1, by omega⟩
    clear h0
    have hM : M + 1 ≤ 48 := by rw [← HL.out]; exact HLen.out
    have P1 := Lib.hid (fun W => pick_any which ((M : Int) + 1) W hwh (by omega) (by omega))
    have q1 := pick_in which (n := (M : Int) + 1) (by omega)
    have P2 := Lib.hid (fun W => pick_any later 60 W hla (by decide) (by decide))
    have q2 := pick_in later (n := 60) (by decide)
    have P3 := Lib.hid (fun W => pick_any amount 1000 W ham (by decide) (by decide))
    have q3 := pick_in amount (n := 1000) (by decide)
    obtain ⟨i, hi⟩ : ∃ i : Nat, pickZ which ((M : Int) + 1) = i := ⟨(pickZ which ((M : Int) + 1)).toNat, by omega⟩
    rw [hi] at P1 q1
    clear hi
    generalize pickZ later 60 = pl at *
    generalize pickZ amount 1000 = n at *
    have hiM : i < M + 1 := by omega
    clear q1 hwh hla ham
    obtain ⟨b1, f1, rfl, -, -⟩ := BW.out.2.2.2.2.cells (fun e => by have := HL.out; rw [e] at this; simp at this)
    obtain ⟨lb1, x0, x1, x2, x3, x4, x5, x6⟩ := sl_at BW.out.2.2.2.2 (k := i) (by rw [HL.out]; exact hiM)
    have k0 : (0 : Int) ≤ i := by omega
    have k1 : (i : Int) < (M : Int) + 1 := by omega
    have hq := (HVd.out.2 i (by rw [HL.out]; exact hiM)).1
    have HYes := Lib.hid (fun day n h1 h2 h3 h4 h5 h6 => disp_yes (day := day) (n := n) HVd.out (show l.length ≤ 100 by rw [HL.out]; omega) (i := i) (by rw [HL.out]; exact hiM) h1 h2 h3 h4 h5 h6)
    have HNot := Lib.hid (fun day n h1 h2 => disp_not (acc := A) (cl := cl) (l := l) (i := i) (day := day) (n := n) h1 h2)
    have HOT := Lib.hid (fun day n v1 v2 hk s t => oT_after (acc := A) (cl := cl) (l := l) (i := i) (by rw [HL.out]; exact hiM) (day := day) (n := n) v1 v2 hk s t)
    have HST := Lib.hid (fun day n m t => sT_after (l := l) (i := i) (day := day) (n := n) m t)
    have HRV := Lib.hid (fun day n => (show rev (afterD l i day n) i = true from rev_after))
    have HAT := Lib.hid (fun day n => (show at' (afterD l i day n) i = at' l i from at_after (by rw [HL.out]; exact hiM)))
    have hqf := hq
    obtain ⟨hkd, -, hdeb, hcre, hne, hamt, hsub⟩ := hqf
    have HQ6 := Lib.hid (HSub.out _ (at_mem (l := l) (i := i) (by rw [HL.out]; exact hiM)))
    have HAT2 := HAT
    have HQV := Lib.hid (show ∃ q, q = at' l i from ⟨_, rfl⟩)
    obtain ⟨q, hqe⟩ := HQV.out
    have HQE := Lib.hid hqe
    rw [← hqe] at x0 x1 x2 x3 x4 x5 x6 hkd hdeb hcre hne hamt hsub HQ6 HYes HNot HOT HST HAT
    clear hqe HQV hq
    obtain ⟨kind, day0, deb, cre, amt, sub, of⟩ := q
    dsimp only at x0 x1 x2 x3 x4 x5 x6 hkd hdeb hcre hne hamt hsub HQ6 HYes HNot HOT
    go_upto_region 7 with (go_at_call 14; with_reducible refine Calls.mono (P1.out _) ?_; rintro e w' ⟨rfl, rfl⟩)
    clear P1 x0 x1 x2 x3 x4 x5 x6 lb1
    refine wp_named fun w4 hq => ?_
    obtain ⟨bP, eP⟩ : ∃ b, b = w3.heap.size := ⟨_, rfl⟩
    have RP := Lib.hid (show Row w4 bP 27 [.int .i64 kind, .int .i64 day0, .int .i64 deb, .int .i64 cre, .int .i64 amt, .int .i64 sub, .int .i64 of] from by rw [hq, eP]; exact Row.new w3 _ _)
    have hB : Below w3.heap.size w3 w4 := by rw [hq]; (repeat' first | exact Below.refl _ _ | assumption | (refine below_drewN ?_ _) | (refine Below.drew ?_) | (refine Below.alloc ?_ ?_ _) | (refine Below.setCell ?_ ?_ _) | (simp; done) | (simp; omega) | omega)
    replace RB := Lib.hid (RB.out.next hB)
    replace BW := Lib.hid (BW.out.next hB)
    replace BB := Lib.hid (Below.andThen BB.out hB)
    rw [← eP]
    clear hq eP hB
    clear a0 a1 a2 la
    have a0 := RB.out.cell 0
    have a1 := RB.out.cell 1
    have a2 := RB.out.cell 2
    have la := RB.out.lt
    simp only [List.getElem?_cons_zero, List.getElem?_cons_succ] at a0 a1 a2
    obtain ⟨lb1, -, y1, -, -, -, -, -⟩ := sl_at BW.out.2.2.2.2 (k := M) (by rw [HL.out]; omega)
    have hlast := (HVd.out.2 M (by rw [HL.out]; omega)).1.2.1
    have hcl := HVd.out.1.2.2
    have HUp := Lib.hid (fun day h => days_last HVd.out HL.out (day := day) h)
    generalize (at' l M).day = ld at *
    have j1 : (M : Int) + 1 - 1 = M := by omega
    have hm30 : 30 * cl ≤ 360 := by omega
    have hm0 : 0 ≤ 30 * cl := by omega
    refine wp_region_kin (by kernel_rfl) (by kernel_rfl) w4.heap.size 0 (by simp) (fun hk => ?_)
    repeat (go_big_quiet_step ((go_at_call 14; with_reducible exact Calls.kin_same (P2.out _))))
    refine wpQuiet_nil ?_
    clear hk
    intro w5 hb
    replace RB := Lib.hid (RB.out.next hb)
    replace BW := Lib.hid (BW.out.next hb)
    replace RP := Lib.hid (RP.out.next hb)
    replace BB := Lib.hid (Below.andThen BB.out hb)
    clear hb
    clear y1 lb1 j1
    clear a0 a1 a2 la
    obtain ⟨day, hday⟩ : ∃ d, min 359 (max ld (30 * cl) + pl) = d := ⟨_, rfl⟩
    have hd : (cl < 12 → 30 * cl ≤ day) ∧ ld ≤ day ∧ 0 ≤ day ∧ day ≤ 359 := by
      rw [← hday]
      omega
    try rw [hday]
    clear hday P2
    have HRF := Lib.hid (show ∀ j, j < M + 1 → (at' l j).of = i → rev l i = true from fun j hj e => by
      have hf := (HVd.out.2 j (by rw [HL.out]; exact hj)).1.1
      exact rev_iff.2 ⟨j, by rw [HL.out]; exact hj, by rcases hf with ⟨_, h⟩ | ⟨h, _⟩ <;> omega, e⟩)
    have HRN := Lib.hid (show (∀ j, j < M + 1 → (at' l j).of ≠ i) → rev l i = false from fun h => by
      cases hr : rev l i with
      | false => rfl
      | true =>
        obtain ⟨j, h1, _, h3⟩ := rev_iff.1 hr
        exact absurd h3 (h j (by rw [← HL.out]; exact h1)))
    have a0 := RB.out.cell 0
    have a1 := RB.out.cell 1
    have a2 := RB.out.cell 2
    have la := RB.out.lt
    simp only [List.getElem?_cons_zero, List.getElem?_cons_succ] at a0 a1 a2
    go_wp2_with (go_at_call 14; with_reducible refine Calls.mono (P3.out _) ?_; rintro e w' ⟨rfl, rfl⟩)
    go_loopw [17, 18] (fun sv tv wx => ∃ k : Nat, tv = .int .i64 k ∧ k ≤ M + 1 ∧ ((sv = .bool false ∧ ∀ j, j < k → (at' l j).of ≠ i) ∨ (sv = .bool true ∧ rev l i = true)) ∧ Below w5.heap.size w5 wx) (fun _ tv _ => M + 1 - (intOf tv).toNat)
    case atStart => exact ⟨0, rfl, Nat.zero_le _, .inl ⟨rfl, fun j h => absurd h (Nat.not_lt_zero _)⟩, Below.refl _ _⟩
    case round =>
      obtain ⟨k, rfl, hk, hs, hx⟩ := hrel
      rename World => wx
      clear a0 a1 a2 la
      replace RB := Lib.hid (RB.out.next hx)
      replace RP := Lib.hid (RP.out.next hx)
      replace BW := Lib.hid (BW.out.next hx)
      replace BB := Lib.hid (Below.andThen BB.out hx)
      have HX := Lib.hid hx
      clear hx
      have a0 := RB.out.cell 0
      have a1 := RB.out.cell 1
      have a2 := RB.out.cell 2
      have la := RB.out.lt
      simp only [List.getElem?_cons_zero, List.getElem?_cons_succ] at a0 a1 a2
      by_cases hlt : k < M + 1
      · rcases hs with ⟨rfl, hall⟩ | ⟨rfl, hrev⟩
        · obtain ⟨lb1, y0, y1, y2, y3, y4, y5, y6⟩ := sl_at BW.out.2.2.2.2 (k := k) (by rw [HL.out]; exact hlt)
          have HAll := Lib.hid hall
          clear hall
          have i0 : (0 : Int) ≤ k := by omega
          have i1 : (k : Int) < (M : Int) + 1 := by omega
          by_cases hof : (at' l k).of = i
          · have HR := Lib.hid (HRF.out k hlt hof)
            rw [hof] at y6
            clear HAll hof
            go_wp2_with fail
            go_roundw
            case rel => exact ⟨k + 1, by go_num, by omega, .inr ⟨by first | rfl | trivial | simp, HR.out⟩, HX.out⟩
            case measure => first | (simp [intOf]; done) | (simp [intOf]; omega)
          · have HR := Lib.hid (show ∀ j, j < k + 1 → (at' l j).of ≠ i from fun j h2 => by
              by_cases e : j = k
              · subst e; exact hof
              · exact HAll.out j (by omega))
            generalize (at' l k).of = fo at *
            clear HAll
            go_wp2_with fail
            go_roundw
            case rel => exact ⟨k + 1, by go_num, by omega, .inl ⟨by first | rfl | trivial | simp [hof], HR.out⟩, HX.out⟩
            case measure => first | (simp [intOf]; done) | (simp [intOf]; omega)
        · have HRE := Lib.hid hrev
          clear hrev
          go_wp2_with fail
          go_roundw
          case rel => exact ⟨k + 1, by go_num, by omega, .inr ⟨by first | rfl | trivial | simp, HRE.out⟩, HX.out⟩
          case measure => first | (simp [intOf]; done) | (simp [intOf]; omega)
      · obtain rfl : k = M + 1 := by omega
        clear HX HRF
        have hcl2 := HVd.out.1.2.2
        have hnn : (0 : Int) ≤ n ∧ n < 1000 := q3
        rcases hs with ⟨rfl, hall⟩ | ⟨rfl, hrev⟩
        · have HR := Lib.hid (HRN.out hall)
          clear hall HRN
          by_cases hk1 : kind = 1
          · subst hk1
            by_cases h12 : cl = 12
            · subst h12
              have CD := Lib.hid (fun W o c (h : BkW W o (M + 1) c l) => disp_no (HNot.out day n (by omega) (.inr (.inr rfl))) (show M + 1 ≤ 2 ^ 29 by omega) (show inI day from ⟨by omega, by omega⟩) h)
              go_wp2_with fail
              with_reducible refine Calls.mono (CD.out _ _ _ BW.out) ?_
              rintro e w6 ⟨⟨o6, N6, c6, rfl⟩, hb⟩
              replace RB := Lib.hid (RB.out.next hb)
              replace RP := Lib.hid (RP.out.next hb)
              replace BB := Lib.hid (Below.andThen BB.out hb)
              clear hb CD
              clear a0 a1 a2 la
              have a0 := RB.out.cell 0
              have a1 := RB.out.cell 1
              have a2 := RB.out.cell 2
              have la := RB.out.lt
              simp only [List.getElem?_cons_zero, List.getElem?_cons_succ] at a0 a1 a2
              have p0 := RP.out.cell 0
              have lp := RP.out.lt
              simp only [List.getElem?_cons_zero, List.getElem?_cons_succ] at p0
              go_wp2_with fail
              go_ret
              exact ⟨rfl, by (repeat' first | exact Below.refl _ _ | assumption | (refine Below.andThen ?_ BB.out) | (exact BB.out.size) | (simpa using BB.out.size) | (refine below_drewN ?_ _) | (refine Below.drew ?_) | (refine Below.alloc ?_ ?_ _) | (refine Below.setCell ?_ ?_ _) | (simp; done) | (simp; omega) | omega)⟩
            · obtain ⟨hx1, hx2, hx3⟩ := HYes.out day n (by omega) (by omega) (HUp.out day (by omega)) (by omega) rfl HR.out
              have HV1 := Lib.hid hx2
              have HV2 := Lib.hid hx3
              have CD := Lib.hid (fun W o c (h : BkW W o (M + 1) c l) => disp_is hx1 (show M + 1 ≤ 2 ^ 29 by omega) (show inI day from ⟨by omega, by omega⟩) h)
              replace HOT := Lib.hid (fun s t => HOT.out day n hx2 hx3 rfl s t)
              replace HST := Lib.hid (fun m t => HST.out day n m t)
              replace HRV := Lib.hid (HRV.out day n)
              have HLen2 := Lib.hid (show (afterD l i day n).length ≤ 200 from hx3.1.2.2.2.2)
              clear hx1 hx2 hx3 HYes HNot HAT HAT2 HQE
              dsimp only at CD
              generalize afterD l i day n = l2 at *
              obtain ⟨N2, hN2⟩ : ∃ k, l2.length = k := ⟨_, rfl⟩
              rw [hN2] at CD HLen2
              have HN2 := Lib.hid hN2
              clear hN2
              have hN22 := HLen2.out
              have CD2 := Lib.hid (fun W o c (h : BkW W o N2 c l2) => disp_no (disp_not (acc := A) (cl := cl) (l := l2) (i := i) (day := day) (n := n) (by omega) (.inr (.inl HRV.out))) (show N2 ≤ 2 ^ 29 by omega) (show inI day from ⟨by omega, by omega⟩) h)
              go_wp2_with fail
              with_reducible refine Calls.mono (CD.out _ _ _ BW.out) ?_
              rintro e w6 ⟨⟨o2, c2, rfl, hw⟩, hb⟩
              have BWC := Lib.hid hw
              replace RB := Lib.hid (RB.out.next hb)
              replace RP := Lib.hid (RP.out.next hb)
              replace BW := Lib.hid (BW.out.next hb)
              replace BB := Lib.hid (Below.andThen BB.out hb)
              clear hb hw CD
              clear a0 a1 a2 la
              go_upto_region 15 with (fail)
              refine wp_named fun w7 hq => ?_
              obtain ⟨bC, eC⟩ : ∃ b, b = w6.heap.size := ⟨_, rfl⟩
              have RC := Lib.hid (show Row w7 bC 24 [.int .i64 A, .slice o2 N2 c2, .int .i64 cl] from by rw [hq, eC]; exact Row.new w6 _ _)
              have hB : Below w6.heap.size w6 w7 := by rw [hq]; (repeat' first | exact Below.refl _ _ | assumption | (refine below_drewN ?_ _) | (refine Below.drew ?_) | (refine Below.alloc ?_ ?_ _) | (refine Below.setCell ?_ ?_ _) | (simp; done) | (simp; omega) | omega)
              replace RB := Lib.hid (RB.out.next hB)
              replace RP := Lib.hid (RP.out.next hB)
              replace BW := Lib.hid (BW.out.next hB)
              replace BWC := Lib.hid (BWC.out.next hB)
              replace BB := Lib.hid (Below.andThen BB.out hB)
              rw [← eC]
              clear hq hB eC
              have a0 := RB.out.cell 0
              have a1 := RB.out.cell 1
              have a2 := RB.out.cell 2
              have la := RB.out.lt
              simp only [List.getElem?_cons_zero, List.getElem?_cons_succ] at a0 a1 a2
              have d0 := RC.out.cell 0
              have d1 := RC.out.cell 1
              have d2 := RC.out.cell 2
              have ld := RC.out.lt
              simp only [List.getElem?_cons_zero, List.getElem?_cons_succ] at d0 d1 d2
              have p0 := RP.out.cell 0
              have lp := RP.out.lt
              simp only [List.getElem?_cons_zero, List.getElem?_cons_succ] at p0
              go_wp2_with fail
              with_reducible refine Calls.mono (CD2.out _ _ _ BWC.out) ?_
              rintro e w8 ⟨⟨o9, N9, c9, rfl⟩, hb⟩
              replace RB := Lib.hid (RB.out.next hb)
              replace RP := Lib.hid (RP.out.next hb)
              replace BW := Lib.hid (BW.out.next hb)
              replace BWC := Lib.hid (BWC.out.next hb)
              replace RC := Lib.hid (RC.out.next hb)
              replace BB := Lib.hid (Below.andThen BB.out hb)
              clear hb CD2
              clear a0 a1 a2 la
              clear d0 d1 d2 ld
              clear p0 lp
              go_upto_region 18 with (fail)
              refine wp_named fun w9 hq => ?_
              have hB : Below w8.heap.size w8 w9 := by rw [hq]; (repeat' first | exact Below.refl _ _ | assumption | (refine below_drewN ?_ _) | (refine Below.drew ?_) | (refine Below.alloc ?_ ?_ _) | (refine Below.setCell ?_ ?_ _) | (simp; done) | (simp; omega) | omega)
              replace RB := Lib.hid (RB.out.next hB)
              replace RP := Lib.hid (RP.out.next hB)
              replace BW := Lib.hid (BW.out.next hB)
              replace BWC := Lib.hid (BWC.out.next hB)
              replace RC := Lib.hid (RC.out.next hB)
              replace BB := Lib.hid (Below.andThen BB.out hB)
              clear hq hB
              go_wp2_with fail
              have hd0 : 0 ≤ day := by omega
              obtain ⟨fx, hfx⟩ : ∃ f : Nat → Nat → Int, f = fun (m t : Nat) => Bk.oT l (m : Int) t := ⟨_, rfl⟩
              obtain ⟨fy, hfy⟩ : ∃ f : Nat → Nat → Int, f = fun (m t : Nat) => Bk.oT l2 (m : Int) t := ⟨_, rfl⟩
              have CS1 := Lib.hid (fun (k : Nat) (hk : k < 6) W (h : BkW W (some ⟨b1, f1, none⟩) (M + 1) c l) => (show Calls Try.prog 24 #[bookV A (some ⟨b1, f1, none⟩) (M + 1) c cl, .int .i64 k] W fun e w' => (∃ o' c', e = .returned (.tuple #[.slice o' A c', .int .i64 0]) ∧ InW w' W.heap.size o' A c' ((List.range A).map (fx k))) ∧ Below W.heap.size W w' from by rw [hfx]; exact owed_at k hk HVd.out h))
              have CS2 := Lib.hid (fun (k : Nat) (hk : k < 6) W (h : BkW W o2 N2 c2 l2) => (show Calls Try.prog 24 #[bookV A o2 N2 c2 cl, .int .i64 k] W fun e w' => (∃ o' c', e = .returned (.tuple #[.slice o' A c', .int .i64 0]) ∧ InW w' W.heap.size o' A c' ((List.range A).map (fy k))) ∧ Below W.heap.size W w' from by rw [hfy]; exact owed_at k hk HV2.out h))
              have HF := Lib.hid (show ∀ (m t : Nat), -1000000000000 ≤ fx m t ∧ fx m t ≤ 1000000000000 from by rw [hfx]; exact fun m t => HVd.out.oT m t)
              have HXY := Lib.hid (show ∀ (m t : Nat), fy m t = fx m t + if sub = (m : Int) then chg ⟨1, day0, deb, cre, amt, sub, of⟩ n t else 0 from by rw [hfx, hfy]; exact fun m t => HOT.out (m : Int) t)
              clear hfx hfy
              obtain ⟨wl, hwl⟩ : ∃ W, W = w9 := ⟨_, rfl⟩
              subst hwl
              have a0 := RB.out.cell 0
              have a1 := RB.out.cell 1
              have a2 := RB.out.cell 2
              have la := RB.out.lt
              simp only [List.getElem?_cons_zero, List.getElem?_cons_succ] at a0 a1 a2
              go_loopw [23] (fun mv wr => ∃ k : Nat, mv = .int .i64 k ∧ k ≤ 6 ∧ Below wl.heap.size wl wr) (fun mv _ => 6 - (intOf mv).toNat)
              case atStart => exact ⟨0, rfl, Nat.zero_le _, Below.refl _ _⟩
              case round =>
                obtain ⟨k, rfl, hk, hx⟩ := hrel
                rename World => wr
                clear a0 a1 a2 la
                replace RB := Lib.hid (RB.out.next hx)
                replace RP := Lib.hid (RP.out.next hx)
                replace RC := Lib.hid (RC.out.next hx)
                replace BW := Lib.hid (BW.out.next hx)
                replace BWC := Lib.hid (BWC.out.next hx)
                have hwlz : w.heap.size ≤ wl.heap.size := BB.out.size
                replace BB := Lib.hid (Below.andThen BB.out hx)
                have BL := Lib.hid hx
                have hwlr := hx.size
                clear hx
                have a0 := RB.out.cell 0
                have a1 := RB.out.cell 1
                have a2 := RB.out.cell 2
                have la := RB.out.lt
                simp only [List.getElem?_cons_zero, List.getElem?_cons_succ] at a0 a1 a2
                by_cases hlt : k < 6
                · go_wp2_with fail
                  with_reducible refine Calls.mono (CS1.out k hlt _ BW.out) ?_
                  rintro e wa ⟨⟨os, cs, rfl, hs⟩, hb⟩
                  obtain ⟨B1, hB1⟩ : ∃ b, b = wr.heap.size := ⟨_, rfl⟩
                  rw [← hB1] at hs
                  have S1 := Lib.hid hs
                  have nPB : bP < B1 := by rw [hB1]; exact RP.out.lt
                  replace RB := Lib.hid (RB.out.next hb)
                  replace RP := Lib.hid (RP.out.next hb)
                  replace RC := Lib.hid (RC.out.next hb)
                  replace BW := Lib.hid (BW.out.next hb)
                  replace BWC := Lib.hid (BWC.out.next hb)
                  replace BB := Lib.hid (Below.andThen BB.out hb)
                  replace BL := Lib.hid (Below.andThen BL.out hb)
                  clear hs hb
                  clear a0 a1 a2 la
                  have d0 := RC.out.cell 0
                  have d1 := RC.out.cell 1
                  have d2 := RC.out.cell 2
                  have ld := RC.out.lt
                  simp only [List.getElem?_cons_zero, List.getElem?_cons_succ] at d0 d1 d2
                  go_wp2_with fail
                  with_reducible refine Calls.mono (CS2.out k hlt _ BWC.out) ?_
                  rintro e wb ⟨⟨os2, cs2, rfl, hs⟩, hb⟩
                  obtain ⟨B2, hB2⟩ : ∃ b, b = wa.heap.size := ⟨_, rfl⟩
                  rw [← hB2] at hs
                  have S2 := Lib.hid hs
                  have HSB := Lib.hid (show ∀ b, os = some ⟨b, 0, none⟩ → 0 < A → b < B2 from fun b e h => by
                    obtain ⟨b', e', l', _⟩ := S1.out.at (k := 0) (map_at (fx k) h)
                    rw [e] at e'
                    cases e'
                    rw [hB2]
                    exact l')
                  replace RB := Lib.hid (RB.out.next hb)
                  replace RP := Lib.hid (RP.out.next hb)
                  replace RC := Lib.hid (RC.out.next hb)
                  replace BW := Lib.hid (BW.out.next hb)
                  replace BWC := Lib.hid (BWC.out.next hb)
                  replace S1 := Lib.hid (S1.out.next hb)
                  replace BB := Lib.hid (Below.andThen BB.out hb)
                  replace BL := Lib.hid (Below.andThen BL.out hb)
                  clear hs hb
                  clear d0 d1 d2 ld
                  have a0 := RB.out.cell 0
                  have a1 := RB.out.cell 1
                  have a2 := RB.out.cell 2
                  have la := RB.out.lt
                  simp only [List.getElem?_cons_zero, List.getElem?_cons_succ] at a0 a1 a2
                  have HXYk := Lib.hid (HXY.out k)
                  have HFk := Lib.hid (HF.out k)
                  generalize fx k = X at *
                  generalize fy k = Y at *
                  obtain ⟨wc, hwc⟩ : ∃ W, W = wb := ⟨_, rfl⟩
                  subst hwc
                  by_cases hsub2 : sub = (k : Int)
                  · obtain ⟨cn, hcn'⟩ : ∃ n : Nat, cre = n := ⟨cre.toNat, by omega⟩
                    obtain ⟨dn, hdn'⟩ : ∃ n : Nat, deb = n := ⟨deb.toNat, by omega⟩
                    subst hcn'
                    subst hdn'
                    have hcn : cn < A := by omega
                    have hdn : dn < A := by omega
                    have hcd : ¬ dn = cn := fun e => hne (by rw [e])
                    have bc := HFk.out cn
                    have bd := HFk.out dn
                    have j0 : (0 : Int) ≤ cn := by omega
                    have j1 : (cn : Int) < A := by omega
                    have j2 : (0 : Int) ≤ dn := by omega
                    have j3 : (dn : Int) < A := by omega
                    obtain ⟨bs, eos, lbs, hbs1, -, -⟩ := S1.out.at (k := cn) (map_at X hcn)
                    have hsb2 := HSB.out bs eos (by omega)
                    subst eos
                    have hbs : wl.heap.size ≤ bs := by omega
                    have nPs : bP ≠ bs := by omega
                    have hwbs : w.heap.size ≤ bs := by omega
                    have HFin := Lib.hid (show (List.range A).map (fun j => if j = dn then X dn + amt - n else (fun j => if j = cn then X cn - amt + n else X j) j) = (List.range A).map Y from range_ext fun t _ => by
                      rw [HXYk.out t, if_pos hsub2]
                      unfold chg
                      dsimp only
                      by_cases e1 : t = dn
                      · subst e1
                        rw [if_pos rfl, if_neg (fun e => hcd (by omega)), if_pos rfl]
                        omega
                      · rw [if_neg e1]
                        by_cases e2 : t = cn
                        · subst e2
                          rw [if_pos rfl, if_pos rfl, if_neg (fun e => e1 (by omega))]
                          omega
                        · rw [if_neg e2, if_neg (fun e => e2 (by omega)), if_neg (fun e => e1 (by omega))]
                          omega)
                    have r5 := RP.out.cell 5
                    have lr := RP.out.lt
                    simp only [List.getElem?_cons_zero, List.getElem?_cons_succ] at r5
                    have hsub3 : ((k : Int) == sub) = true := by simp [hsub2]
                    clear HXYk hsub2
                    go_upto_region 28 with (fail)
                    clear r5 lr
                    clear a0 a1 a2 la
                    have p2 := RP.out.cell 2
                    have p3 := RP.out.cell 3
                    have p4 := RP.out.cell 4
                    have lp := RP.out.lt
                    simp only [List.getElem?_cons_zero, List.getElem?_cons_succ] at p2 p3 p4
                    obtain ⟨b9, e9, lz, -, z1, -⟩ := S1.out.at (k := cn) (x := X cn) (map_at X hcn)
                    cases e9
                    refine wp_region_kin_tail 14 (by kernel_rfl) (by kernel_rfl) wc.heap.size 0 (by simp) (fun hk => ?_)
                    simp only [List.take_succ_cons, List.take_zero, List.drop_succ_cons, List.drop_zero]
                    repeat (go_big_quiet_step (fail))
                    refine wpQuiet_nil ?_
                    clear hk z1 lz
                    clear p2 p3 p4 lp
                    intro wd hb
                    replace S1 := Lib.hid (S1.out.next hb)
                    replace S2 := Lib.hid (S2.out.next hb)
                    replace RP := Lib.hid (RP.out.next hb)
                    replace BB := Lib.hid (Below.andThen BB.out hb)
                    replace BL := Lib.hid (Below.andThen BL.out hb)
                    clear hb
                    obtain ⟨b9, e9, lz, -, z1, fz⟩ := S1.out.at (k := cn) (x := X cn) (map_at X hcn)
                    cases e9
                    go_upto_region 29 with (fail)
                    clear z1 lz fz
                    refine wp_named fun wc hq => ?_
                    replace RP := Lib.hid (show Row wc bP _ _ from by rw [hq]; exact RP.out.other nPs _ _)
                    replace S2 := Lib.hid (show InW wc B2 os2 A cs2 _ from by rw [hq]; exact S2.out.ex (S := fun j => j = bs) (fun j h e => by omega) ((Ex.refl (fun j => j = bs) _).set (b := bs) rfl _ _))
                    replace BL := Lib.hid (show Below wl.heap.size wl wc from by rw [hq]; exact BL.out.setCell (p := ⟨bs, cn, none⟩) hbs _)
                    replace BB := Lib.hid (show Below w.heap.size w wc from by rw [hq]; exact BB.out.setCell (p := ⟨bs, cn, none⟩) hwbs _)
                    replace S1 := Lib.hid (show InW wc B1 (some ⟨bs, 0, none⟩) A cs ((List.range A).map (fun j => if j = cn then X cn - amt + n else X j)) from by
                      rw [hq, ← range_set]
                      exact S1.out.set _)
                    clear hq
                    have p2 := RP.out.cell 2
                    have p3 := RP.out.cell 3
                    have p4 := RP.out.cell 4
                    have lp := RP.out.lt
                    simp only [List.getElem?_cons_zero, List.getElem?_cons_succ] at p2 p3 p4
                    obtain ⟨b9, e9, lz, -, z1, -⟩ := S1.out.at (k := dn) (x := X dn) ((map_at _ hdn).trans (by rw [if_neg hcd]))
                    cases e9
                    refine wp_region_kin_tail 14 (by kernel_rfl) (by kernel_rfl) wc.heap.size 0 (by simp) (fun hk => ?_)
                    simp only [List.take_succ_cons, List.take_zero, List.drop_succ_cons, List.drop_zero]
                    repeat (go_big_quiet_step (fail))
                    refine wpQuiet_nil ?_
                    clear hk z1 lz
                    clear p2 p3 p4 lp
                    intro wd hb
                    replace S1 := Lib.hid (S1.out.next hb)
                    replace S2 := Lib.hid (S2.out.next hb)
                    replace RP := Lib.hid (RP.out.next hb)
                    replace BB := Lib.hid (Below.andThen BB.out hb)
                    replace BL := Lib.hid (Below.andThen BL.out hb)
                    clear hb
                    obtain ⟨b9, e9, lz, -, z1, fz⟩ := S1.out.at (k := dn) (x := X dn) ((map_at _ hdn).trans (by rw [if_neg hcd]))
                    cases e9
                    go_upto_region 30 with (fail)
                    clear z1 lz fz
                    refine wp_named fun wc hq => ?_
                    replace RP := Lib.hid (show Row wc bP _ _ from by rw [hq]; exact RP.out.other nPs _ _)
                    replace S2 := Lib.hid (show InW wc B2 os2 A cs2 _ from by rw [hq]; exact S2.out.ex (S := fun j => j = bs) (fun j h e => by omega) ((Ex.refl (fun j => j = bs) _).set (b := bs) rfl _ _))
                    replace BL := Lib.hid (show Below wl.heap.size wl wc from by rw [hq]; exact BL.out.setCell (p := ⟨bs, dn, none⟩) hbs _)
                    replace BB := Lib.hid (show Below w.heap.size w wc from by rw [hq]; exact BB.out.setCell (p := ⟨bs, dn, none⟩) hwbs _)
                    replace S1 := Lib.hid (show InW wc B1 (some ⟨bs, 0, none⟩) A cs ((List.range A).map (fun j => if j = dn then X dn + amt - n else (fun j => if j = cn then X cn - amt + n else X j) j)) from by
                      rw [hq, ← range_set]
                      exact S1.out.set _)
                    clear hq
                    have CI := Lib.hid (show Calls Try.prog 23 _ wc fun e w' => e = .returned (.bool true) ∧ Below wc.heap.size wc w' from by
                      have q := rInts_any _ A cs os2 A cs2 _ _ wc S1.out.1 S2.out.1 (by omega) S1.out.cap S2.out.cap S1.out.2.sl S2.out.2.sl
                      rw [decide_eq_true (HFin.out)] at q
                      exact q)
                    go_wp2_with fail
                    with_reducible refine Calls.mono (CI.out) ?_
                    rintro e wi ⟨rfl, hb⟩
                    replace BB := Lib.hid (Below.andThen BB.out hb)
                    replace BL := Lib.hid (Below.andThen BL.out hb)
                    clear hb
                    go_wp2_with fail
                    go_roundw
                    case rel => exact ⟨k + 1, by go_num, by omega, BL.out⟩
                    case measure => first | (simp [intOf]; done) | (simp [intOf]; omega)
                  · have hsub3 : ¬ (k : Int) = sub := fun e => hsub2 e.symm
                    have HFin := Lib.hid (show (List.range A).map X = (List.range A).map Y from range_ext fun t _ => by
                      rw [HXYk.out t, if_neg hsub2]
                      omega)
                    have r5 := RP.out.cell 5
                    have lr := RP.out.lt
                    simp only [List.getElem?_cons_zero, List.getElem?_cons_succ] at r5
                    clear HXYk
                    have CI := Lib.hid (show Calls Try.prog 23 _ wc fun e w' => e = .returned (.bool true) ∧ Below wc.heap.size wc w' from by
                      have q := rInts_any _ A cs os2 A cs2 _ _ wc S1.out.1 S2.out.1 (by omega) S1.out.cap S2.out.cap S1.out.2.sl S2.out.2.sl
                      rw [decide_eq_true (HFin.out)] at q
                      exact q)
                    go_wp2_with fail
                    with_reducible refine Calls.mono (CI.out) ?_
                    rintro e wi ⟨rfl, hb⟩
                    replace BB := Lib.hid (Below.andThen BB.out hb)
                    replace BL := Lib.hid (Below.andThen BL.out hb)
                    clear hb
                    go_wp2_with fail
                    go_roundw
                    case rel => exact ⟨k + 1, by go_num, by omega, BL.out⟩
                    case measure => first | (simp [intOf]; done) | (simp [intOf]; omega)
                · obtain rfl : k = 6 := by omega
                  rw [show ((6 : Nat) : Int) = 6 from rfl]
                  clear CS1 CS2 HF HXY
                  go_wp2_with fail
                  obtain ⟨fx, hfx⟩ : ∃ f : Nat → Nat → Int, f = fun (m t : Nat) => Bk.sT l (m : Int) t := ⟨_, rfl⟩
                  obtain ⟨fy, hfy⟩ : ∃ f : Nat → Nat → Int, f = fun (m t : Nat) => Bk.sT l2 (m : Int) t := ⟨_, rfl⟩
                  have CS1 := Lib.hid (fun (k : Nat) (hk : k < 12) W (h : BkW W (some ⟨b1, f1, none⟩) (M + 1) c l) => (show Calls Try.prog 19 #[bookV A (some ⟨b1, f1, none⟩) (M + 1) c cl, .int .i64 k] W fun e w' => (∃ o' c', e = .returned (.tuple #[.slice o' A c', .int .i64 0]) ∧ InW w' W.heap.size o' A c' ((List.range A).map (fx k))) ∧ Below W.heap.size W w' from by rw [hfx]; exact stmt_at k hk HVd.out h))
                  have CS2 := Lib.hid (fun (k : Nat) (hk : k < 12) W (h : BkW W o2 N2 c2 l2) => (show Calls Try.prog 19 #[bookV A o2 N2 c2 cl, .int .i64 k] W fun e w' => (∃ o' c', e = .returned (.tuple #[.slice o' A c', .int .i64 0]) ∧ InW w' W.heap.size o' A c' ((List.range A).map (fy k))) ∧ Below W.heap.size W w' from by rw [hfy]; exact stmt_at k hk HV2.out h))
                  have HF := Lib.hid (show ∀ (m t : Nat), -1000000000000 ≤ fx m t ∧ fx m t ≤ 1000000000000 from by rw [hfx]; exact fun m t => HVd.out.sT m t)
                  have HXY := Lib.hid (show ∀ (m t : Nat), fy m t = fx m t + if day / 30 = (m : Int) then chg ⟨1, day0, deb, cre, amt, sub, of⟩ n t else 0 from by rw [hfx, hfy]; exact fun m t => by rw [← Int.tdiv_eq_ediv_of_nonneg hd0]; exact HST.out (m : Int) t)
                  clear hfx hfy
                  obtain ⟨wl, hwl⟩ : ∃ W, W = wr := ⟨_, rfl⟩
                  subst hwl
                  have a0 := RB.out.cell 0
                  have a1 := RB.out.cell 1
                  have a2 := RB.out.cell 2
                  have la := RB.out.lt
                  simp only [List.getElem?_cons_zero, List.getElem?_cons_succ] at a0 a1 a2
                  go_loopw [28] (fun mv wr => ∃ k : Nat, mv = .int .i64 k ∧ k ≤ 12 ∧ Below wl.heap.size wl wr) (fun mv _ => 12 - (intOf mv).toNat)
                  case atStart => exact ⟨0, rfl, Nat.zero_le _, Below.refl _ _⟩
                  case round =>
                    obtain ⟨k, rfl, hk, hx⟩ := hrel
                    rename World => wr
                    clear a0 a1 a2 la
                    replace RB := Lib.hid (RB.out.next hx)
                    replace RP := Lib.hid (RP.out.next hx)
                    replace RC := Lib.hid (RC.out.next hx)
                    replace BW := Lib.hid (BW.out.next hx)
                    replace BWC := Lib.hid (BWC.out.next hx)
                    have hwlz : w.heap.size ≤ wl.heap.size := BB.out.size
                    replace BB := Lib.hid (Below.andThen BB.out hx)
                    have BL := Lib.hid hx
                    have hwlr := hx.size
                    clear hx
                    have a0 := RB.out.cell 0
                    have a1 := RB.out.cell 1
                    have a2 := RB.out.cell 2
                    have la := RB.out.lt
                    simp only [List.getElem?_cons_zero, List.getElem?_cons_succ] at a0 a1 a2
                    by_cases hlt : k < 12
                    · go_wp2_with fail
                      with_reducible refine Calls.mono (CS1.out k hlt _ BW.out) ?_
                      rintro e wa ⟨⟨os, cs, rfl, hs⟩, hb⟩
                      obtain ⟨B1, hB1⟩ : ∃ b, b = wr.heap.size := ⟨_, rfl⟩
                      rw [← hB1] at hs
                      have S1 := Lib.hid hs
                      have nPB : bP < B1 := by rw [hB1]; exact RP.out.lt
                      replace RB := Lib.hid (RB.out.next hb)
                      replace RP := Lib.hid (RP.out.next hb)
                      replace RC := Lib.hid (RC.out.next hb)
                      replace BW := Lib.hid (BW.out.next hb)
                      replace BWC := Lib.hid (BWC.out.next hb)
                      replace BB := Lib.hid (Below.andThen BB.out hb)
                      replace BL := Lib.hid (Below.andThen BL.out hb)
                      clear hs hb
                      clear a0 a1 a2 la
                      have d0 := RC.out.cell 0
                      have d1 := RC.out.cell 1
                      have d2 := RC.out.cell 2
                      have ld := RC.out.lt
                      simp only [List.getElem?_cons_zero, List.getElem?_cons_succ] at d0 d1 d2
                      go_wp2_with fail
                      with_reducible refine Calls.mono (CS2.out k hlt _ BWC.out) ?_
                      rintro e wb ⟨⟨os2, cs2, rfl, hs⟩, hb⟩
                      obtain ⟨B2, hB2⟩ : ∃ b, b = wa.heap.size := ⟨_, rfl⟩
                      rw [← hB2] at hs
                      have S2 := Lib.hid hs
                      have HSB := Lib.hid (show ∀ b, os = some ⟨b, 0, none⟩ → 0 < A → b < B2 from fun b e h => by
                        obtain ⟨b', e', l', _⟩ := S1.out.at (k := 0) (map_at (fx k) h)
                        rw [e] at e'
                        cases e'
                        rw [hB2]
                        exact l')
                      replace RB := Lib.hid (RB.out.next hb)
                      replace RP := Lib.hid (RP.out.next hb)
                      replace RC := Lib.hid (RC.out.next hb)
                      replace BW := Lib.hid (BW.out.next hb)
                      replace BWC := Lib.hid (BWC.out.next hb)
                      replace S1 := Lib.hid (S1.out.next hb)
                      replace BB := Lib.hid (Below.andThen BB.out hb)
                      replace BL := Lib.hid (Below.andThen BL.out hb)
                      clear hs hb
                      clear d0 d1 d2 ld
                      have a0 := RB.out.cell 0
                      have a1 := RB.out.cell 1
                      have a2 := RB.out.cell 2
                      have la := RB.out.lt
                      simp only [List.getElem?_cons_zero, List.getElem?_cons_succ] at a0 a1 a2
                      have HXYk := Lib.hid (HXY.out k)
                      have HFk := Lib.hid (HF.out k)
                      generalize fx k = X at *
                      generalize fy k = Y at *
                      obtain ⟨wc, hwc⟩ : ∃ W, W = wb := ⟨_, rfl⟩
                      subst hwc
                      by_cases hsub2 : day / 30 = (k : Int)
                      · obtain ⟨cn, hcn'⟩ : ∃ n : Nat, cre = n := ⟨cre.toNat, by omega⟩
                        obtain ⟨dn, hdn'⟩ : ∃ n : Nat, deb = n := ⟨deb.toNat, by omega⟩
                        subst hcn'
                        subst hdn'
                        have hcn : cn < A := by omega
                        have hdn : dn < A := by omega
                        have hcd : ¬ dn = cn := fun e => hne (by rw [e])
                        have bc := HFk.out cn
                        have bd := HFk.out dn
                        have j0 : (0 : Int) ≤ cn := by omega
                        have j1 : (cn : Int) < A := by omega
                        have j2 : (0 : Int) ≤ dn := by omega
                        have j3 : (dn : Int) < A := by omega
                        obtain ⟨bs, eos, lbs, hbs1, -, -⟩ := S1.out.at (k := cn) (map_at X hcn)
                        have hsb2 := HSB.out bs eos (by omega)
                        subst eos
                        have hbs : wl.heap.size ≤ bs := by omega
                        have nPs : bP ≠ bs := by omega
                        have hwbs : w.heap.size ≤ bs := by omega
                        have HFin := Lib.hid (show (List.range A).map (fun j => if j = dn then X dn + amt - n else (fun j => if j = cn then X cn - amt + n else X j) j) = (List.range A).map Y from range_ext fun t _ => by
                          rw [HXYk.out t, if_pos hsub2]
                          unfold chg
                          dsimp only
                          by_cases e1 : t = dn
                          · subst e1
                            rw [if_pos rfl, if_neg (fun e => hcd (by omega)), if_pos rfl]
                            omega
                          · rw [if_neg e1]
                            by_cases e2 : t = cn
                            · subst e2
                              rw [if_pos rfl, if_pos rfl, if_neg (fun e => e1 (by omega))]
                              omega
                            · rw [if_neg e2, if_neg (fun e => e2 (by omega)), if_neg (fun e => e1 (by omega))]
                              omega)
                        have r5 := RP.out.cell 5
                        have lr := RP.out.lt
                        simp only [List.getElem?_cons_zero, List.getElem?_cons_succ] at r5
                        have hsub3 : ((k : Int) == day / 30) = true := by simp [hsub2]
                        clear HXYk hsub2
                        go_upto_region 40 with (fail)
                        clear r5 lr
                        clear a0 a1 a2 la
                        have p2 := RP.out.cell 2
                        have p3 := RP.out.cell 3
                        have p4 := RP.out.cell 4
                        have lp := RP.out.lt
                        simp only [List.getElem?_cons_zero, List.getElem?_cons_succ] at p2 p3 p4
                        obtain ⟨b9, e9, lz, -, z1, -⟩ := S1.out.at (k := cn) (x := X cn) (map_at X hcn)
                        cases e9
                        refine wp_region_kin_tail 14 (by kernel_rfl) (by kernel_rfl) wc.heap.size 0 (by simp) (fun hk => ?_)
                        simp only [List.take_succ_cons, List.take_zero, List.drop_succ_cons, List.drop_zero]
                        repeat (go_big_quiet_step (fail))
                        refine wpQuiet_nil ?_
                        clear hk z1 lz
                        clear p2 p3 p4 lp
                        intro wd hb
                        replace S1 := Lib.hid (S1.out.next hb)
                        replace S2 := Lib.hid (S2.out.next hb)
                        replace RP := Lib.hid (RP.out.next hb)
                        replace BB := Lib.hid (Below.andThen BB.out hb)
                        replace BL := Lib.hid (Below.andThen BL.out hb)
                        clear hb
                        obtain ⟨b9, e9, lz, -, z1, fz⟩ := S1.out.at (k := cn) (x := X cn) (map_at X hcn)
                        cases e9
                        go_upto_region 41 with (fail)
                        clear z1 lz fz
                        refine wp_named fun wc hq => ?_
                        replace RP := Lib.hid (show Row wc bP _ _ from by rw [hq]; exact RP.out.other nPs _ _)
                        replace S2 := Lib.hid (show InW wc B2 os2 A cs2 _ from by rw [hq]; exact S2.out.ex (S := fun j => j = bs) (fun j h e => by omega) ((Ex.refl (fun j => j = bs) _).set (b := bs) rfl _ _))
                        replace BL := Lib.hid (show Below wl.heap.size wl wc from by rw [hq]; exact BL.out.setCell (p := ⟨bs, cn, none⟩) hbs _)
                        replace BB := Lib.hid (show Below w.heap.size w wc from by rw [hq]; exact BB.out.setCell (p := ⟨bs, cn, none⟩) hwbs _)
                        replace S1 := Lib.hid (show InW wc B1 (some ⟨bs, 0, none⟩) A cs ((List.range A).map (fun j => if j = cn then X cn - amt + n else X j)) from by
                          rw [hq, ← range_set]
                          exact S1.out.set _)
                        clear hq
                        have p2 := RP.out.cell 2
                        have p3 := RP.out.cell 3
                        have p4 := RP.out.cell 4
                        have lp := RP.out.lt
                        simp only [List.getElem?_cons_zero, List.getElem?_cons_succ] at p2 p3 p4
                        obtain ⟨b9, e9, lz, -, z1, -⟩ := S1.out.at (k := dn) (x := X dn) ((map_at _ hdn).trans (by rw [if_neg hcd]))
                        cases e9
                        refine wp_region_kin_tail 14 (by kernel_rfl) (by kernel_rfl) wc.heap.size 0 (by simp) (fun hk => ?_)
                        simp only [List.take_succ_cons, List.take_zero, List.drop_succ_cons, List.drop_zero]
                        repeat (go_big_quiet_step (fail))
                        refine wpQuiet_nil ?_
                        clear hk z1 lz
                        clear p2 p3 p4 lp
                        intro wd hb
                        replace S1 := Lib.hid (S1.out.next hb)
                        replace S2 := Lib.hid (S2.out.next hb)
                        replace RP := Lib.hid (RP.out.next hb)
                        replace BB := Lib.hid (Below.andThen BB.out hb)
                        replace BL := Lib.hid (Below.andThen BL.out hb)
                        clear hb
                        obtain ⟨b9, e9, lz, -, z1, fz⟩ := S1.out.at (k := dn) (x := X dn) ((map_at _ hdn).trans (by rw [if_neg hcd]))
                        cases e9
                        go_upto_region 42 with (fail)
                        clear z1 lz fz
                        refine wp_named fun wc hq => ?_
                        replace RP := Lib.hid (show Row wc bP _ _ from by rw [hq]; exact RP.out.other nPs _ _)
                        replace S2 := Lib.hid (show InW wc B2 os2 A cs2 _ from by rw [hq]; exact S2.out.ex (S := fun j => j = bs) (fun j h e => by omega) ((Ex.refl (fun j => j = bs) _).set (b := bs) rfl _ _))
                        replace BL := Lib.hid (show Below wl.heap.size wl wc from by rw [hq]; exact BL.out.setCell (p := ⟨bs, dn, none⟩) hbs _)
                        replace BB := Lib.hid (show Below w.heap.size w wc from by rw [hq]; exact BB.out.setCell (p := ⟨bs, dn, none⟩) hwbs _)
                        replace S1 := Lib.hid (show InW wc B1 (some ⟨bs, 0, none⟩) A cs ((List.range A).map (fun j => if j = dn then X dn + amt - n else (fun j => if j = cn then X cn - amt + n else X j) j)) from by
                          rw [hq, ← range_set]
                          exact S1.out.set _)
                        clear hq
                        have CI := Lib.hid (show Calls Try.prog 23 _ wc fun e w' => e = .returned (.bool true) ∧ Below wc.heap.size wc w' from by
                          have q := rInts_any _ A cs os2 A cs2 _ _ wc S1.out.1 S2.out.1 (by omega) S1.out.cap S2.out.cap S1.out.2.sl S2.out.2.sl
                          rw [decide_eq_true (HFin.out)] at q
                          exact q)
                        go_wp2_with fail
                        with_reducible refine Calls.mono (CI.out) ?_
                        rintro e wi ⟨rfl, hb⟩
                        replace BB := Lib.hid (Below.andThen BB.out hb)
                        replace BL := Lib.hid (Below.andThen BL.out hb)
                        clear hb
                        go_wp2_with fail
                        go_roundw
                        case rel => exact ⟨k + 1, by go_num, by omega, BL.out⟩
                        case measure => first | (simp [intOf]; done) | (simp [intOf]; omega)
                      · have hsub3 : ¬ (k : Int) = day / 30 := fun e => hsub2 e.symm
                        have HFin := Lib.hid (show (List.range A).map X = (List.range A).map Y from range_ext fun t _ => by
                          rw [HXYk.out t, if_neg hsub2]
                          omega)
                        have r5 := RP.out.cell 5
                        have lr := RP.out.lt
                        simp only [List.getElem?_cons_zero, List.getElem?_cons_succ] at r5
                        clear HXYk
                        have CI := Lib.hid (show Calls Try.prog 23 _ wc fun e w' => e = .returned (.bool true) ∧ Below wc.heap.size wc w' from by
                          have q := rInts_any _ A cs os2 A cs2 _ _ wc S1.out.1 S2.out.1 (by omega) S1.out.cap S2.out.cap S1.out.2.sl S2.out.2.sl
                          rw [decide_eq_true (HFin.out)] at q
                          exact q)
                        go_wp2_with fail
                        with_reducible refine Calls.mono (CI.out) ?_
                        rintro e wi ⟨rfl, hb⟩
                        replace BB := Lib.hid (Below.andThen BB.out hb)
                        replace BL := Lib.hid (Below.andThen BL.out hb)
                        clear hb
                        go_wp2_with fail
                        go_roundw
                        case rel => exact ⟨k + 1, by go_num, by omega, BL.out⟩
                        case measure => first | (simp [intOf]; done) | (simp [intOf]; omega)
                    · obtain rfl : k = 12 := by omega
                      rw [show ((12 : Nat) : Int) = 12 from rfl]
                      go_wp2_with fail
                      go_ret
                      exact ⟨rfl, BB.out⟩
          · have CD := Lib.hid (fun W o c (h : BkW W o (M + 1) c l) => disp_no (HNot.out day n (by omega) (.inl hk1)) (show M + 1 ≤ 2 ^ 29 by omega) (show inI day from ⟨by omega, by omega⟩) h)
            go_wp2_with fail
            with_reducible refine Calls.mono (CD.out _ _ _ BW.out) ?_
            rintro e w6 ⟨⟨o6, N6, c6, rfl⟩, hb⟩
            replace RB := Lib.hid (RB.out.next hb)
            replace RP := Lib.hid (RP.out.next hb)
            replace BB := Lib.hid (Below.andThen BB.out hb)
            clear hb CD
            clear a0 a1 a2 la
            have a0 := RB.out.cell 0
            have a1 := RB.out.cell 1
            have a2 := RB.out.cell 2
            have la := RB.out.lt
            simp only [List.getElem?_cons_zero, List.getElem?_cons_succ] at a0 a1 a2
            have p0 := RP.out.cell 0
            have lp := RP.out.lt
            simp only [List.getElem?_cons_zero, List.getElem?_cons_succ] at p0
            go_wp2_with fail
            go_ret
            exact ⟨rfl, by (repeat' first | exact Below.refl _ _ | assumption | (refine Below.andThen ?_ BB.out) | (exact BB.out.size) | (simpa using BB.out.size) | (refine below_drewN ?_ _) | (refine Below.drew ?_) | (refine Below.alloc ?_ ?_ _) | (refine Below.setCell ?_ ?_ _) | (simp; done) | (simp; omega) | omega)⟩
        · have CD := Lib.hid (fun W o c (h : BkW W o (M + 1) c l) => disp_no (HNot.out day n (by omega) (.inr (.inl hrev))) (show M + 1 ≤ 2 ^ 29 by omega) (show inI day from ⟨by omega, by omega⟩) h)
          by_cases hk1 : kind = 1
          · subst hk1
            go_wp2_with fail
            with_reducible refine Calls.mono (CD.out _ _ _ BW.out) ?_
            rintro e w6 ⟨⟨o6, N6, c6, rfl⟩, hb⟩
            replace RB := Lib.hid (RB.out.next hb)
            replace RP := Lib.hid (RP.out.next hb)
            replace BB := Lib.hid (Below.andThen BB.out hb)
            clear hb CD
            clear a0 a1 a2 la
            have a0 := RB.out.cell 0
            have a1 := RB.out.cell 1
            have a2 := RB.out.cell 2
            have la := RB.out.lt
            simp only [List.getElem?_cons_zero, List.getElem?_cons_succ] at a0 a1 a2
            have p0 := RP.out.cell 0
            have lp := RP.out.lt
            simp only [List.getElem?_cons_zero, List.getElem?_cons_succ] at p0
            go_wp2_with fail
            go_ret
            exact ⟨rfl, by (repeat' first | exact Below.refl _ _ | assumption | (refine Below.andThen ?_ BB.out) | (exact BB.out.size) | (simpa using BB.out.size) | (refine below_drewN ?_ _) | (refine Below.drew ?_) | (refine Below.alloc ?_ ?_ _) | (refine Below.setCell ?_ ?_ _) | (simp; done) | (simp; omega) | omega)⟩
          · skip
            go_wp2_with fail
            with_reducible refine Calls.mono (CD.out _ _ _ BW.out) ?_
            rintro e w6 ⟨⟨o6, N6, c6, rfl⟩, hb⟩
            replace RB := Lib.hid (RB.out.next hb)
            replace RP := Lib.hid (RP.out.next hb)
            replace BB := Lib.hid (Below.andThen BB.out hb)
            clear hb CD
            clear a0 a1 a2 la
            have a0 := RB.out.cell 0
            have a1 := RB.out.cell 1
            have a2 := RB.out.cell 2
            have la := RB.out.lt
            simp only [List.getElem?_cons_zero, List.getElem?_cons_succ] at a0 a1 a2
            have p0 := RP.out.cell 0
            have lp := RP.out.lt
            simp only [List.getElem?_cons_zero, List.getElem?_cons_succ] at p0
            go_wp2_with fail
            go_ret
            exact ⟨rfl, by (repeat' first | exact Below.refl _ _ | assumption | (refine Below.andThen ?_ BB.out) | (exact BB.out.size) | (simpa using BB.out.size) | (refine below_drewN ?_ _) | (refine Below.drew ?_) | (refine Below.alloc ?_ ?_ _) | (refine Below.setCell ?_ ?_ _) | (simp; done) | (simp; omega) | omega)⟩
end Bk
end Go.Proofs.Ytnhlhoijajhcjaa
