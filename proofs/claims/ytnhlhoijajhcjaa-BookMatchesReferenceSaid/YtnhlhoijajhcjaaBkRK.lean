/- The reference's Owed. -/
import Derived.Test.YtnhlhoijajhcjaaBkRJ
set_option linter.unusedVariables false
set_option linter.unusedSimpArgs false
namespace Go.Proofs.Ytnhlhoijajhcjaa
open Go.RowKit
namespace Bk
open Sq
/-- a row of numbers -/
def rowI (g : Nat → Int) (n : Nat) : List Value := (List.range n).map fun i => .int .i64 (g i)
theorem rowI_len (g : Nat → Int) (n : Nat) : (rowI g n).length = n := by simp [rowI]
theorem rowI_at (g : Nat → Int) {n i : Nat} (h : i < n) : (rowI g n)[i]? = some (.int .i64 (g i)) := by
  unfold rowI
  rw [List.getElem?_map, List.getElem?_range h]
  rfl
theorem rowI_set (g : Nat → Int) (n i : Nat) (v : Int) : (rowI g n).set i (.int .i64 v) = rowI (fun j => if j = i then v else g j) n := by
  apply List.ext_getElem?
  intro j
  rw [List.getElem?_set, rowI_len]
  by_cases hj : j < n
  · rw [rowI_at (fun j => if j = i then v else g j) hj]
    by_cases e : i = j
    · subst e
      rw [if_pos rfl, if_pos hj, if_pos rfl]
    · rw [if_neg e, if_neg (fun h : j = i => e h.symm), rowI_at _ hj]
  · rw [List.getElem?_eq_none (by rw [rowI_len]; omega : (rowI (fun j => if j = i then v else g j) n).length ≤ j)]
    split
    · rename_i e
      rw [if_neg (by omega)]
    · exact List.getElem?_eq_none (by rw [rowI_len]; omega)
theorem rowI_ext {g h : Nat → Int} {n : Nat} (e : ∀ t, t < n → g t = h t) : rowI g n = rowI h n := by
  unfold rowI
  exact List.map_congr_left fun t ht => by rw [e t (List.mem_range.1 ht)]
theorem rowI_zero (n : Nat) : List.replicate n (Value.int .i64 0) = rowI (fun _ => 0) n := by
  apply List.ext_getElem?
  intro j
  by_cases hj : j < n
  · rw [rowI_at _ hj, List.getElem?_replicate, if_pos hj]
  · rw [List.getElem?_eq_none (by simp; omega), List.getElem?_eq_none (by rw [rowI_len]; omega)]
theorem rowI_flat (g : Nat → Int) (n : Nat) : ((List.range n).map g).flatMap intE.f = rowI g n := by
  unfold rowI
  rw [List.flatMap_map]
  show (List.range n).flatMap (fun i => [Value.int .i64 (g i)]) = _
  exact List.map_eq_flatMap.symm
theorem own_row {α : Type} {E : El α} {e : TypeId} {w : World} {B0 b n : Nat} {l : List α} (hr : Row w b e (l.flatMap E.f)) (hl : l.length = n) (hb : B0 ≤ b) (hn : n ≤ 1000000) : Sq.Own E e w B0 (.slice (some ⟨b, 0, none⟩) n n) l := by
  subst hl
  refine ⟨flat_len E l, .inr ⟨b, l.length, (l.flatMap E.f).toArray, rfl, hb, hr, Nat.le_refl _, by unfold maxLen; omega, by rw [List.size_toArray, flat_len], ?_⟩⟩
  apply List.take_of_length_le
  rw [List.toList_toArray, flat_len]
  exact Nat.le_refl _
/-- what is owed by the first k -/
def owS (l : List Po) (s : Int) (k : Nat) (t : Nat) : Int := sumP (alive l (flt (feeT s) l k)) t
theorem owS_no {l : List Po} {s : Int} {k : Nat} (h : ¬ ((at' l k).kind = 1 ∧ (at' l k).sub = s) ∨ rev l k = true) : owS l s (k + 1) = owS l s k := by
  funext t
  unfold owS
  by_cases hf : feeT s (at' l k) = true
  · rcases h with h | h
    · exact absurd (of_decide_eq_true hf) h
    · rw [flt_yes hf, alive_no (x := (k, at' l k)) h]
  · rw [flt_no (by simpa using hf)]
theorem owS_yes {l : List Po} {s : Int} {k : Nat} (h : (at' l k).kind = 1 ∧ (at' l k).sub = s) (hr : rev l k = false) (t : Nat) : owS l s (k + 1) t = owS l s k t + eff (at' l k) t := by
  unfold owS
  rw [flt_yes (show feeT s (at' l k) = true from decide_eq_true h), alive_yes (x := (k, at' l k)) hr, sumP_snoc]
theorem rev_later {acc cl : Int} {l : List Po} (h : Vd acc l cl) {k : Nat} (hk : k < l.length) : rev l k = false ↔ ∀ j : Nat, k + 1 ≤ j → j < l.length → (at' l j).of ≠ k := by
  constructor
  · intro hr j h1 h2 e
    have hf := (h.2 j h2).1.1
    have : rev l k = true := rev_iff.2 ⟨j, h2, by rcases hf with ⟨_, h3⟩ | ⟨h3, _⟩ <;> omega, e⟩
    rw [this] at hr
    cases hr
  · intro hall
    cases hr : rev l k with
    | false => rfl
    | true =>
      obtain ⟨j, h1, h2, h3⟩ := rev_iff.1 hr
      have := ((h.2 j h1).2.2 h2).1
      exact absurd h3 (hall j (by omega) h1)
theorem infoIntR : (Try.prog.info? 3).map (fun i => (i.zero, i.size, i.bytes)) = some (some (.int .i64 0), 1, 8) := by kernel_rfl
set_option maxRecDepth 100000 in
set_option maxHeartbeats 16000000 in
theorem rowed_ok (A : Nat) (acc cl m : Int) (hA : acc = A) (o : Option Addr) (N c : Nat) (l : List Po) (w : World) (h : BkW w o N c l) (hb : OwP acc l cl m) :
    Calls Try.prog 25 #[bookV acc o N c cl, .int .i64 m] w fun e w' => ∃ b, e = .returned (.tuple #[.slice (some ⟨b, 0, none⟩) A A, .int .i64 0]) ∧ Sq.Own intE 3 w' w.heap.size (.slice (some ⟨b, 0, none⟩) A A) ((List.range A).map (oT l m)) ∧ Below w.heap.size w w' := by
  have BW := Lib.hid h
  have CI := Lib.hid rIn_any
  have CV := Lib.hid (fun W (h : BkW W o N c l) => rValid_any acc cl o N c l W h.1 h.2.2.2.2)
  rw [hb.1] at CV
  have hVd := vd_iff.1 hb.1
  have hV := hVd.1
  have g1 := hV.1
  have g2 := hV.2.1
  have hN : N ≤ 200 := by have := hV.2.2.2.2; rw [h.1] at this; exact this
  have d1 : decide (0 ≤ m ∧ m ≤ 999) = true := decide_eq_true hb.2
  have hA12 : A ≤ 12 := by omega
  have hfm : ∀ p ∈ l, FmP acc p := fun p hp => by
    obtain ⟨i, hi, rfl⟩ := at_of_mem hp
    exact (hVd.2 i hi).1
  have HFM := Lib.hid (fun (k : Nat) (hk : k < N) => hfm _ (at_mem (l := l) (i := k) (by rw [h.1]; exact hk)))
  have HSM := Lib.hid (fun (k : Nat) (hk : k ≤ N) (t : Nat) => (show -1000000000000 ≤ owS l m k t ∧ owS l m k t ≤ 1000000000000 from alive_small hfm (by rw [h.1]; omega) (flt_more (q := feeT m) (l := l) (k := k) (by rw [h.1]; exact hk)) t))
  have HRV := Lib.hid (fun (k : Nat) (hk : k < N) => (show rev l k = false ↔ ∀ j : Nat, k + 1 ≤ j → j < N → (at' l j).of ≠ k from by have := rev_later hVd (k := k) (by rw [h.1]; exact hk); rw [h.1] at this; exact this))
  have HE := Lib.hid (show owS l m N = oT l m from by rw [← h.1]; rfl)
  have HA := Lib.hid hA
  clear hVd hV hfm hb hA
  obtain ⟨i0, hi, hz0, hz1, hz2⟩ := info_parts infoIntR
  go_enter Try.func25, Try.ntmps25
  go_upto_region 1 with (fail)
  refine wp_named fun w1 hq => ?_
  obtain ⟨bA, eA⟩ : ∃ b, b = w.heap.size := ⟨_, rfl⟩
  have RA := Lib.hid (show Row w1 bA 24 [.int .i64 acc, .slice o N c, .int .i64 cl] from by rw [hq, eA]; exact Row.new w _ _)
  have BB := Lib.hid (show Below w.heap.size w w1 from by rw [hq]; (repeat' first | exact Below.refl _ _ | assumption | (refine below_drewN ?_ _) | (refine Below.drew ?_) | (refine Below.alloc ?_ ?_ _) | (refine Below.setCell ?_ ?_ _) | (simp; done) | (simp; omega) | omega))
  have HBA := Lib.hid (show w.heap.size ≤ bA by omega)
  rw [← eA]
  clear hq eA h
  have a0 := RA.out.cell 0
  have a1 := RA.out.cell 1
  have a2 := RA.out.cell 2
  have la := RA.out.lt
  simp only [List.getElem?_cons_zero, List.getElem?_cons_succ] at a0 a1 a2
  go_wp2_with fail
  with_reducible refine Calls.mono (CV.out _ (BW.out.next BB.out)) ?_
  rintro e w2 ⟨rfl, hb⟩
  replace RA := Lib.hid (RA.out.next hb)
  replace BB := Lib.hid (Below.andThen BB.out hb)
  clear hb CV
  clear a0 a1 a2 la
  have a0 := RA.out.cell 0
  have a1 := RA.out.cell 1
  have a2 := RA.out.cell 2
  have la := RA.out.lt
  simp only [List.getElem?_cons_zero, List.getElem?_cons_succ] at a0 a1 a2
  have hmk := run_make_row (P := Try.prog) w2 37 3 i0 _ 8 Try.underlying37 hi hz0 hz1 hz2 rfl A (by omega) (by omega)
  rw [← HA.out] at hmk
  go_upto_region 4 with (go_at_call 39; with_reducible refine Calls.mono (CI.out _ _ _ _) ?_; rintro e w' ⟨rfl, rfl⟩)
  refine wp_named fun w3 hq => ?_
  obtain ⟨g, eg⟩ : ∃ b, b = w2.heap.size := ⟨_, rfl⟩
  have RG := Lib.hid (show Row w3 g 3 (rowI (owS l m 0) A) from by
    rw [hq, eg, show rowI (owS l m 0) A = List.replicate A (.int .i64 0) from (rowI_zero A).symm ▸ rfl]
    have := Row.new w2 3 (List.replicate A (Value.int .i64 0))
    simpa using this)
  have hB : Below w2.heap.size w2 w3 := by rw [hq]; (repeat' first | exact Below.refl _ _ | assumption | (refine below_drewN ?_ _) | (refine Below.drew ?_) | (refine Below.alloc ?_ ?_ _) | (refine Below.setCell ?_ ?_ _) | (simp; done) | (simp; omega) | omega)
  replace RA := Lib.hid (RA.out.next hB)
  have HEG := Lib.hid (show bA < g ∧ w.heap.size ≤ g from ⟨by rw [eg]; exact la, by rw [eg]; exact BB.out.size⟩)
  replace BB := Lib.hid (Below.andThen BB.out hB)
  rw [← eg]
  clear hq eg hB hmk hi hz0 hz1 hz2 i0 d1 CI
  clear a0 a1 a2 la
  go_wp2_with fail
  go_loopw [7] (fun jv wr => ∃ k : Nat, jv = .int .i64 k ∧ k ≤ N ∧ Row wr bA 24 [.int .i64 acc, .slice o N c, .int .i64 cl] ∧ Row wr g 3 (rowI (owS l m k) A) ∧ Below w.heap.size w wr) (fun jv _ => N - (intOf jv).toNat)
  case atStart => exact ⟨0, rfl, Nat.zero_le _, RA.out, RG.out, BB.out⟩
  case round =>
    obtain ⟨k, rfl, hk, hRA, hRG, hB⟩ := hrel
    rename World => wr
    replace RA := Lib.hid hRA
    replace RG := Lib.hid hRG
    replace BB := Lib.hid hB
    clear hRA hRG hB
    have a0 := RA.out.cell 0
    have a1 := RA.out.cell 1
    have a2 := RA.out.cell 2
    have la := RA.out.lt
    simp only [List.getElem?_cons_zero, List.getElem?_cons_succ] at a0 a1 a2
    by_cases hlt : k < N
    · have BWr := Lib.hid (BW.out.next BB.out)
      obtain ⟨b1, f1, rfl, -, -⟩ := BWr.out.2.2.2.2.cells (fun e => by have := BWr.out.1; rw [e] at this; simp at this; omega)
      obtain ⟨lb1, x0, x1, x2, x3, x4, x5, x6⟩ := sl_at BWr.out.2.2.2.2 (k := k) (by rw [BWr.out.1]; exact hlt)
      have hf := HFM.out k hlt
      have HRVk := Lib.hid (HRV.out k hlt)
      have HNO := Lib.hid (owS_no (l := l) (s := m) (k := k))
      have HYE := Lib.hid (owS_yes (l := l) (s := m) (k := k))
      generalize at' l k = q at *
      obtain ⟨kind, day, deb, cre, amt, sub, of⟩ := q
      obtain ⟨-, -, hdeb, hcre, hne, hamt, -⟩ := hf
      dsimp only at *
      have i0 : (0 : Int) ≤ k := by omega
      have i1 : (k : Int) < N := by omega
      by_cases hk1 : kind = 1
      · subst hk1
        by_cases hs1 : sub = m
        · subst hs1
          go_upto_region 9 with (fail)
          refine wp_named fun w4 hq => ?_
          obtain ⟨bP, eP⟩ : ∃ b, b = wr.heap.size := ⟨_, rfl⟩
          have RP := Lib.hid (show Row w4 bP 27 [.int .i64 1, .int .i64 day, .int .i64 deb, .int .i64 cre, .int .i64 amt, .int .i64 sub, .int .i64 of] from by rw [hq, eP]; exact Row.new wr _ _)
          have HP := Lib.hid (show bA < bP ∧ g < bP from ⟨by rw [eP]; exact la, by rw [eP]; exact RG.out.lt⟩)
          have hB : Below wr.heap.size wr w4 := by rw [hq]; (repeat' first | exact Below.refl _ _ | assumption | (refine below_drewN ?_ _) | (refine Below.drew ?_) | (refine Below.alloc ?_ ?_ _) | (refine Below.setCell ?_ ?_ _) | (simp; done) | (simp; omega) | omega)
          replace RA := Lib.hid (RA.out.next hB)
          replace RG := Lib.hid (RG.out.next hB)
          replace BB := Lib.hid (Below.andThen BB.out hB)
          replace BWr := Lib.hid (BWr.out.next hB)
          rw [← eP]
          clear hq hB x0 x1 x2 x3 x4 x5 x6 lb1 i0 i1 eP
          clear a0 a1 a2 la
          have a0 := RA.out.cell 0
          have a1 := RA.out.cell 1
          have a2 := RA.out.cell 2
          have la := RA.out.lt
          simp only [List.getElem?_cons_zero, List.getElem?_cons_succ] at a0 a1 a2
          go_wp2_with fail
          go_loopw [9, 10] (fun sv tv wx => ∃ j : Nat, tv = .int .i64 j ∧ k + 1 ≤ j ∧ j ≤ N ∧ ((sv = .bool true ∧ ∀ i : Nat, k + 1 ≤ i → i < j → (at' l i).of ≠ k) ∨ (sv = .bool false ∧ rev l k = true)) ∧ Below w4.heap.size w4 wx) (fun _ tv _ => N - (intOf tv).toNat)
          case atStart => exact ⟨k + 1, by go_num, Nat.le_refl _, by omega, .inl ⟨rfl, fun i h1 h2 => by omega⟩, Below.refl _ _⟩
          case round =>
            obtain ⟨j, rfl, hj1, hj2, hs, hBx⟩ := hrel
            rename World => wx
            replace RA := Lib.hid (RA.out.next hBx)
            replace RG := Lib.hid (RG.out.next hBx)
            replace RP := Lib.hid (RP.out.next hBx)
            replace BB := Lib.hid (Below.andThen BB.out hBx)
            replace BWr := Lib.hid (BWr.out.next hBx)
            have HBX := Lib.hid hBx
            clear hBx
            clear a0 a1 a2 la
            have a0 := RA.out.cell 0
            have a1 := RA.out.cell 1
            have a2 := RA.out.cell 2
            have la := RA.out.lt
            simp only [List.getElem?_cons_zero, List.getElem?_cons_succ] at a0 a1 a2
            by_cases hj : j < N
            · rcases hs with ⟨rfl, hall⟩ | ⟨rfl, hrev⟩
              · obtain ⟨lb1, y0, y1, y2, y3, y4, y5, y6⟩ := sl_at BWr.out.2.2.2.2 (k := j) (by rw [BWr.out.1]; exact hj)
                have HAll := Lib.hid hall
                clear hall
                have i0 : (0 : Int) ≤ j := by omega
                have i1 : (j : Int) < N := by omega
                by_cases hof : (at' l j).of = k
                · have HR := Lib.hid (show rev l k = true from by
                    cases e : rev l k with
                    | true => rfl
                    | false => exact absurd hof (HRVk.out.1 e j hj1 hj))
                  rw [hof] at y6
                  clear HAll hof
                  go_wp2_with fail
                  go_roundw
                  case rel => exact ⟨j + 1, by go_num, by omega, by omega, .inr ⟨rfl, HR.out⟩, HBX.out⟩
                  case measure => first | (simp [intOf]; done) | (simp [intOf]; omega)
                · have HR := Lib.hid (show ∀ i : Nat, k + 1 ≤ i → i < j + 1 → (at' l i).of ≠ k from fun i h1 h2 => by
                    by_cases e : i = j
                    · subst e; exact hof
                    · exact HAll.out i h1 (by omega))
                  generalize (at' l j).of = fo at *
                  clear HAll
                  go_wp2_with fail
                  go_roundw
                  case rel => exact ⟨j + 1, by go_num, by omega, by omega, .inl ⟨by first | rfl | simp [hof], HR.out⟩, HBX.out⟩
                  case measure => first | (simp [intOf]; done) | (simp [intOf]; omega)
              · have HRE := Lib.hid hrev
                clear hrev
                go_wp2_with fail
                go_roundw
                case rel => exact ⟨j + 1, by go_num, by omega, by omega, .inr ⟨by first | rfl | trivial | simp, HRE.out⟩, HBX.out⟩
                case measure => first | (simp [intOf]; done) | (simp [intOf]; omega)
            · obtain rfl : j = N := by omega
              rcases hs with ⟨rfl, hall⟩ | ⟨rfl, hrev⟩
              · have HX := Lib.hid (HYE.out ⟨by first | rfl | trivial, by first | rfl | trivial⟩ (HRVk.out.2 hall))
                clear hall HNO HYE HRVk
                have HSMk := Lib.hid (fun t => HSM.out k (by omega) t)
                generalize owS l sub k = s at *
                obtain ⟨cn, rfl⟩ : ∃ n : Nat, cre = n := ⟨cre.toNat, by omega⟩
                obtain ⟨dn, rfl⟩ : ∃ n : Nat, deb = n := ⟨deb.toNat, by omega⟩
                have c1 : cn < A := by have := HA.out; omega
                have c2 : dn < A := by have := HA.out; omega
                have hcd : ¬ dn = cn := fun e => hne (by rw [e])
                have nGP : g ≠ bP := by have := HP.out; omega
                have nAG : bA ≠ g := by have := HEG.out; omega
                go_upto_region 14 with (fail)
                clear a0 a1 a2 la
                have p2 := RP.out.cell 2
                have p3 := RP.out.cell 3
                have p4 := RP.out.cell 4
                have lp := RP.out.lt
                simp only [List.getElem?_cons_zero, List.getElem?_cons_succ] at p2 p3 p4
                have z1 := RG.out.cell cn
                rw [rowI_at _ c1] at z1
                have lz := RG.out.lt
                have sb := HSMk.out cn
                have k0 : (0 : Int) ≤ cn := by omega
                have k1 : (cn : Int) < A := by omega
                refine wp_region_kin_tail 12 (by kernel_rfl) (by kernel_rfl) wx.heap.size 0 (by simp) (fun hk => ?_)
                simp only [List.take_succ_cons, List.take_zero, List.drop_succ_cons, List.drop_zero]
                repeat (go_big_quiet_step (fail))
                refine wpQuiet_nil ?_
                clear hk z1 lz
                clear p2 p3 p4 lp
                intro W5 hb
                replace RA := Lib.hid (RA.out.next hb)
                replace RG := Lib.hid (RG.out.next hb)
                replace RP := Lib.hid (RP.out.next hb)
                replace BB := Lib.hid (Below.andThen BB.out hb)
                clear hb
                have z1 := RG.out.cell cn
                rw [rowI_at _ c1] at z1
                have lz := RG.out.lt
                have fz := RG.out.frozen cn
                go_upto_region 15 with (fail)
                clear z1 lz fz
                refine wp_named fun w6 hq => ?_
                replace RA := Lib.hid (show Row w6 bA _ _ from by rw [hq]; exact RA.out.other nAG _ _)
                replace RP := Lib.hid (show Row w6 bP _ _ from by rw [hq]; exact RP.out.other (Ne.symm nGP) _ _)
                replace RG := Lib.hid (show Row w6 g _ (rowI (fun j => if j = cn then s cn + amt else s j) A) from by rw [hq, ← rowI_set]; exact RG.out.set cn _)
                replace BB := Lib.hid (show Below w.heap.size w w6 from by rw [hq]; exact BB.out.setCell (p := ⟨g, cn, none⟩) HEG.out.2 _)
                clear hq k0 k1 sb
                have p2 := RP.out.cell 2
                have p3 := RP.out.cell 3
                have p4 := RP.out.cell 4
                have lp := RP.out.lt
                simp only [List.getElem?_cons_zero, List.getElem?_cons_succ] at p2 p3 p4
                have z1 := RG.out.cell dn
                rw [rowI_at _ c2] at z1
                try dsimp only at z1
                rw [if_neg hcd] at z1
                have lz := RG.out.lt
                have sb := HSMk.out dn
                have k0 : (0 : Int) ≤ dn := by omega
                have k1 : (dn : Int) < A := by omega
                refine wp_region_kin_tail 12 (by kernel_rfl) (by kernel_rfl) w6.heap.size 0 (by simp) (fun hk => ?_)
                simp only [List.take_succ_cons, List.take_zero, List.drop_succ_cons, List.drop_zero]
                repeat (go_big_quiet_step (fail))
                refine wpQuiet_nil ?_
                clear hk z1 lz
                clear p2 p3 p4 lp
                intro W7 hb
                replace RA := Lib.hid (RA.out.next hb)
                replace RG := Lib.hid (RG.out.next hb)
                replace BB := Lib.hid (Below.andThen BB.out hb)
                clear hb
                have z1 := RG.out.cell dn
                rw [rowI_at _ c2] at z1
                try dsimp only at z1
                rw [if_neg hcd] at z1
                have lz := RG.out.lt
                have fz := RG.out.frozen dn
                have HFin := Lib.hid (show rowI (fun j => if j = dn then s dn - amt else if j = cn then s cn + amt else s j) A = rowI (owS l sub (k + 1)) A from rowI_ext fun t _ => by
                  rw [HX.out t]
                  unfold eff
                  dsimp only
                  by_cases e1 : t = dn
                  · subst e1
                    rw [if_pos rfl, if_neg (fun e => hcd (by omega)), if_pos rfl]
                    omega
                  · rw [if_neg e1]
                    by_cases e2 : t = cn
                    · subst e2
                      rw [if_pos rfl, if_pos rfl, if_neg (fun e => e1 (by omega))]
                      omega
                    · rw [if_neg e2, if_neg (fun e => e2 (by omega)), if_neg (fun e => e1 (by omega))]
                      omega)
                go_wp2_with fail
                go_roundw
                case rel => exact ⟨k + 1, by go_num, by omega, RA.out.other nAG _ _, by rw [← HFin.out, ← rowI_set]; exact RG.out.set dn _, BB.out.setCell (p := ⟨g, dn, none⟩) HEG.out.2 _⟩
                case measure => first | (simp [intOf]; done) | (simp [intOf]; omega)
              · have HX := Lib.hid (HNO.out (.inr hrev))
                clear hrev HNO HYE HRVk
                go_wp2_with fail
                go_roundw
                case rel => exact ⟨k + 1, by go_num, by omega, RA.out, by rw [HX.out]; exact RG.out, BB.out⟩
                case measure => first | (simp [intOf]; done) | (simp [intOf]; omega)
        · have HX := Lib.hid (HNO.out (.inl (by simp [hs1])))
          clear HNO HYE HRVk
          go_upto_region 9 with (fail)
          refine wp_named fun w4 hq => ?_
          have hB : Below wr.heap.size wr w4 := by rw [hq]; (repeat' first | exact Below.refl _ _ | assumption | (refine below_drewN ?_ _) | (refine Below.drew ?_) | (refine Below.alloc ?_ ?_ _) | (refine Below.setCell ?_ ?_ _) | (simp; done) | (simp; omega) | omega)
          replace RA := Lib.hid (RA.out.next hB)
          replace RG := Lib.hid (RG.out.next hB)
          replace BB := Lib.hid (Below.andThen BB.out hB)
          clear hq hB x0 x1 x2 x3 x4 x5 x6 lb1 i0 i1
          clear a0 a1 a2 la
          have a0 := RA.out.cell 0
          have a1 := RA.out.cell 1
          have a2 := RA.out.cell 2
          have la := RA.out.lt
          simp only [List.getElem?_cons_zero, List.getElem?_cons_succ] at a0 a1 a2
          go_wp2_with fail
          go_loopw [9, 10] (fun sv tv wx => ∃ j : Nat, tv = .int .i64 j ∧ k + 1 ≤ j ∧ j ≤ N ∧ sv = .bool false ∧ Below w4.heap.size w4 wx) (fun _ tv _ => N - (intOf tv).toNat)
          case atStart => exact ⟨k + 1, by go_num, Nat.le_refl _, by omega, by first | rfl | trivial | simp [*], Below.refl _ _⟩
          case round =>
            obtain ⟨j, rfl, hj1, hj2, rfl, hBx⟩ := hrel
            rename World => wx
            replace RA := Lib.hid (RA.out.next hBx)
            replace RG := Lib.hid (RG.out.next hBx)
            replace BB := Lib.hid (Below.andThen BB.out hBx)
            have HBX := Lib.hid hBx
            clear hBx
            clear a0 a1 a2 la
            have a0 := RA.out.cell 0
            have a1 := RA.out.cell 1
            have a2 := RA.out.cell 2
            have la := RA.out.lt
            simp only [List.getElem?_cons_zero, List.getElem?_cons_succ] at a0 a1 a2
            by_cases hj : j < N
            · go_wp2_with fail
              go_roundw
              case rel => exact ⟨j + 1, by go_num, by omega, by omega, by first | rfl | trivial | simp [*], HBX.out⟩
              case measure => first | (simp [intOf]; done) | (simp [intOf]; omega)
            · obtain rfl : j = N := by omega
              go_wp2_with fail
              go_roundw
              case rel => exact ⟨k + 1, by go_num, by omega, RA.out, by rw [HX.out]; exact RG.out, BB.out⟩
              case measure => first | (simp [intOf]; done) | (simp [intOf]; omega)
      · have HX := Lib.hid (HNO.out (.inl (by simp [hk1])))
        clear HNO HYE HRVk
        go_upto_region 9 with (fail)
        refine wp_named fun w4 hq => ?_
        have hB : Below wr.heap.size wr w4 := by rw [hq]; (repeat' first | exact Below.refl _ _ | assumption | (refine below_drewN ?_ _) | (refine Below.drew ?_) | (refine Below.alloc ?_ ?_ _) | (refine Below.setCell ?_ ?_ _) | (simp; done) | (simp; omega) | omega)
        replace RA := Lib.hid (RA.out.next hB)
        replace RG := Lib.hid (RG.out.next hB)
        replace BB := Lib.hid (Below.andThen BB.out hB)
        clear hq hB x0 x1 x2 x3 x4 x5 x6 lb1 i0 i1
        clear a0 a1 a2 la
        have a0 := RA.out.cell 0
        have a1 := RA.out.cell 1
        have a2 := RA.out.cell 2
        have la := RA.out.lt
        simp only [List.getElem?_cons_zero, List.getElem?_cons_succ] at a0 a1 a2
        go_wp2_with fail
        go_loopw [9, 10] (fun sv tv wx => ∃ j : Nat, tv = .int .i64 j ∧ k + 1 ≤ j ∧ j ≤ N ∧ sv = .bool false ∧ Below w4.heap.size w4 wx) (fun _ tv _ => N - (intOf tv).toNat)
        case atStart => exact ⟨k + 1, by go_num, Nat.le_refl _, by omega, by first | rfl | trivial | simp [*], Below.refl _ _⟩
        case round =>
          obtain ⟨j, rfl, hj1, hj2, rfl, hBx⟩ := hrel
          rename World => wx
          replace RA := Lib.hid (RA.out.next hBx)
          replace RG := Lib.hid (RG.out.next hBx)
          replace BB := Lib.hid (Below.andThen BB.out hBx)
          have HBX := Lib.hid hBx
          clear hBx
          clear a0 a1 a2 la
          have a0 := RA.out.cell 0
          have a1 := RA.out.cell 1
          have a2 := RA.out.cell 2
          have la := RA.out.lt
          simp only [List.getElem?_cons_zero, List.getElem?_cons_succ] at a0 a1 a2
          by_cases hj : j < N
          · go_wp2_with fail
            go_roundw
            case rel => exact ⟨j + 1, by go_num, by omega, by omega, by first | rfl | trivial | simp [*], HBX.out⟩
            case measure => first | (simp [intOf]; done) | (simp [intOf]; omega)
          · obtain rfl : j = N := by omega
            go_wp2_with fail
            go_roundw
            case rel => exact ⟨k + 1, by go_num, by omega, RA.out, by rw [HX.out]; exact RG.out, BB.out⟩
            case measure => first | (simp [intOf]; done) | (simp [intOf]; omega)
    · obtain rfl : k = N := by omega
      rw [HE.out] at RG
      go_wp2_with fail
      go_ret2
      refine ⟨g, by rw [HA.out]; rfl, own_row (by rw [rowI_flat]; exact RG.out) (by simp) HEG.out.2 (by omega), BB.out⟩
set_option maxRecDepth 100000 in
set_option maxHeartbeats 4000000 in
theorem rowed_bad (acc cl m : Int) (o : Option Addr) (N c : Nat) (l : List Po) (w : World) (h : BkW w o N c l) (hb : ¬ OwP acc l cl m) :
    Calls Try.prog 25 #[bookV acc o N c cl, .int .i64 m] w fun e w' => e = .returned (.tuple #[.slice none 0 0, .int .i64 310]) ∧ Below w.heap.size w w' := by
  have BW := Lib.hid h
  have CI := Lib.hid rIn_any
  have CV := Lib.hid (fun W (h : BkW W o N c l) => rValid_any acc cl o N c l W h.1 h.2.2.2.2)
  have HX := Lib.hid (show vd acc l cl = true → decide (0 ≤ m ∧ m ≤ 999) = false from fun g => decide_eq_false fun g2 => hb ⟨g, g2⟩)
  obtain ⟨G, hG⟩ : ∃ G, vd acc l cl = G := ⟨_, rfl⟩
  rw [hG] at CV HX
  clear hG h hb
  go_enter Try.func25, Try.ntmps25
  go_upto_region 1 with (fail)
  refine wp_named fun w1 hq => ?_
  obtain ⟨bA, eA⟩ : ∃ b, b = w.heap.size := ⟨_, rfl⟩
  have RA := Lib.hid (show Row w1 bA 24 [.int .i64 acc, .slice o N c, .int .i64 cl] from by rw [hq, eA]; exact Row.new w _ _)
  have BB := Lib.hid (show Below w.heap.size w w1 from by rw [hq]; (repeat' first | exact Below.refl _ _ | assumption | (refine below_drewN ?_ _) | (refine Below.drew ?_) | (refine Below.alloc ?_ ?_ _) | (refine Below.setCell ?_ ?_ _) | (simp; done) | (simp; omega) | omega))
  replace BW := Lib.hid (BW.out.next BB.out)
  rw [← eA]
  clear hq eA
  have a0 := RA.out.cell 0
  have a1 := RA.out.cell 1
  have a2 := RA.out.cell 2
  have la := RA.out.lt
  simp only [List.getElem?_cons_zero, List.getElem?_cons_succ] at a0 a1 a2
  go_wp2_with fail
  with_reducible refine Calls.mono (CV.out _ BW.out) ?_
  rintro e w2 ⟨rfl, hb⟩
  replace BB := Lib.hid (Below.andThen BB.out hb)
  clear hb CV
  clear a0 a1 a2 la
  cases G with
  | false =>
    go_wp2_with fail
    go_ret2
    exact ⟨rfl, BB.out⟩
  | true =>
    have d1 := HX.out rfl
    go_wp2_with (go_at_call 39; with_reducible refine Calls.mono (CI.out _ _ _ _) ?_; rintro e w' ⟨rfl, rfl⟩)
    go_ret2
    exact ⟨rfl, BB.out⟩
theorem rOwed_u (acc cl m : Int) (o : Option Addr) (N c : Nat) (l : List Po) (w : World) (h : BkW w o N c l) :
    Calls Try.prog 25 #[bookV acc o N c cl, .int .i64 m] w fun e w' => InEr w.heap.size (owB acc l cl m) e w' ∧ Below w.heap.size w w' := by
  unfold owB
  by_cases hb : OwP acc l cl m
  · have hV := (vd_iff.1 hb.1).1
    have g1 := hV.1
    rw [if_pos hb]
    refine (rowed_ok acc.toNat acc cl m (by omega) o N c l w h hb).mono ?_
    rintro e w' ⟨b, rfl, hO, hB⟩
    exact ⟨⟨_, _, _, rfl, by simp, hO⟩, hB⟩
  · rw [if_neg hb]
    refine (rowed_bad acc cl m o N c l w h hb).mono ?_
    rintro e w' ⟨rfl, hB⟩
    exact ⟨⟨none, 0, 0, rfl, rfl, own_nil _ _ _⟩, hB⟩
end Bk
end Go.Proofs.Ytnhlhoijajhcjaa
