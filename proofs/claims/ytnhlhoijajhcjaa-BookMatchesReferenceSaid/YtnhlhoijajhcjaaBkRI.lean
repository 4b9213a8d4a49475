/- The reference's Balance. -/
import Derived.Test.YtnhlhoijajhcjaaBkRE
set_option linter.unusedVariables false
set_option linter.unusedSimpArgs false
namespace Go.Proofs.Ytnhlhoijajhcjaa
open Go.RowKit
namespace Bk
open Sq
def BalP (acc : Int) (l : List Po) (cl a m : Int) : Prop := StP acc l cl m ∧ 0 ≤ a ∧ a < acc
instance (acc : Int) (l : List Po) (cl a m : Int) : Decidable (BalP acc l cl a m) := by unfold BalP; infer_instance
theorem sumP_step {l : List Po} {m : Int} {k : Nat} (t : Nat) : sumP (flt (toN m) l (k + 1)) t = if (at' l k).day.tdiv 30 = m then sumP (flt (toN m) l k) t + eff (at' l k) t else sumP (flt (toN m) l k) t := by
  by_cases h : (at' l k).day.tdiv 30 = m
  · rw [if_pos h, flt_yes (show toN m (at' l k) = true from decide_eq_true h), sumP_snoc]
  · rw [if_neg h, flt_no (show toN m (at' l k) = false from decide_eq_false h)]
set_option maxRecDepth 100000 in
set_option maxHeartbeats 8000000 in
theorem rbalance_bad (acc cl a m : Int) (o : Option Addr) (N c : Nat) (l : List Po) (w : World) (h : BkW w o N c l) (hb : ¬ BalP acc l cl a m) :
    Calls Try.prog 22 #[bookV acc o N c cl, .int .i64 a, .int .i64 m] w fun e w' => e = .returned errZ ∧ Below w.heap.size w w' := by
  have BW := Lib.hid h
  have CI := Lib.hid rIn_any
  have CV := Lib.hid (fun W (h : BkW W o N c l) => rValid_any acc cl o N c l W h.1 h.2.2.2.2)
  have HB := Lib.hid (show ¬ (vd acc l cl = true ∧ (0 ≤ a ∧ a ≤ acc - 1) ∧ (0 ≤ m ∧ m ≤ 11)) from fun g => hb ⟨⟨g.1, g.2.2.1, by omega⟩, g.2.1.1, by omega⟩)
  have HA := Lib.hid (fun (h : vd acc l cl = true) => (show 2 ≤ acc ∧ acc ≤ 12 from ⟨(vd_iff.1 h).1.1, (vd_iff.1 h).1.2.1⟩))
  obtain ⟨G, hG⟩ : ∃ G, vd acc l cl = G := ⟨_, rfl⟩
  rw [hG] at CV HB HA
  clear hG h hb
  go_enter Try.func22, Try.ntmps22
  go_upto_region 1 with (fail)
  refine wp_named fun w1 hq => ?_
  obtain ⟨bA, eA⟩ : ∃ b, b = w.heap.size := ⟨_, rfl⟩
  have RA := Lib.hid (show Row w1 bA 24 [.int .i64 acc, .slice o N c, .int .i64 cl] from by rw [hq, eA]; exact Row.new w _ _)
  have BB := Lib.hid (show Below w.heap.size w w1 from by rw [hq]; (repeat' first | exact Below.refl _ _ | assumption | (refine below_drewN ?_ _) | (refine Below.drew ?_) | (refine Below.alloc ?_ ?_ _) | (refine Below.setCell ?_ ?_ _) | (simp; done) | (simp; omega) | omega))
  replace BW := Lib.hid (BW.out.next BB.out)
  rw [← eA]
  clear hq eA
  have a0 := RA.out.cell 0
  have a1 := RA.out.cell 1
  have a2 := RA.out.cell 2
  have la := RA.out.lt
  simp only [List.getElem?_cons_zero, List.getElem?_cons_succ] at a0 a1 a2
  go_wp2_with fail
  with_reducible refine Calls.mono (CV.out _ BW.out) ?_
  rintro e w2 ⟨rfl, hb⟩
  replace RA := Lib.hid (RA.out.next hb)
  replace BB := Lib.hid (Below.andThen BB.out hb)
  clear hb CV
  clear a0 a1 a2 la
  cases G with
  | false =>
    go_wp2_with fail
    go_ret2
    exact ⟨rfl, BB.out⟩
  | true =>
    obtain ⟨g1, g2⟩ := HA.out rfl
    have a0 := RA.out.cell 0
    have a1 := RA.out.cell 1
    have a2 := RA.out.cell 2
    have la := RA.out.lt
    simp only [List.getElem?_cons_zero, List.getElem?_cons_succ] at a0 a1 a2
    by_cases ha : 0 ≤ a ∧ a ≤ acc - 1
    · have d1 : decide (0 ≤ a ∧ a ≤ acc - 1) = true := decide_eq_true ha
      have d2 : decide (0 ≤ m ∧ m ≤ 11) = false := decide_eq_false (fun h => HB.out ⟨rfl, ha, h⟩)
      clear ha
      go_wp2_with (go_at_call 39; with_reducible refine Calls.mono (CI.out _ _ _ _) ?_; rintro e w' ⟨rfl, rfl⟩)
      go_ret2
      exact ⟨rfl, BB.out⟩
    · have d1 : decide (0 ≤ a ∧ a ≤ acc - 1) = false := decide_eq_false ha
      clear ha
      go_wp2_with (go_at_call 39; with_reducible refine Calls.mono (CI.out _ _ _ _) ?_; rintro e w' ⟨rfl, rfl⟩)
      go_ret2
      exact ⟨rfl, BB.out⟩
set_option maxRecDepth 100000 in
set_option maxHeartbeats 8000000 in
theorem rbalance_ok (acc cl a m : Int) (t : Nat) (ht : a = t) (o : Option Addr) (N c : Nat) (l : List Po) (w : World) (h : BkW w o N c l) (hb : BalP acc l cl a m) :
    Calls Try.prog 22 #[bookV acc o N c cl, .int .i64 a, .int .i64 m] w fun e w' => e = .returned (.tuple #[.int .i64 (sT l m t), .int .i64 0]) ∧ Below w.heap.size w w' := by
  have HAT := Lib.hid ht
  obtain ⟨⟨hv, hm0, hm1⟩, ht0, ht1⟩ := hb
  have hV := vd_iff.1 hv
  have hfm : ∀ p ∈ l, FmP acc p := fun p hp => by
    obtain ⟨i, hi, rfl⟩ := at_of_mem hp
    exact (hV.2 i hi).1
  have hN : N ≤ 200 := by have := hV.1.2.2.2.2; rw [h.1] at this; exact this
  have g1 := hV.1.1
  have g2 := hV.1.2.1
  have HFM := Lib.hid (fun (k : Nat) (hk : k < N) => hfm _ (at_mem (l := l) (i := k) (by rw [h.1]; exact hk)))
  have HSM := Lib.hid (fun (k : Nat) (hk : k ≤ N) => sum_small hfm (by rw [h.1]; omega) (flt_more (q := toN m) (l := l) (k := k) (by rw [h.1]; exact hk)) t)
  have BW := Lib.hid h
  have CI := Lib.hid rIn_any
  have CV := Lib.hid (fun W (h : BkW W o N c l) => rValid_any acc cl o N c l W h.1 h.2.2.2.2)
  rw [hv] at CV
  have d1 : decide (0 ≤ a ∧ a ≤ acc - 1) = true := decide_eq_true ⟨ht0, by omega⟩
  have d2 : decide (0 ≤ m ∧ m ≤ 11) = true := decide_eq_true ⟨hm0, by omega⟩
  have HT := Lib.hid (And.intro ht0 (And.intro ht1 (And.intro hm0 hm1)))
  have HE := Lib.hid (show sumP (flt (toN m) l N) t = sT l m t from by rw [← h.1]; rfl)
  clear hv hV hfm h ht0 ht1 hm0 hm1 ht
  go_enter Try.func22, Try.ntmps22
  go_upto_region 1 with (fail)
  refine wp_named fun w1 hq => ?_
  obtain ⟨bA, eA⟩ : ∃ b, b = w.heap.size := ⟨_, rfl⟩
  have RA := Lib.hid (show Row w1 bA 24 [.int .i64 acc, .slice o N c, .int .i64 cl] from by rw [hq, eA]; exact Row.new w _ _)
  have BB := Lib.hid (show Below w.heap.size w w1 from by rw [hq]; (repeat' first | exact Below.refl _ _ | assumption | (refine below_drewN ?_ _) | (refine Below.drew ?_) | (refine Below.alloc ?_ ?_ _) | (refine Below.setCell ?_ ?_ _) | (simp; done) | (simp; omega) | omega))
  replace BW := Lib.hid (BW.out.next BB.out)
  rw [← eA]
  clear hq eA
  have a0 := RA.out.cell 0
  have a1 := RA.out.cell 1
  have a2 := RA.out.cell 2
  have la := RA.out.lt
  simp only [List.getElem?_cons_zero, List.getElem?_cons_succ] at a0 a1 a2
  go_wp2_with fail
  with_reducible refine Calls.mono (CV.out _ BW.out) ?_
  rintro e w2 ⟨rfl, hb⟩
  replace RA := Lib.hid (RA.out.next hb)
  replace BW := Lib.hid (BW.out.next hb)
  replace BB := Lib.hid (Below.andThen BB.out hb)
  clear hb CV
  clear a0 a1 a2 la
  have a0 := RA.out.cell 0
  have a1 := RA.out.cell 1
  have a2 := RA.out.cell 2
  have la := RA.out.lt
  simp only [List.getElem?_cons_zero, List.getElem?_cons_succ] at a0 a1 a2
  go_wp2_with (go_at_call 39; with_reducible refine Calls.mono (CI.out _ _ _ _) ?_; rintro e w' ⟨rfl, rfl⟩)
  clear a0 a1 a2 la
  clear d1 d2
  go_loopw [8, 9] (fun nv jv wr => ∃ k : Nat, jv = .int .i64 k ∧ k ≤ N ∧ nv = .int .i64 (sumP (flt (toN m) l k) t) ∧ Below w2.heap.size w2 wr) (fun _ jv _ => N - (intOf jv).toNat)
  case atStart => exact ⟨0, rfl, Nat.zero_le _, rfl, Below.refl _ _⟩
  case round =>
    obtain ⟨k, rfl, hk, rfl, hB⟩ := hrel
    rename World => wr
    replace RA := Lib.hid (RA.out.next hB)
    replace BW := Lib.hid (BW.out.next hB)
    have BB2 := Lib.hid (Below.andThen BB.out hB)
    have HB := Lib.hid hB
    have HK := Lib.hid hk
    clear hB
    have a0 := RA.out.cell 0
    have a1 := RA.out.cell 1
    have a2 := RA.out.cell 2
    have la := RA.out.lt
    simp only [List.getElem?_cons_zero, List.getElem?_cons_succ] at a0 a1 a2
    by_cases hlt : k < N
    · obtain ⟨b1, f1, rfl, -, -⟩ := BW.out.2.2.2.2.cells (fun e => by have := BW.out.1; rw [e] at this; simp at this; omega)
      obtain ⟨lb1, x0, x1, x2, x3, x4, x5, x6⟩ := sl_at BW.out.2.2.2.2 (k := k) (by rw [BW.out.1]; exact hlt)
      have hf := HFM.out k hlt
      have hs1 := HSM.out k (by omega)
      have HST := Lib.hid (sumP_step (l := l) (m := m) (k := k) t)
      generalize sumP (flt (toN m) l k) t = s at *
      generalize at' l k = q at *
      obtain ⟨kind, day, deb, cre, amt, sub, of⟩ := q
      obtain ⟨-, hday, hdeb, hcre, hne, hamt, -⟩ := hf
      dsimp only at *
      have i0 : (0 : Int) ≤ k := by omega
      have i1 : (k : Int) < N := by omega
      unfold eff at HST
      dsimp only at HST
      rw [Int.tdiv_eq_ediv_of_nonneg hday.1] at HST
      by_cases hd : day / 30 = m
      · rw [if_pos hd] at HST
        by_cases h1 : cre = a
        · have h2 : ¬ deb = a := fun e => hne (by rw [e, h1])
          have HX := Lib.hid (show sumP (flt (toN m) l (k + 1)) t = s + amt from by rw [HST.out, if_pos (by rw [← HAT.out, h1]), if_neg (fun e => h2 (by rw [HAT.out]; exact e.symm))]; omega)
          clear HST
          go_wp2_with fail
          go_roundw
          case rel => exact ⟨k + 1, by go_num, by omega, by rw [HX.out], by (repeat' first | exact Below.refl _ _ | assumption | (refine Below.andThen ?_ HB.out) | (exact HB.out.size) | (simpa using HB.out.size) | (refine below_drewN ?_ _) | (refine Below.drew ?_) | (refine Below.alloc ?_ ?_ _) | (refine Below.setCell ?_ ?_ _) | (simp; done) | (simp; omega) | omega)⟩
          case measure => first | (simp [intOf]; done) | (simp [intOf]; omega)
        · by_cases h2 : deb = a
          · have HX := Lib.hid (show sumP (flt (toN m) l (k + 1)) t = s - amt from by rw [HST.out, if_neg (fun e => h1 (by rw [HAT.out]; exact e.symm)), if_pos (by rw [← HAT.out, h2])]; omega)
            clear HST
            go_wp2_with fail
            go_roundw
            case rel => exact ⟨k + 1, by go_num, by omega, by rw [HX.out], by (repeat' first | exact Below.refl _ _ | assumption | (refine Below.andThen ?_ HB.out) | (exact HB.out.size) | (simpa using HB.out.size) | (refine below_drewN ?_ _) | (refine Below.drew ?_) | (refine Below.alloc ?_ ?_ _) | (refine Below.setCell ?_ ?_ _) | (simp; done) | (simp; omega) | omega)⟩
            case measure => first | (simp [intOf]; done) | (simp [intOf]; omega)
          · have HX := Lib.hid (show sumP (flt (toN m) l (k + 1)) t = s from by rw [HST.out, if_neg (fun e => h1 (by rw [HAT.out]; exact e.symm)), if_neg (fun e => h2 (by rw [HAT.out]; exact e.symm))]; omega)
            clear HST
            go_wp2_with fail
            go_roundw
            case rel => exact ⟨k + 1, by go_num, by omega, by rw [HX.out], by (repeat' first | exact Below.refl _ _ | assumption | (refine Below.andThen ?_ HB.out) | (exact HB.out.size) | (simpa using HB.out.size) | (refine below_drewN ?_ _) | (refine Below.drew ?_) | (refine Below.alloc ?_ ?_ _) | (refine Below.setCell ?_ ?_ _) | (simp; done) | (simp; omega) | omega)⟩
            case measure => first | (simp [intOf]; done) | (simp [intOf]; omega)
      · rw [if_neg hd] at HST
        go_wp2_with fail
        go_roundw
        case rel => exact ⟨k + 1, by go_num, by omega, by rw [HST.out], by (repeat' first | exact Below.refl _ _ | assumption | (refine Below.andThen ?_ HB.out) | (exact HB.out.size) | (simpa using HB.out.size) | (refine below_drewN ?_ _) | (refine Below.drew ?_) | (refine Below.alloc ?_ ?_ _) | (refine Below.setCell ?_ ?_ _) | (simp; done) | (simp; omega) | omega)⟩
        case measure => first | (simp [intOf]; done) | (simp [intOf]; omega)
    · obtain rfl : k = N := by omega
      rw [HE.out]
      go_wp2_with fail
      go_ret2
      exact ⟨rfl, BB2.out⟩
theorem rBalance_any (acc cl a m : Int) (o : Option Addr) (N c : Nat) (l : List Po) (w : World) (h : BkW w o N c l) :
    Calls Try.prog 22 #[bookV acc o N c cl, .int .i64 a, .int .i64 m] w fun e w' => e = .returned (if StP acc l cl m ∧ 0 ≤ a ∧ a < acc then .tuple #[.int .i64 (sT l m a.toNat), .int .i64 0] else errZ) ∧ Below w.heap.size w w' := by
  by_cases hb : BalP acc l cl a m
  · rw [if_pos (show StP acc l cl m ∧ 0 ≤ a ∧ a < acc from hb)]
    exact rbalance_ok acc cl a m a.toNat (by have := hb.2.1; omega) o N c l w h hb
  · rw [if_neg (show ¬ (StP acc l cl m ∧ 0 ≤ a ∧ a < acc) from hb)]
    exact rbalance_bad acc cl a m o N c l w h hb
end Bk
end Go.Proofs.Ytnhlhoijajhcjaa
