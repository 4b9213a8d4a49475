/- The reference's Valid. -/
import Derived.Test.YtnhlhoijajhcjaaDoorBkRA
import Derived.Deep.CutBlock
set_option linter.unusedVariables false
set_option linter.unusedSimpArgs false
set_option linter.unnecessarySimpa false
namespace Go.Proofs.YtnhlhoijajhcjaaDoor
open Go.RowKit
namespace Bk
open Sq
def mkB (f : Nat → Bool) (N : Nat) : List Value := (List.range N).map fun j => .bool (f j)
theorem mkB_len (f : Nat → Bool) (N : Nat) : (mkB f N).length = N := by simp [mkB]
theorem mkB_at (f : Nat → Bool) {N j : Nat} (h : j < N) : (mkB f N)[j]? = some (.bool (f j)) := by
  unfold mkB
  rw [List.getElem?_map, List.getElem?_range h]
  rfl
theorem mkB_set (f : Nat → Bool) (N i : Nat) (v : Bool) : (mkB f N).set i (.bool v) = mkB (fun j => if j = i then v else f j) N := by
  apply List.ext_getElem?
  intro j
  rw [List.getElem?_set, mkB_len]
  by_cases hj : j < N
  · rw [mkB_at (fun j => if j = i then v else f j) hj]
    by_cases e : i = j
    · subst e
      rw [if_pos rfl, if_pos hj, if_pos rfl]
    · rw [if_neg e, if_neg (fun h : j = i => e h.symm), mkB_at _ hj]
  · rw [List.getElem?_eq_none (by rw [mkB_len]; omega : (mkB (fun j => if j = i then v else f j) N).length ≤ j)]
    split
    · rename_i e
      rw [if_neg (by omega)]
    · exact List.getElem?_eq_none (by rw [mkB_len]; omega)
theorem mkB_ext {f g : Nat → Bool} {N : Nat} (h : ∀ j, f j = g j) : mkB f N = mkB g N := by rw [show f = g from funext h]
theorem mkB_no (N : Nat) : List.replicate N (Value.bool false) = mkB (fun _ => false) N := by
  apply List.ext_getElem?
  intro j
  by_cases hj : j < N
  · rw [mkB_at _ hj, List.getElem?_replicate, if_pos hj]
  · rw [List.getElem?_eq_none (by simp; omega), List.getElem?_eq_none (by rw [mkB_len]; omega)]
theorem infoBool : (Tryd.prog.info? 4).map (fun i => (i.zero, i.size, i.bytes)) = some (some (.bool false), 1, 1) := by kernel_rfl
theorem take_rev {l : List Po} {k : Nat} (h : k < l.length) (j : Int) : rev (l.take (k + 1)) j = (rev (l.take k) j || decide ((at' l k).kind = 2 ∧ (at' l k).of = j)) := by
  rw [List.take_add_one, at_get h, rev_append]
  congr 1
  simp [rev]
theorem rvalid_base (acc cl : Int) (o : Option Addr) (N c : Nat) (w : World) (h : ¬ BaseP acc N cl) : Calls Tryd.prog 34 #[bookV acc o N c cl] w fun e w' => e = .returned (.bool false) ∧ Below w.heap.size w w' := by
  have CI := Lib.hid (fun W => rIn_any acc 2 12 W)
  have CJ := Lib.hid (fun W => rIn_any cl 0 12 W)
  by_cases h1 : 2 ≤ acc ∧ acc ≤ 12
  · rw [decide_eq_true h1] at CI
    by_cases h2 : 0 ≤ cl ∧ cl ≤ 12
    · rw [decide_eq_true h2] at CJ
      have h3 : (200 : Int) < N := by unfold BaseP at h; omega
      clear h h1 h2
      go_enter Tryd.func34, Tryd.ntmps34
      go_wp2_with (first | (go_at_call 62; with_reducible refine Calls.mono (CI.out _) ?_; rintro e w' ⟨rfl, rfl⟩) | (go_at_call 62; with_reducible refine Calls.mono (CJ.out _) ?_; rintro e w' ⟨rfl, rfl⟩))
      refine bodyPost_ret (v := .bool false) (by first | (simp [results, Tryd.results34, go_sem]; done) | simp [results, Tryd.results34, go_sem, *]) rfl ⟨rfl, by (repeat' first | exact Below.refl _ _ | assumption | (refine below_drewN ?_ _) | (refine Below.drew ?_) | (refine Below.alloc ?_ ?_ _) | (refine Below.setCell ?_ ?_ _) | (simp; done) | (simp; omega) | omega)⟩
    · rw [decide_eq_false h2] at CJ
      clear h h1 h2
      go_enter Tryd.func34, Tryd.ntmps34
      go_wp2_with (first | (go_at_call 62; with_reducible refine Calls.mono (CI.out _) ?_; rintro e w' ⟨rfl, rfl⟩) | (go_at_call 62; with_reducible refine Calls.mono (CJ.out _) ?_; rintro e w' ⟨rfl, rfl⟩))
      refine bodyPost_ret (v := .bool false) (by first | (simp [results, Tryd.results34, go_sem]; done) | simp [results, Tryd.results34, go_sem, *]) rfl ⟨rfl, by (repeat' first | exact Below.refl _ _ | assumption | (refine below_drewN ?_ _) | (refine Below.drew ?_) | (refine Below.alloc ?_ ?_ _) | (refine Below.setCell ?_ ?_ _) | (simp; done) | (simp; omega) | omega)⟩
  · rw [decide_eq_false h1] at CI
    clear h h1
    go_enter Tryd.func34, Tryd.ntmps34
    go_wp2_with (go_at_call 62; with_reducible refine Calls.mono (CI.out _) ?_; rintro e w' ⟨rfl, rfl⟩)
    refine bodyPost_ret (v := .bool false) (by first | (simp [results, Tryd.results34, go_sem]; done) | simp [results, Tryd.results34, go_sem, *]) rfl ⟨rfl, by (repeat' first | exact Below.refl _ _ | assumption | (refine below_drewN ?_ _) | (refine Below.drew ?_) | (refine Below.alloc ?_ ?_ _) | (refine Below.setCell ?_ ?_ _) | (simp; done) | (simp; omega) | omega)⟩
theorem sl_set {w X : World} {o : Option Addr} {l : List Po} (h : Sl poE X o l) (h0 : Sl poE w o l) {g j : Nat} (hg : w.heap.size ≤ g) (v : Value) : Sl poE (X.setCell ⟨g, j, none⟩ v) o l := by
  rcases h0 with rfl | ⟨b, off, rfl, hb0, -⟩
  · exact .inl rfl
  · rcases h with rfl | ⟨b', off', e, hb, hc⟩
    · exact .inl rfl
    · cases e
      refine .inr ⟨b, off, rfl, by simpa using hb, fun i x hx n u hu => ?_⟩
      rw [← hc i x hx n u hu]
      exact World.cell?_setCell_far _ _ _ _ (show g ≠ b by omega)
set_option maxRecDepth 100000 in
set_option maxHeartbeats 8000000 in
theorem rvalid_ok (acc cl : Int) (o : Option Addr) (N c : Nat) (l : List Po) (w : World) (hl : l.length = N) (h : BaseP acc N cl) (hS : Sl poE w o l) :
    Calls Tryd.prog 34 #[bookV acc o N c cl] w fun e w' => e = .returned (.bool (vd acc l cl)) ∧ Below w.heap.size w w' := by
  have CI := Lib.hid (fun W => rIn_any acc 2 12 W)
  have CJ := Lib.hid (fun W => rIn_any cl 0 12 W)
  rw [decide_eq_true (show 2 ≤ acc ∧ acc ≤ 12 from ⟨h.1, h.2.1⟩)] at CI
  rw [decide_eq_true (show 0 ≤ cl ∧ cl ≤ 12 from ⟨h.2.2.1, h.2.2.2.1⟩)] at CJ
  have CF := Lib.hid (fun p W => rFormed_any p acc W ⟨h.1, h.2.1⟩)
  have HB := Lib.hid h
  have hN : N ≤ 200 := h.2.2.2.2
  have hN3 : ¬ (200 : Int) < N := by omega
  have HL := Lib.hid hl
  obtain ⟨F, hF⟩ : ∃ F, vd acc l cl = F := ⟨_, rfl⟩
  have HEnd := Lib.hid (show (∀ j, j < N → OkP acc l j) → F = true from fun g => by rw [← hF]; exact vd_iff.2 ⟨by rw [hl]; exact HB.out, fun i hi => g i (by omega)⟩)
  have HBad := Lib.hid (show ∀ j, j < N → ¬ OkP acc l j → F = false from fun j hj g => by rw [← hF]; exact vd_no (fun g2 => g (g2.2 j (by omega))))
  rw [hF]
  have SL := Lib.hid hS
  have SLW := Lib.hid hS
  clear hF hS h
  obtain ⟨i0, hi, hz0, hz1, hz2⟩ := info_parts infoBool
  go_enter Tryd.func34, Tryd.ntmps34
  go_upto_region 3 with (first | (go_at_call 62; with_reducible refine Calls.mono (CI.out _) ?_; rintro e w' ⟨rfl, rfl⟩) | (go_at_call 62; with_reducible refine Calls.mono (CJ.out _) ?_; rintro e w' ⟨rfl, rfl⟩))
  refine wp_named fun w1 hq => ?_
  obtain ⟨bA, eA⟩ : ∃ b, b = w.heap.size := ⟨_, rfl⟩
  have RA := Lib.hid (show Row w1 bA 24 [.int .i64 acc, .slice o N c, .int .i64 cl] from by rw [hq, eA]; exact Row.new w _ _)
  have BB := Lib.hid (show Below w.heap.size w w1 from by rw [hq]; (repeat' first | exact Below.refl _ _ | assumption | (refine below_drewN ?_ _) | (refine Below.drew ?_) | (refine Below.alloc ?_ ?_ _) | (refine Below.setCell ?_ ?_ _) | (simp; done) | (simp; omega) | omega))
  replace SL := Lib.hid (SL.out.next BB.out)
  have HEA := Lib.hid (show w.heap.size ≤ bA ∧ bA < w1.heap.size from ⟨by omega, by rw [hq, eA]; simp⟩)
  rw [← eA]
  clear hq eA CI CJ
  have a1 := RA.out.cell 1
  simp only [List.getElem?_cons_zero, List.getElem?_cons_succ] at a1
  have la := RA.out.lt
  have hmk := run_make_row (P := Tryd.prog) w1 105 4 i0 _ 1 Tryd.underlying105 hi hz0 hz1 hz2 rfl N (by omega) (by omega)
  go_upto_region 4 with (fail)
  refine wp_named fun w2 hq => ?_
  obtain ⟨g, eg⟩ : ∃ b, b = w1.heap.size := ⟨_, rfl⟩
  have RG := Lib.hid (show Row w2 g 4 (mkB (fun j => rev (l.take 0) j) N) from by rw [hq, eg, show mkB (fun j : Nat => rev (l.take 0) j) N = List.replicate N (.bool false) from ((mkB_no N).trans (mkB_ext fun j => by simp [rev])).symm]; have := Row.new w1 4 (List.replicate N (Value.bool false)); rwa [List.toArray_replicate] at this)
  have hB : Below w1.heap.size w1 w2 := by rw [hq]; (repeat' first | exact Below.refl _ _ | assumption | (refine below_drewN ?_ _) | (refine Below.drew ?_) | (refine Below.alloc ?_ ?_ _) | (refine Below.setCell ?_ ?_ _) | (simp; done) | (simp; omega) | omega)
  replace RA := Lib.hid (RA.out.next hB)
  replace SL := Lib.hid (SL.out.next hB)
  have HEG := Lib.hid (show bA < g ∧ w.heap.size ≤ g ∧ g < w2.heap.size from ⟨by have := HEA.out; omega, by have := BB.out.size; omega, by rw [hq, eg]; simp⟩)
  replace BB := Lib.hid (Below.andThen BB.out hB)
  rw [← eg]
  clear hq eg hB hmk a1 la hi hz0 hz1 hz2 i0
  have SLG := Lib.hid (fun (X : World) (hb : Below w.heap.size w X) (h : Sl poE w o l) => h.next hb)
  go_wp2_with fail
  go_loopw [4] (fun jv wr => ∃ k : Nat, jv = .int .i64 k ∧ k ≤ N ∧ Row wr bA 24 [.int .i64 acc, .slice o N c, .int .i64 cl] ∧ Row wr g 4 (mkB (fun j => rev (l.take k) j) N) ∧ (∀ j, j < k → OkP acc l j) ∧ Sl poE wr o l ∧ Below w.heap.size w wr ∧ w2.heap.size ≤ wr.heap.size) (fun jv _ => N - (intOf jv).toNat)
  case atStart => exact ⟨0, rfl, Nat.zero_le _, RA.out, RG.out, fun j hj => absurd hj (Nat.not_lt_zero _), SL.out, BB.out, Nat.le_refl _⟩
  case round =>
    obtain ⟨k, rfl, hk, hRA, hRG, hall, hS, hB, hsz⟩ := hrel
    rename World => wr
    replace RA := Lib.hid hRA
    replace RG := Lib.hid hRG
    replace SL := Lib.hid hS
    replace BB := Lib.hid hB
    have HSZ := Lib.hid (show g < wr.heap.size by have := HEG.out; omega)
    have HZ2 := Lib.hid hsz
    have HA := Lib.hid hall
    clear hRA hRG hS hB hall hsz
    have a0 := RA.out.cell 0
    have a1 := RA.out.cell 1
    simp only [List.getElem?_cons_zero, List.getElem?_cons_succ] at a0 a1
    have la := RA.out.lt
    by_cases hlt : k < N
    · obtain ⟨bl, off, rfl, -, -⟩ := SL.out.cells (fun e => by have := HL.out; rw [e] at this; simp at this; omega)
      obtain ⟨lb, c0, c1, c2, c3, c4, c5, c6⟩ := sl_at SL.out (k := k) (by rw [HL.out]; exact hlt)
      have CF1 := Lib.hid (fun W => CF.out (at' l k) W)
      have HX := Lib.hid (fun h => HBad.out k hlt h)
      have HNx := Lib.hid (show OkP acc l k → ∀ j, j < k + 1 → OkP acc l j from fun h j hj => by
        by_cases e : j = k
        · subst e; exact h
        · exact HA.out j (by omega))
      have HRV := Lib.hid (fun j => take_rev (l := l) (k := k) (by rw [HL.out]; exact hlt) j)
      have HK := Lib.hid (show fm acc (at' l k) = true → ((at' l k).kind = 1 ∧ (at' l k).of = -1) ∨ ((at' l k).kind = 2 ∧ 0 ≤ (at' l k).of ∧ (at' l k).of < 200) from fun h => (fm_iff.1 h).1)
      have HNF := Lib.hid (show fm acc (at' l k) = false → F = false from fun h => HX.out fun h2 => by rw [fm_iff.2 h2.1] at h; cases h)
      have HND := Lib.hid (show ∀ m, k = m + 1 → ¬ (at' l m).day ≤ (at' l k).day → F = false from fun m e h => HX.out fun h2 => by subst e; exact h (h2.2.1 (Nat.succ_pos _)))
      have HO1 := Lib.hid (show fm acc (at' l k) = true → (0 < k → (at' l (k - 1)).day ≤ (at' l k).day) → (at' l k).kind = 1 → OkP acc l k from fun h1 h2 h3 => ⟨fm_iff.1 h1, h2, fun h4 => by omega⟩)
      have HTB := Lib.hid (show TbP l k ↔ (at' l k).of < k ∧ (at' l (at' l k).of.toNat).kind = 1 ∧ rev (l.take k) (at' l k).of = false ∧ (at' l (at' l k).of.toNat).sub = (at' l k).sub ∧ ((at' l k).deb = (at' l (at' l k).of.toNat).cre ∧ (at' l k).cre = (at' l (at' l k).of.toNat).deb ∧ (at' l k).amt = (at' l (at' l k).of.toNat).amt) from Iff.rfl)
      have HN2 := Lib.hid (show (at' l k).kind = 2 → ¬ TbP l k → F = false from fun h1 h2 => HX.out fun h3 => h2 (h3.2.2 h1))
      have HO2 := Lib.hid (show fm acc (at' l k) = true → (0 < k → (at' l (k - 1)).day ≤ (at' l k).day) → TbP l k → OkP acc l k from fun h1 h2 h3 => ⟨fm_iff.1 h1, h2, fun _ => h3⟩)
      have HPR := Lib.hid (show ∀ m, k = m + 1 → (at' l (k - 1)) = at' l m from fun m e => by subst e; rfl)
      have HAT := Lib.hid (fun q W (h : Sl poE W (some ⟨bl, off, none⟩) l) hq => sl_at h (k := q) (by rw [HL.out]; exact hq))
      generalize hp : at' l k = p at *
      clear hp
      obtain ⟨f, hf⟩ : ∃ f, fm acc p = f := ⟨_, rfl⟩
      rw [hf] at CF1 HK HNF HO1 HO2
      clear hf HX
      obtain ⟨kind, day, deb, cre, amt, sub, of⟩ := p
      unfold Po.v at CF1
      dsimp only at *
      go_upto_region 8 with (fail)
      refine wp_named fun w3 hq => ?_
      obtain ⟨bp, ep⟩ : ∃ b, b = wr.heap.size := ⟨_, rfl⟩
      have RP := Lib.hid (show Row w3 bp 27 [.int .i64 kind, .int .i64 day, .int .i64 deb, .int .i64 cre, .int .i64 amt, .int .i64 sub, .int .i64 of] from by rw [hq, ep]; exact Row.new wr _ _)
      have hB : Below wr.heap.size wr w3 := by rw [hq]; (repeat' first | exact Below.refl _ _ | assumption | (refine below_drewN ?_ _) | (refine Below.drew ?_) | (refine Below.alloc ?_ ?_ _) | (refine Below.setCell ?_ ?_ _) | (simp; done) | (simp; omega) | omega)
      replace RA := Lib.hid (RA.out.next hB)
      replace RG := Lib.hid (RG.out.next hB)
      replace SL := Lib.hid (SL.out.next hB)
      replace BB := Lib.hid (Below.andThen BB.out hB)
      replace HZ2 := Lib.hid (Nat.le_trans HZ2.out hB.size)
      rw [← ep]
      clear hq ep hB a0 a1 la c0 c1 c2 c3 c4 c5 c6 lb
      have a0 := RA.out.cell 0
      have a1 := RA.out.cell 1
      simp only [List.getElem?_cons_zero, List.getElem?_cons_succ] at a0 a1
      have la := RA.out.lt
      have p0 := RP.out.cell 0
      have p1 := RP.out.cell 1
      have p2 := RP.out.cell 2
      have p3 := RP.out.cell 3
      have p4 := RP.out.cell 4
      have p5 := RP.out.cell 5
      have p6 := RP.out.cell 6
      simp only [List.getElem?_cons_zero, List.getElem?_cons_succ] at p0 p1 p2 p3 p4 p5 p6
      have lP := RP.out.lt
      cases f with
      | false =>
        refine wp_region_kin (by kernel_rfl) (by kernel_rfl) w3.heap.size 0 (by simp) (fun hk => ?_)
        repeat (go_big_quiet_step (first | (go_at_call 64; with_reducible exact Calls.kin (CF1.out _))))
        refine wpQuiet_nil ?_
        clear hk
        intro w4 hb
        replace RA := Lib.hid (RA.out.next hb)
        replace RG := Lib.hid (RG.out.next hb)
        replace RP := Lib.hid (RP.out.next hb)
        replace SL := Lib.hid (SL.out.next hb)
        replace BB := Lib.hid (Below.andThen BB.out hb)
        replace HZ2 := Lib.hid (Nat.le_trans HZ2.out hb.size)
        clear hb a0 a1 la p0 p1 p2 p3 p4 p5 p6 lP
        have HE := Lib.hid (show F = false from HNF.out (by trivial))
        go_wp2_with fail
        refine bodyPost_ret (v := .bool false) (by first | (simp [results, Tryd.results34, go_sem]; done) | simp [results, Tryd.results34, go_sem, *]) rfl ⟨by rw [HE.out], BB.out⟩
      | true =>
        by_cases hk0 : k = 0
        · have HK0 := Lib.hid hk0
          have gz : ¬ (0 : Int) < k := by omega
          have gz2 : decide (0 < k) = false := decide_eq_false (by omega)
          clear hk0
          refine wp_region_kin (by kernel_rfl) (by kernel_rfl) w3.heap.size 0 (by simp) (fun hk => ?_)
          repeat (go_big_quiet_step (first | (go_at_call 64; with_reducible exact Calls.kin (CF1.out _))))
          refine wpQuiet_nil ?_
          clear hk
          intro w4 hb
          replace RA := Lib.hid (RA.out.next hb)
          replace RG := Lib.hid (RG.out.next hb)
          replace RP := Lib.hid (RP.out.next hb)
          replace SL := Lib.hid (SL.out.next hb)
          replace BB := Lib.hid (Below.andThen BB.out hb)
          replace HZ2 := Lib.hid (Nat.le_trans HZ2.out hb.size)
          clear hb a0 a1 la p0 p1 p2 p3 p4 p5 p6 lP
          have a0 := RA.out.cell 0
          have a1 := RA.out.cell 1
          simp only [List.getElem?_cons_zero, List.getElem?_cons_succ] at a0 a1
          have la := RA.out.lt
          have p0 := RP.out.cell 0
          have p1 := RP.out.cell 1
          have p2 := RP.out.cell 2
          have p3 := RP.out.cell 3
          have p4 := RP.out.cell 4
          have p5 := RP.out.cell 5
          have p6 := RP.out.cell 6
          simp only [List.getElem?_cons_zero, List.getElem?_cons_succ] at p0 p1 p2 p3 p4 p5 p6
          have lP := RP.out.lt
          by_cases k1 : kind = 1
          · have K1 := Lib.hid k1
            have HOK := Lib.hid (HNx.out (HO1.out (by trivial) (fun h => by have := HK0.out; omega) k1))
            have hk1 : decide (kind = 1) = true := decide_eq_true k1
            have HRW := Lib.hid (show mkB (fun j => rev (l.take k) j) N = mkB (fun j => rev (l.take (k + 1)) j) N from mkB_ext fun j => by rw [HRV.out j, decide_eq_false (fun h => by have := K1.out; omega)]; simp)
            go_wp2_with fail
            go_roundw
            case rel => exact ⟨k + 1, by go_num, by omega, RA.out, by rw [← HRW.out]; exact RG.out, HOK.out, SL.out, BB.out, HZ2.out⟩
            case measure => simp [intOf]; omega
          · obtain ⟨hk2, ho1, ho2⟩ : kind = 2 ∧ 0 ≤ of ∧ of < 200 := by rcases HK.out (by trivial) with h | h <;> omega
            have HK2 := Lib.hid hk2
            obtain ⟨j, rfl⟩ : ∃ j : Nat, of = j := ⟨of.toNat, by omega⟩
            simp only [Int.toNat_natCast] at HTB
            clear hk2
            by_cases hj : j < k
            · exact absurd hj (by omega)
            · have hnj : (k : Int) ≤ j := by omega
              have HE := Lib.hid (show F = false from HN2.out HK2.out (fun h => by have := (HTB.out.1 h).1; omega))
              go_wp2_with fail
              refine bodyPost_ret (v := .bool false) (by first | (simp [results, Tryd.results34, go_sem]; done) | simp [results, Tryd.results34, go_sem, *]) rfl ⟨by rw [HE.out], BB.out⟩
        · obtain ⟨m, rfl⟩ : ∃ m, k = m + 1 := ⟨k - 1, by omega⟩
          have HPM := Lib.hid (HPR.out m rfl)
          have gz : (0 : Int) < ((m + 1 : Nat) : Int) := by omega
          have e1 : ((m + 1 : Nat) : Int) - 1 = m := by omega
          obtain ⟨lm, m0, m1, m2, m3, m4, m5, m6⟩ := HAT.out m _ SL.out (by omega)
          have HND1 := Lib.hid (HND.out m rfl)
          rw [HPM.out] at HO1 HO2
          obtain ⟨dm, hdm⟩ : ∃ d, (at' l m).day = d := ⟨_, rfl⟩
          rw [hdm] at m1 HND1 HO1 HO2
          clear hdm HND HPM HPR m0 m2 m3 m4 m5 m6
          by_cases hday : dm ≤ day
          · have HDY := Lib.hid hday
            have gd : decide (day < dm) = false := decide_eq_false (by omega)
            clear hday
            refine wp_region_kin (by kernel_rfl) (by kernel_rfl) w3.heap.size 0 (by simp) (fun hk => ?_)
            repeat (go_big_quiet_step (first | (go_at_call 64; with_reducible exact Calls.kin (CF1.out _))))
            refine wpQuiet_nil ?_
            clear hk
            intro w4 hb
            replace RA := Lib.hid (RA.out.next hb)
            replace RG := Lib.hid (RG.out.next hb)
            replace RP := Lib.hid (RP.out.next hb)
            replace SL := Lib.hid (SL.out.next hb)
            replace BB := Lib.hid (Below.andThen BB.out hb)
            replace HZ2 := Lib.hid (Nat.le_trans HZ2.out hb.size)
            clear hb m1 lm a0 a1 la p0 p1 p2 p3 p4 p5 p6 lP
            have a0 := RA.out.cell 0
            have a1 := RA.out.cell 1
            simp only [List.getElem?_cons_zero, List.getElem?_cons_succ] at a0 a1
            have la := RA.out.lt
            have p0 := RP.out.cell 0
            have p1 := RP.out.cell 1
            have p2 := RP.out.cell 2
            have p3 := RP.out.cell 3
            have p4 := RP.out.cell 4
            have p5 := RP.out.cell 5
            have p6 := RP.out.cell 6
            simp only [List.getElem?_cons_zero, List.getElem?_cons_succ] at p0 p1 p2 p3 p4 p5 p6
            have lP := RP.out.lt
            by_cases k1 : kind = 1
            · have K1 := Lib.hid k1
              have HOK := Lib.hid (HNx.out (HO1.out (by trivial) (fun _ => HDY.out) k1))
              have hk1 : decide (kind = 1) = true := decide_eq_true k1
              have HRW := Lib.hid (show mkB (fun j => rev (l.take (m + 1)) j) N = mkB (fun j => rev (l.take (m + 1 + 1)) j) N from mkB_ext fun j => by rw [HRV.out j, decide_eq_false (fun h => by have := K1.out; omega)]; simp)
              go_wp2_with fail
              go_roundw
              case rel => exact ⟨m + 1 + 1, by go_num, by omega, RA.out, by rw [← HRW.out]; exact RG.out, HOK.out, SL.out, BB.out, HZ2.out⟩
              case measure => simp [intOf]; omega
            · obtain ⟨hk2, ho1, ho2⟩ : kind = 2 ∧ 0 ≤ of ∧ of < 200 := by rcases HK.out (by trivial) with h | h <;> omega
              have HK2 := Lib.hid hk2
              obtain ⟨j, rfl⟩ : ∃ j : Nat, of = j := ⟨of.toNat, by omega⟩
              simp only [Int.toNat_natCast] at HTB
              clear hk2
              by_cases hj : j < m + 1
              · have g0 := RG.out.cell j
                rw [mkB_at _ (by omega : j < N)] at g0
                have lg := RG.out.lt
                obtain ⟨lq, d0, d1, d2, d3, d4, d5, d6⟩ := HAT.out j _ SL.out (by omega)
                obtain ⟨r, hr⟩ : ∃ r, rev (l.take (m + 1)) (j : Int) = r := ⟨_, rfl⟩
                rw [hr] at g0 HTB
                have HR := Lib.hid hr
                clear hr
                cases r with
                | true =>
                  have HE := Lib.hid (show F = false from HN2.out HK2.out (fun h => by have := (HTB.out.1 h).2.2.1; cases this))
                  go_wp2_with fail
                  refine bodyPost_ret (v := .bool false) (by first | (simp [results, Tryd.results34, go_sem]; done) | simp [results, Tryd.results34, go_sem, *]) rfl ⟨by rw [HE.out], BB.out⟩
                | false =>
                  generalize at' l j = q at *
                  obtain ⟨kind', day', deb', cre', amt', sub', of'⟩ := q
                  dsimp only at *
                  go_upto_region 14 with (fail)
                  refine wp_named fun w5 hq => ?_
                  obtain ⟨bq, eq⟩ : ∃ b, b = w4.heap.size := ⟨_, rfl⟩
                  have RQ := Lib.hid (show Row w5 bq 27 [.int .i64 kind', .int .i64 day', .int .i64 deb', .int .i64 cre', .int .i64 amt', .int .i64 sub', .int .i64 of'] from by rw [hq, eq]; exact Row.new w4 _ _)
                  have hB : Below w4.heap.size w4 w5 := by rw [hq]; (repeat' first | exact Below.refl _ _ | assumption | (refine below_drewN ?_ _) | (refine Below.drew ?_) | (refine Below.alloc ?_ ?_ _) | (refine Below.setCell ?_ ?_ _) | (simp; done) | (simp; omega) | omega)
                  replace RA := Lib.hid (RA.out.next hB)
                  replace RG := Lib.hid (RG.out.next hB)
                  replace RP := Lib.hid (RP.out.next hB)
                  replace SL := Lib.hid (SL.out.next hB)
                  replace BB := Lib.hid (Below.andThen BB.out hB)
                  replace HZ2 := Lib.hid (Nat.le_trans HZ2.out hB.size)
                  rw [← eq]
                  clear hq eq hB a0 a1 la p0 p1 p2 p3 p4 p5 p6 lP g0 lg d0 d1 d2 d3 d4 d5 d6 lq
                  have a0 := RA.out.cell 0
                  have a1 := RA.out.cell 1
                  simp only [List.getElem?_cons_zero, List.getElem?_cons_succ] at a0 a1
                  have la := RA.out.lt
                  have p0 := RP.out.cell 0
                  have p1 := RP.out.cell 1
                  have p2 := RP.out.cell 2
                  have p3 := RP.out.cell 3
                  have p4 := RP.out.cell 4
                  have p5 := RP.out.cell 5
                  have p6 := RP.out.cell 6
                  simp only [List.getElem?_cons_zero, List.getElem?_cons_succ] at p0 p1 p2 p3 p4 p5 p6
                  have lP := RP.out.lt
                  have q0 := RQ.out.cell 0
                  have q1 := RQ.out.cell 1
                  have q2 := RQ.out.cell 2
                  have q3 := RQ.out.cell 3
                  have q4 := RQ.out.cell 4
                  have q5 := RQ.out.cell 5
                  have q6 := RQ.out.cell 6
                  simp only [List.getElem?_cons_zero, List.getElem?_cons_succ] at q0 q1 q2 q3 q4 q5 q6
                  have lQ := RQ.out.lt
                  by_cases e0 : kind' = 1
                  · have E0 := Lib.hid e0
                    have g0 : decide (kind' = 1) = true := decide_eq_true e0
                    clear e0
                    by_cases e1 : deb = cre'
                    · have E1 := Lib.hid e1
                      have g1 : decide (deb = cre') = true := decide_eq_true e1
                      clear e1
                      by_cases e2 : cre = deb'
                      · have E2 := Lib.hid e2
                        have g2 : decide (cre = deb') = true := decide_eq_true e2
                        clear e2
                        by_cases e3 : amt = amt'
                        · have E3 := Lib.hid e3
                          have g3 : decide (amt = amt') = true := decide_eq_true e3
                          clear e3
                          by_cases e4 : sub = sub'
                          · have E4 := Lib.hid e4
                            obtain rfl := e4
                            have HTT := Lib.hid (HTB.out.2 ⟨by omega, E0.out, rfl, E4.out.symm, E1.out, E2.out, E3.out⟩)
                            have HOK := Lib.hid (HNx.out (HO2.out (by trivial) (fun _ => HDY.out) HTT.out))
                            have HRW := Lib.hid (show (mkB (fun j => rev (l.take (m + 1)) j) N).set j (.bool true) = mkB (fun j => rev (l.take (m + 1 + 1)) j) N from by
                              rw [mkB_set]
                              refine mkB_ext fun i => ?_
                              rw [HRV.out i]
                              by_cases e : i = j
                              · subst e
                                rw [if_pos rfl, decide_eq_true ⟨HK2.out, rfl⟩]
                                simp
                              · rw [if_neg e, decide_eq_false (fun h => e (by have := h.2; omega))]
                                simp)
                            have g0 := RG.out.cell j
                            rw [mkB_at _ (by omega : j < N)] at g0
                            have lg := RG.out.lt
                            have fg := RG.out.frozen j
                            go_wp2_with fail
                            have RGS := RG.out.set j (.bool true)
                            rw [HRW.out] at RGS
                            go_roundw
                            case rel => exact ⟨m + 1 + 1, by go_num, by omega, RA.out.other (by have := HEG.out; omega) _ _, RGS, HOK.out, sl_set SL.out SLW.out HEG.out.2.1 _, BB.out.setCell (p := ⟨g, j, none⟩) HEG.out.2.1 _, by simpa using HZ2.out⟩
                            case measure => simp [intOf]; omega
                          · have E4 := Lib.hid e4
                            have g4 : decide (sub = sub') = false := decide_eq_false e4
                            have HE := Lib.hid (show F = false from HN2.out HK2.out (fun h => E4.out (HTB.out.1 h).2.2.2.1.symm))
                            go_wp2_with fail
                            refine bodyPost_ret (v := .bool false) (by first | (simp [results, Tryd.results34, go_sem]; done) | simp [results, Tryd.results34, go_sem, *]) rfl ⟨by rw [HE.out], BB.out⟩
                        · have E3 := Lib.hid e3
                          have g3 : decide (amt = amt') = false := decide_eq_false e3
                          have HE := Lib.hid (show F = false from HN2.out HK2.out (fun h => E3.out (HTB.out.1 h).2.2.2.2.2.2))
                          go_wp2_with fail
                          refine bodyPost_ret (v := .bool false) (by first | (simp [results, Tryd.results34, go_sem]; done) | simp [results, Tryd.results34, go_sem, *]) rfl ⟨by rw [HE.out], BB.out⟩
                      · have E2 := Lib.hid e2
                        have g2 : decide (cre = deb') = false := decide_eq_false e2
                        have HE := Lib.hid (show F = false from HN2.out HK2.out (fun h => E2.out (HTB.out.1 h).2.2.2.2.2.1))
                        go_wp2_with fail
                        refine bodyPost_ret (v := .bool false) (by first | (simp [results, Tryd.results34, go_sem]; done) | simp [results, Tryd.results34, go_sem, *]) rfl ⟨by rw [HE.out], BB.out⟩
                    · have E1 := Lib.hid e1
                      have g1 : decide (deb = cre') = false := decide_eq_false e1
                      have HE := Lib.hid (show F = false from HN2.out HK2.out (fun h => E1.out (HTB.out.1 h).2.2.2.2.1))
                      go_wp2_with fail
                      refine bodyPost_ret (v := .bool false) (by first | (simp [results, Tryd.results34, go_sem]; done) | simp [results, Tryd.results34, go_sem, *]) rfl ⟨by rw [HE.out], BB.out⟩
                  · have E0 := Lib.hid e0
                    have g0 : decide (kind' = 1) = false := decide_eq_false e0
                    have HE := Lib.hid (show F = false from HN2.out HK2.out (fun h => E0.out (HTB.out.1 h).2.1))
                    go_wp2_with fail
                    refine bodyPost_ret (v := .bool false) (by first | (simp [results, Tryd.results34, go_sem]; done) | simp [results, Tryd.results34, go_sem, *]) rfl ⟨by rw [HE.out], BB.out⟩
              · have hnj : ((m + 1 : Nat) : Int) ≤ j := by omega
                have HE := Lib.hid (show F = false from HN2.out HK2.out (fun h => by have := (HTB.out.1 h).1; omega))
                go_wp2_with fail
                refine bodyPost_ret (v := .bool false) (by first | (simp [results, Tryd.results34, go_sem]; done) | simp [results, Tryd.results34, go_sem, *]) rfl ⟨by rw [HE.out], BB.out⟩
          · have HDY := Lib.hid hday
            have gd : decide (day < dm) = true := decide_eq_true (by omega)
            clear hday
            refine wp_region_kin (by kernel_rfl) (by kernel_rfl) w3.heap.size 0 (by simp) (fun hk => ?_)
            repeat (go_big_quiet_step (first | (go_at_call 64; with_reducible exact Calls.kin (CF1.out _))))
            refine wpQuiet_nil ?_
            clear hk
            intro w4 hb
            replace RA := Lib.hid (RA.out.next hb)
            replace RG := Lib.hid (RG.out.next hb)
            replace RP := Lib.hid (RP.out.next hb)
            replace SL := Lib.hid (SL.out.next hb)
            replace BB := Lib.hid (Below.andThen BB.out hb)
            replace HZ2 := Lib.hid (Nat.le_trans HZ2.out hb.size)
            clear hb m1 lm a0 a1 la p0 p1 p2 p3 p4 p5 p6 lP
            have HE := Lib.hid (show F = false from HND1.out HDY.out)
            go_wp2_with fail
            refine bodyPost_ret (v := .bool false) (by first | (simp [results, Tryd.results34, go_sem]; done) | simp [results, Tryd.results34, go_sem, *]) rfl ⟨by rw [HE.out], BB.out⟩
    · obtain rfl : k = N := by omega
      have HE := Lib.hid (show F = true from HEnd.out HA.out)
      go_wp2_with fail
      refine bodyPost_ret (v := .bool true) (by first | (simp [results, Tryd.results34, go_sem]; done) | simp [results, Tryd.results34, go_sem, *]) rfl ⟨by rw [HE.out], BB.out⟩
theorem rValid_any (acc cl : Int) (o : Option Addr) (N c : Nat) (l : List Po) (w : World) (hl : l.length = N) (hS : Sl poE w o l) :
    Calls Tryd.prog 34 #[bookV acc o N c cl] w fun e w' => e = .returned (.bool (vd acc l cl)) ∧ Below w.heap.size w w' := by
  by_cases h : BaseP acc N cl
  · exact rvalid_ok acc cl o N c l w hl h hS
  · rw [vd_no (fun h2 => h (by have := h2.1; rwa [hl] at this))]
    exact rvalid_base acc cl o N c w h
end Bk
end Go.Proofs.YtnhlhoijajhcjaaDoor
