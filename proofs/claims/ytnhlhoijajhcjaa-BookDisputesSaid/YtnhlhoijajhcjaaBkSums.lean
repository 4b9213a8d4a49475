/- BookSums: the balances add up. -/
import Derived.Test.YtnhlhoijajhcjaaBkX
set_option linter.unusedVariables false
set_option linter.unusedSimpArgs false
namespace Go.Proofs.Ytnhlhoijajhcjaa
open Go.RowKit
namespace Bk
open Sq
theorem zero_ints {w : World} {g A : Nat} (h : Row w g 3 (rowI (fun _ => 0) A)) (hA : A ≤ 1000) :
    Calls Try.prog 23 #[.slice (some ⟨g, 0, none⟩) A A, .slice (some ⟨w.heap.size, 0, none⟩) A A] (w.alloc (.cells (List.replicate A (Value.int .i64 0)).toArray 3)) fun e w' => e = .returned (.bool true) ∧ Below w.heap.size w w' := by
  have hb : Below w.heap.size w (w.alloc (.cells (List.replicate A (Value.int .i64 0)).toArray 3)) := (Below.refl _ _).alloc (Nat.le_refl _) _
  have s1 : Sl intE w (some ⟨g, 0, none⟩) ((List.range A).map fun _ => (0 : Int)) := row_sl (by rw [rowI_flat]; exact h)
  have s2 : Sl intE (w.alloc (.cells (List.replicate A (Value.int .i64 0)).toArray 3)) (some ⟨w.heap.size, 0, none⟩) ((List.range A).map fun _ => (0 : Int)) := row_sl (t := 3) (by rw [rowI_flat, ← rowI_zero]; exact Row.new w _ _)
  have q := rInts_any (some ⟨g, 0, none⟩) A A (some ⟨w.heap.size, 0, none⟩) A A _ _ _ (by simp) (by simp) (by omega) (Nat.le_refl _) (Nat.le_refl _) (s1.next hb) s2
  rw [decide_eq_true rfl] at q
  exact q.mono fun _ _ hh => ⟨hh.1, Below.andThen hb hh.2⟩
/-- the sums of k lists, at t -/
def cum (f : Nat → Nat → Int) (k : Nat) (t : Nat) : Int := sumK (fun m => f m t) k
theorem cum_bd {f : Nat → Nat → Int} (h : ∀ m t, -1000000000000 ≤ f m t ∧ f m t ≤ 1000000000000) (k : Nat) (t : Nat) : -(1000000000000 * (k : Int)) ≤ cum f k t ∧ cum f k t ≤ 1000000000000 * (k : Int) := sumK_bd fun m _ => h m t
/-- .. with the first u of the next -/
def cumU (f : Nat → Nat → Int) (k u : Nat) (t : Nat) : Int := cum f k t + if t < u then f k t else 0
theorem cumU_zero (f : Nat → Nat → Int) (k A : Nat) : rowI (cumU f k 0) A = rowI (cum f k) A := rowI_ext fun t _ => by unfold cumU; rw [if_neg (Nat.not_lt_zero _)]; omega
theorem cumU_all (f : Nat → Nat → Int) (k A : Nat) : rowI (cumU f k A) A = rowI (cum f (k + 1)) A := rowI_ext fun t ht => by unfold cumU; rw [if_pos ht]; rfl
theorem cumU_next (f : Nat → Nat → Int) (k u A : Nat) : (rowI (cumU f k u) A).set u (.int .i64 (cum f k u + f k u)) = rowI (cumU f k (u + 1)) A := by
  rw [rowI_set]
  refine rowI_ext fun t _ => ?_
  unfold cumU
  by_cases e : t = u
  · subst e
    rw [if_pos rfl, if_pos (Nat.lt_succ_self _)]
  · rw [if_neg e]
    by_cases h1 : t < u
    · rw [if_pos h1, if_pos (by omega)]
    · rw [if_neg h1, if_neg (by omega)]
theorem cumU_at (f : Nat → Nat → Int) (k u : Nat) : cumU f k u u = cum f k u := by unfold cumU; rw [if_neg (Nat.lt_irrefl _)]; omega
/-- what the first i postings leave of it -/
def leftT (l : List Po) (i t : Nat) : Int := allT l t - sumK (fun k => eff (at' l k) t) i
theorem leftT_next (l : List Po) (i t : Nat) : leftT l (i + 1) t = leftT l i t - eff (at' l i) t := by unfold leftT; rw [sumK]; omega
theorem leftT_zero (l : List Po) (t : Nat) : leftT l 0 t = allT l t := by unfold leftT; rw [sumK]; omega
theorem leftT_all (l : List Po) (t : Nat) : leftT l l.length t = 0 := by unfold leftT allT; omega
theorem leftT_bd {acc : Int} {l : List Po} (hf : ∀ k, k < l.length → FmP acc (at' l k)) (hl : l.length ≤ 48) {i : Nat} (hi : i ≤ l.length) (t : Nat) : -1000000000000000 ≤ leftT l i t ∧ leftT l i t ≤ 1000000000000000 := by
  have h1 := sumK_bd (f := fun k => eff (at' l k) t) (n := l.length) (fun k hk => by have := eff_bd (hf k hk) t; omega)
  have h2 := sumK_bd (f := fun k => eff (at' l k) t) (n := i) (fun k hk => by have := eff_bd (hf k (by omega)) t; omega)
  unfold leftT allT
  omega
set_option maxRecDepth 100000 in
set_option maxHeartbeats 16000000 in
theorem sums_walk (na : Int) (ol : Option Addr) (n cap : Nat) (L : List F5) (w : World) (hna : inI na) (hV : Fv w ol n L) : Calls Try.prog 4 #[.int .i64 na, .slice ol n cap] w fun e w' => e = .returned (.bool true) ∧ Below w.heap.size w w' := by
  have BB := Lib.hid (Below.refl w.heap.size w)
  have HV := Lib.hid hV
  have CM := Lib.hid (fun W (h : Fv W ol n L) => rMade_any na ol n cap L W hna h.1 h.2.1 h.2.2.1 h.2.2.2)
  clear hV hna
  obtain ⟨i0, hi, hz0, hz1, hz2⟩ := info_parts infoIntR
  go_enter Try.func4, Try.ntmps4
  go_wp2_with fail
  with_reducible refine Calls.mono (sane_any _) ?_
  rintro e w1 ⟨rfl, hb⟩
  replace HV := Lib.hid (HV.out.next hb)
  replace BB := Lib.hid (Below.andThen BB.out hb)
  clear hb
  go_wp2_with fail
  with_reducible refine Calls.mono (CM.out _ HV.out) ?_
  rintro e w2 ⟨⟨acc, l, cl⟩, o, N, c, rfl, hw, hG, hb⟩
  dsimp only at hw
  have hacc := hG.acc
  have HLen := Lib.hid hG.2.2.1
  have HSub := Lib.hid hG.2.2.2
  have hvd := hG.2.1
  have hav := hG.1
  dsimp only at hvd hav
  rw [← hav] at hacc
  clear hav hG
  obtain ⟨A, rfl⟩ : ∃ A : Nat, acc = A := ⟨acc.toNat, by omega⟩
  have HVd := Lib.hid hvd
  have hA12 : A ≤ 12 := by omega
  have hA2 : 2 ≤ A := by omega
  have BW := Lib.hid hw
  replace HV := Lib.hid (HV.out.next hb)
  replace BB := Lib.hid (Below.andThen BB.out hb)
  clear hb hw hvd hacc CM
  go_upto_region 3 with (fail)
  refine wp_named fun w3 hq => ?_
  obtain ⟨bB, eB⟩ : ∃ b, b = w2.heap.size := ⟨_, rfl⟩
  have RB := Lib.hid (show Row w3 bB 24 [.int .i64 A, .slice o N c, .int .i64 cl] from by rw [hq, eB]; exact Row.new w2 _ _)
  have hB : Below w2.heap.size w2 w3 := by rw [hq]; (repeat' first | exact Below.refl _ _ | assumption | (refine below_drewN ?_ _) | (refine Below.drew ?_) | (refine Below.alloc ?_ ?_ _) | (refine Below.setCell ?_ ?_ _) | (simp; done) | (simp; omega) | omega)
  have hbB : w.heap.size ≤ bB := by rw [eB]; exact BB.out.size
  replace HV := Lib.hid (HV.out.next hB)
  replace BW := Lib.hid (BW.out.next hB)
  replace BB := Lib.hid (Below.andThen BB.out hB)
  rw [← eB]
  clear hq hB eB
  have a0 := RB.out.cell 0
  have a1 := RB.out.cell 1
  have a2 := RB.out.cell 2
  have la := RB.out.lt
  simp only [List.getElem?_cons_zero, List.getElem?_cons_succ] at a0 a1 a2
  have hmk := run_make_row (P := Try.prog) w3 37 3 i0 _ 8 Try.underlying37 hi hz0 hz1 hz2 rfl A (by omega) (by omega)
  go_upto_region 4 with (fail)
  refine wp_named fun w4 hq => ?_
  obtain ⟨g1, eg⟩ : ∃ b, b = w3.heap.size := ⟨_, rfl⟩
  have RGg1 := Lib.hid (show Row w4 g1 3 (rowI (fun _ => 0) A) from by
    rw [hq, eg, ← rowI_zero]
    have := Row.new w3 3 (List.replicate A (Value.int .i64 0))
    simpa using this)
  have hB : Below w3.heap.size w3 w4 := by rw [hq]; (repeat' first | exact Below.refl _ _ | assumption | (refine below_drewN ?_ _) | (refine Below.drew ?_) | (refine Below.alloc ?_ ?_ _) | (refine Below.setCell ?_ ?_ _) | (simp; done) | (simp; omega) | omega)
  have BW0 := BW
  have HW3 := Lib.hid (show w3.heap.size ≤ g1 ∧ bB < g1 ∧ w.heap.size ≤ g1 ∧ g1 < w4.heap.size from ⟨by omega, by rw [eg]; exact la, by rw [eg]; exact BB.out.size, RGg1.out.lt⟩)
  replace BW := Lib.hid (BW.out.next hB)
  replace RB := Lib.hid (RB.out.next hB)
  replace BB := Lib.hid (Below.andThen BB.out hB)
  rw [← eg]
  clear hq eg hB hmk HV
  clear a0 a1 a2 la
  have nBG : bB ≠ g1 := by have := HW3.out; omega
  have hg1 : w.heap.size ≤ g1 := HW3.out.2.2.1
  have ng1 := nBG
  replace RGg1 := Lib.hid (show Row w4 g1 3 (rowI (cum (fun (m t : Nat) => Bk.sT l (m : Int) t) 0) A) from RGg1.out)
  have HF := Lib.hid (show ∀ (m t : Nat), -1000000000000 ≤ Bk.sT l (m : Int) t ∧ Bk.sT l (m : Int) t ≤ 1000000000000 from fun m t => HVd.out.sT m t)
  obtain ⟨f, hf⟩ : ∃ f : Nat → Nat → Int, f = fun (m t : Nat) => Bk.sT l (m : Int) t := ⟨_, rfl⟩
  have HFE := Lib.hid hf
  replace RGg1 := Lib.hid (show Row w4 g1 3 (rowI (cum f 0) A) from by rw [hf]; exact RGg1.out)
  replace HF := Lib.hid (show ∀ m t, -1000000000000 ≤ f m t ∧ f m t ≤ 1000000000000 from by rw [hf]; exact HF.out)
  have CS := Lib.hid (fun (k : Nat) (hk : k < 12) W (h : BkW W o N c l) => (show Calls Try.prog 19 #[bookV A o N c cl, .int .i64 k] W fun e w' => (∃ o' c', e = .returned (.tuple #[.slice o' A c', .int .i64 0]) ∧ InW w' W.heap.size o' A c' ((List.range A).map (f k))) ∧ Below W.heap.size W w' from by rw [hf]; exact stmt_at k hk HVd.out h))
  have HZ := Lib.hid (show ∀ k : Nat, sumK (f k) A = 0 from fun k => by rw [hf]; exact stmt_zero rfl (fun k hk => (HVd.out.2 k hk).1) (k : Int))
  have CB := Lib.hid (fun (t k : Nat) (ht : t < A) (hk : k < 12) W (h : BkW W o N c l) => (show Calls Try.prog 21 #[bookV A o N c cl, .int .i64 t, .int .i64 k] W fun e w' => e = .returned (.tuple #[.int .i64 (f k t), .int .i64 0]) ∧ Below W.heap.size W w' from by rw [hf]; exact bal_at t k ht hk HVd.out h))
  clear hf
  go_wp2_with fail
  go_loopw [8] (fun mv wr => ∃ k : Nat, mv = .int .i64 k ∧ k ≤ 12 ∧ Row wr g1 3 (rowI (cum f k) A) ∧ Ex (fun j => j = g1) w4 wr ∧ Below w.heap.size w wr) (fun mv _ => 12 - (intOf mv).toNat)
  case atStart => exact ⟨0, rfl, Nat.zero_le _, RGg1.out, Ex.refl _ _, BB.out⟩
  case round =>
    obtain ⟨k, rfl, hk, hRG, hx, hB⟩ := hrel
    rename World => wr
    replace RB := Lib.hid (row_ex RB.out hx ng1)
    replace BW := Lib.hid (BW.out.ex BW0.out (n := g1) HW3.out.1 (fun j h e => by omega) hx)
    replace RGg1 := Lib.hid hRG
    replace BB := Lib.hid hB
    have HX := Lib.hid hx
    clear hRG hx hB
    by_cases hlt : k < 12
    · have a0 := RB.out.cell 0
      have a1 := RB.out.cell 1
      have a2 := RB.out.cell 2
      have la := RB.out.lt
      simp only [List.getElem?_cons_zero, List.getElem?_cons_succ] at a0 a1 a2
      go_wp2_with fail
      with_reducible refine Calls.mono (CS.out k hlt _ BW.out) ?_
      rintro e w6 ⟨⟨os, cs, rfl, hs⟩, hb⟩
      have S1 := Lib.hid hs
      have HGL := Lib.hid (show g1 < wr.heap.size from RGg1.out.lt)
      replace RB := Lib.hid (RB.out.next hb)
      replace BW := Lib.hid (BW.out.next hb)
      replace RGg1 := Lib.hid (RGg1.out.next hb)
      replace HX := Lib.hid (HX.out.below hb)
      replace BB := Lib.hid (Below.andThen BB.out hb)
      clear hs hb
      clear a0 a1 a2 la
      have a0 := RB.out.cell 0
      have a1 := RB.out.cell 1
      have a2 := RB.out.cell 2
      have la := RB.out.lt
      simp only [List.getElem?_cons_zero, List.getElem?_cons_succ] at a0 a1 a2
      go_wp2_with fail
      go_loopw [11, 12] (fun sv tv wx => ∃ t : Nat, tv = .int .i64 t ∧ t ≤ A ∧ sv = .int .i64 (sumK (f k) t) ∧ Row wx g1 3 (rowI (cumU f k t) A) ∧ Ex (fun j => j = g1) w6 wx ∧ Below w.heap.size w wx) (fun _ tv _ => A - (intOf tv).toNat)
      case atStart => exact ⟨0, rfl, Nat.zero_le _, rfl, by rw [cumU_zero]; exact RGg1.out, Ex.refl _ _, BB.out⟩
      case round =>
        obtain ⟨t, rfl, ht, rfl, hRG, hx, hB⟩ := hrel
        rename World => wx
        clear a0 a1 a2 la
        replace RB := Lib.hid (row_ex RB.out hx ng1)
        replace BW := Lib.hid (BW.out.ex BW0.out (n := g1) HW3.out.1 (fun j h e => by omega) hx)
        replace S1 := Lib.hid (S1.out.ex (fun j h e => by have := HGL.out; omega) hx)
        replace RGg1 := Lib.hid hRG
        replace BB := Lib.hid hB
        have HX2 := Lib.hid hx
        clear hRG hx hB
        have a0 := RB.out.cell 0
        have a1 := RB.out.cell 1
        have a2 := RB.out.cell 2
        have la := RB.out.lt
        simp only [List.getElem?_cons_zero, List.getElem?_cons_succ] at a0 a1 a2
        by_cases hta : t < A
        · have hvb := HF.out k t
          have hsb := sumK_bd (f := f k) (n := t) (fun j _ => HF.out k j)
          have hub := cum_bd HF.out k t
          go_wp2_with fail
          with_reducible refine Calls.mono (CB.out t k hta hlt _ BW.out) ?_
          rintro e w8 ⟨rfl, hb⟩
          replace RB := Lib.hid (RB.out.next hb)
          replace BW := Lib.hid (BW.out.next hb)
          replace S1 := Lib.hid (S1.out.next hb)
          replace RGg1 := Lib.hid (RGg1.out.next hb)
          replace HX2 := Lib.hid (HX2.out.below hb)
          replace BB := Lib.hid (Below.andThen BB.out hb)
          clear hb
          obtain ⟨bs, eos, lbs, -, zs, -⟩ := S1.out.at (map_at (f k) hta)
          subst eos
          have HN := Lib.hid (cumU_next f k t A)
          have HSN := Lib.hid (show sumK (f k) (t + 1) = sumK (f k) t + f k t from rfl)
          have i1 : (0 : Int) ≤ t := by omega
          have i2 : (t : Int) < A := by omega
          have zg := RGg1.out.cell t
          rw [rowI_at _ hta, cumU_at] at zg
          have lg := RGg1.out.lt
          generalize f k t = v at *
          generalize sumK (f k) t = s at *
          generalize cum f k t = u at *
          go_upto_region 18 with (fail)
          refine wp_region_kin_tail 12 (by kernel_rfl) (by kernel_rfl) w8.heap.size 0 (by simp) (fun hk => ?_)
          simp only [List.take_succ_cons, List.take_zero, List.drop_succ_cons, List.drop_zero]
          repeat (go_big_quiet_step (fail))
          refine wpQuiet_nil ?_
          clear hk zs zg lg lbs
          clear a0 a1 a2 la
          intro W9 hb
          replace RGg1 := Lib.hid (RGg1.out.next hb)
          replace HX2 := Lib.hid (HX2.out.below hb)
          replace BB := Lib.hid (Below.andThen BB.out hb)
          clear hb
          have zg := RGg1.out.cell t
          rw [rowI_at _ hta, cumU_at] at zg
          have lg := RGg1.out.lt
          have fg := RGg1.out.frozen t
          go_wp2_with fail
          go_roundw
          case rel => exact ⟨t + 1, by go_num, by omega, by rw [HSN.out], by rw [← HN.out]; exact RGg1.out.set t _, HX2.out.set rfl _ _, BB.out.setCell (p := ⟨g1, t, none⟩) hg1 _⟩
          case measure => first | (simp [intOf]; done) | (simp [intOf]; omega)
        · obtain rfl : t = A := by omega
          rw [HZ.out k]
          go_wp2_with fail
          go_roundw
          case rel => exact ⟨k + 1, by go_num, by omega, by rw [← cumU_all]; exact RGg1.out, HX.out.trans HX2.out, BB.out⟩
          case measure => first | (simp [intOf]; done) | (simp [intOf]; omega)
    · obtain rfl : k = 12 := by omega
      rw [show ((12 : Nat) : Int) = 12 from rfl]
      replace RGg1 := Lib.hid (show Row wr g1 3 (rowI (leftT l 0) A) from by
        have h := RGg1.out
        rw [rowI_ext (g := cum f 12) (h := leftT l 0) (fun t _ => by
          rw [leftT_zero, ← stmt_all (fun k hk => (HVd.out.2 k hk).1) t, HFE.out]
          rfl)] at h
        exact h)
      clear HF CS CB HZ HX HFE
      have a0 := RB.out.cell 0
      have a1 := RB.out.cell 1
      have a2 := RB.out.cell 2
      have la := RB.out.lt
      simp only [List.getElem?_cons_zero, List.getElem?_cons_succ] at a0 a1 a2
      have hmk := run_make_row (P := Try.prog) wr 37 3 i0 _ 8 Try.underlying37 hi hz0 hz1 hz2 rfl A (by omega) (by omega)
      go_upto_region 22 with (fail)
      refine wp_named fun w10 hq => ?_
      obtain ⟨g2, eg⟩ : ∃ b, b = wr.heap.size := ⟨_, rfl⟩
      have RGg2 := Lib.hid (show Row w10 g2 3 (rowI (fun _ => 0) A) from by
        rw [hq, eg, ← rowI_zero]
        have := Row.new wr 3 (List.replicate A (Value.int .i64 0))
        simpa using this)
      have hB : Below wr.heap.size wr w10 := by rw [hq]; (repeat' first | exact Below.refl _ _ | assumption | (refine below_drewN ?_ _) | (refine Below.drew ?_) | (refine Below.alloc ?_ ?_ _) | (refine Below.setCell ?_ ?_ _) | (simp; done) | (simp; omega) | omega)
      have HW10 := Lib.hid (show w3.heap.size ≤ g2 ∧ bB < g2 ∧ w.heap.size ≤ g2 ∧ g1 < g2 from ⟨by have := HW3.out.1; have := RGg1.out.lt; omega, by rw [eg]; exact la, by rw [eg]; exact BB.out.size, by rw [eg]; exact RGg1.out.lt⟩)
      replace BW := Lib.hid (BW.out.next hB)
      replace RB := Lib.hid (RB.out.next hB)
      replace RGg1 := Lib.hid (RGg1.out.next hB)
      replace BB := Lib.hid (Below.andThen BB.out hB)
      rw [← eg]
      clear hq eg hB hmk hi hz0 hz1 hz2 i0
      clear a0 a1 a2 la
      have ng2 : bB ≠ g2 := by have := HW10.out; omega
      have hg2 : w.heap.size ≤ g2 := HW10.out.2.2.1
      have n12 : g1 ≠ g2 := by have := HW10.out; omega
      replace RGg2 := Lib.hid (show Row w10 g2 3 (rowI (cum (fun (m t : Nat) => Bk.oT l (m : Int) t) 0) A) from RGg2.out)
      have HF := Lib.hid (show ∀ (m t : Nat), -1000000000000 ≤ Bk.oT l (m : Int) t ∧ Bk.oT l (m : Int) t ≤ 1000000000000 from fun m t => HVd.out.oT m t)
      obtain ⟨f, hf⟩ : ∃ f : Nat → Nat → Int, f = fun (m t : Nat) => Bk.oT l (m : Int) t := ⟨_, rfl⟩
      have HFE := Lib.hid hf
      replace RGg2 := Lib.hid (show Row w10 g2 3 (rowI (cum f 0) A) from by rw [hf]; exact RGg2.out)
      replace HF := Lib.hid (show ∀ m t, -1000000000000 ≤ f m t ∧ f m t ≤ 1000000000000 from by rw [hf]; exact HF.out)
      have CS := Lib.hid (fun (k : Nat) (hk : k < 6) W (h : BkW W o N c l) => (show Calls Try.prog 24 #[bookV A o N c cl, .int .i64 k] W fun e w' => (∃ o' c', e = .returned (.tuple #[.slice o' A c', .int .i64 0]) ∧ InW w' W.heap.size o' A c' ((List.range A).map (f k))) ∧ Below W.heap.size W w' from by rw [hf]; exact owed_at k hk HVd.out h))
      have HZ := Lib.hid (show ∀ k : Nat, sumK (f k) A = 0 from fun k => by rw [hf]; exact owed_zero rfl (fun k hk => (HVd.out.2 k hk).1) (k : Int))
      clear hf
      go_wp2_with fail
      go_loopw [16] (fun mv wr2 => ∃ k : Nat, mv = .int .i64 k ∧ k ≤ 6 ∧ Row wr2 g2 3 (rowI (cum f k) A) ∧ Ex (fun j => j = g2) w10 wr2 ∧ Below w.heap.size w wr2) (fun mv _ => 6 - (intOf mv).toNat)
      case atStart => exact ⟨0, rfl, Nat.zero_le _, RGg2.out, Ex.refl _ _, BB.out⟩
      case round =>
        obtain ⟨k, rfl, hk, hRG, hx, hB⟩ := hrel
        rename World => wr2
        replace RB := Lib.hid (row_ex RB.out hx ng2)
        replace BW := Lib.hid (BW.out.ex BW0.out (n := g2) HW10.out.1 (fun j h e => by omega) hx)
        replace RGg2 := Lib.hid hRG
        replace BB := Lib.hid hB
        replace RGg1 := Lib.hid (row_ex RGg1.out hx n12)
        have HX := Lib.hid hx
        clear hRG hx hB
        by_cases hlt : k < 6
        · have a0 := RB.out.cell 0
          have a1 := RB.out.cell 1
          have a2 := RB.out.cell 2
          have la := RB.out.lt
          simp only [List.getElem?_cons_zero, List.getElem?_cons_succ] at a0 a1 a2
          go_wp2_with fail
          with_reducible refine Calls.mono (CS.out k hlt _ BW.out) ?_
          rintro e w12 ⟨⟨os, cs, rfl, hs⟩, hb⟩
          have S1 := Lib.hid hs
          have HGL := Lib.hid (show g2 < wr2.heap.size from RGg2.out.lt)
          replace RB := Lib.hid (RB.out.next hb)
          replace BW := Lib.hid (BW.out.next hb)
          replace RGg2 := Lib.hid (RGg2.out.next hb)
          replace RGg1 := Lib.hid (RGg1.out.next hb)
          replace HX := Lib.hid (HX.out.below hb)
          replace BB := Lib.hid (Below.andThen BB.out hb)
          clear hs hb
          clear a0 a1 a2 la
          have a0 := RB.out.cell 0
          have a1 := RB.out.cell 1
          have a2 := RB.out.cell 2
          have la := RB.out.lt
          simp only [List.getElem?_cons_zero, List.getElem?_cons_succ] at a0 a1 a2
          go_wp2_with fail
          go_loopw [19, 20] (fun sv tv wx2 => ∃ t : Nat, tv = .int .i64 t ∧ t ≤ A ∧ sv = .int .i64 (sumK (f k) t) ∧ Row wx2 g2 3 (rowI (cumU f k t) A) ∧ Ex (fun j => j = g2) w12 wx2 ∧ Below w.heap.size w wx2) (fun _ tv _ => A - (intOf tv).toNat)
          case atStart => exact ⟨0, rfl, Nat.zero_le _, rfl, by rw [cumU_zero]; exact RGg2.out, Ex.refl _ _, BB.out⟩
          case round =>
            obtain ⟨t, rfl, ht, rfl, hRG, hx, hB⟩ := hrel
            rename World => wx2
            clear a0 a1 a2 la
            replace RB := Lib.hid (row_ex RB.out hx ng2)
            replace BW := Lib.hid (BW.out.ex BW0.out (n := g2) HW10.out.1 (fun j h e => by omega) hx)
            replace S1 := Lib.hid (S1.out.ex (fun j h e => by have := HGL.out; omega) hx)
            replace RGg2 := Lib.hid hRG
            replace BB := Lib.hid hB
            replace RGg1 := Lib.hid (row_ex RGg1.out hx n12)
            have HX2 := Lib.hid hx
            clear hRG hx hB
            have a0 := RB.out.cell 0
            have a1 := RB.out.cell 1
            have a2 := RB.out.cell 2
            have la := RB.out.lt
            simp only [List.getElem?_cons_zero, List.getElem?_cons_succ] at a0 a1 a2
            by_cases hta : t < A
            · have hvb := HF.out k t
              have hsb := sumK_bd (f := f k) (n := t) (fun j _ => HF.out k j)
              have hub := cum_bd HF.out k t
              obtain ⟨w8, e8⟩ : ∃ W, W = wx2 := ⟨_, rfl⟩
              subst e8
              obtain ⟨bs, eos, lbs, -, zs, -⟩ := S1.out.at (map_at (f k) hta)
              subst eos
              have HN := Lib.hid (cumU_next f k t A)
              have HSN := Lib.hid (show sumK (f k) (t + 1) = sumK (f k) t + f k t from rfl)
              have i1 : (0 : Int) ≤ t := by omega
              have i2 : (t : Int) < A := by omega
              have zg := RGg2.out.cell t
              rw [rowI_at _ hta, cumU_at] at zg
              have lg := RGg2.out.lt
              generalize f k t = v at *
              generalize sumK (f k) t = s at *
              generalize cum f k t = u at *
              go_upto_region 33 with (fail)
              refine wp_region_kin_tail 12 (by kernel_rfl) (by kernel_rfl) w8.heap.size 0 (by simp) (fun hk => ?_)
              simp only [List.take_succ_cons, List.take_zero, List.drop_succ_cons, List.drop_zero]
              repeat (go_big_quiet_step (fail))
              refine wpQuiet_nil ?_
              clear hk zs zg lg lbs
              clear a0 a1 a2 la
              intro W9 hb
              replace RGg2 := Lib.hid (RGg2.out.next hb)
              replace RGg1 := Lib.hid (RGg1.out.next hb)
              replace HX2 := Lib.hid (HX2.out.below hb)
              replace BB := Lib.hid (Below.andThen BB.out hb)
              clear hb
              have zg := RGg2.out.cell t
              rw [rowI_at _ hta, cumU_at] at zg
              have lg := RGg2.out.lt
              have fg := RGg2.out.frozen t
              go_wp2_with fail
              go_roundw
              case rel => exact ⟨t + 1, by go_num, by omega, by rw [HSN.out], by rw [← HN.out]; exact RGg2.out.set t _, HX2.out.set rfl _ _, BB.out.setCell (p := ⟨g2, t, none⟩) hg2 _⟩
              case measure => first | (simp [intOf]; done) | (simp [intOf]; omega)
            · obtain rfl : t = A := by omega
              rw [HZ.out k]
              go_wp2_with fail
              go_roundw
              case rel => exact ⟨k + 1, by go_num, by omega, by rw [← cumU_all]; exact RGg2.out, HX.out.trans HX2.out, BB.out⟩
              case measure => first | (simp [intOf]; done) | (simp [intOf]; omega)
        · obtain rfl : k = 6 := by omega
          rw [show ((6 : Nat) : Int) = 6 from rfl]
          replace RGg2 := Lib.hid (show Row wr2 g2 3 (rowI (leftT l 0) A) from by
            have h := RGg2.out
            rw [rowI_ext (g := cum f 6) (h := leftT l 0) (fun t _ => by
              rw [leftT_zero, ← owed_all l HVd.out HSub.out t, HFE.out]
              rfl)] at h
            exact h)
          clear HF CS HZ HX HFE
          have n21 : g2 ≠ g1 := Ne.symm n12
          have HN := Lib.hid BW.out.1
          have hN48 : N ≤ 48 := by have := HLen.out; rw [HN.out] at this; exact this
          have a0 := RB.out.cell 0
          have a1 := RB.out.cell 1
          have a2 := RB.out.cell 2
          have la := RB.out.lt
          simp only [List.getElem?_cons_zero, List.getElem?_cons_succ] at a0 a1 a2
          go_wp2_with fail
          go_loopw [21] (fun iv wy => ∃ i : Nat, iv = .int .i64 i ∧ i ≤ N ∧ Row wy g1 3 (rowI (leftT l i) A) ∧ Row wy g2 3 (rowI (leftT l i) A) ∧ Ex (fun j => j = g1 ∨ j = g2) wr2 wy ∧ Below w.heap.size w wy) (fun iv _ => N - (intOf iv).toNat)
          case atStart => exact ⟨0, rfl, Nat.zero_le _, RGg1.out, RGg2.out, Ex.refl _ _, BB.out⟩
          case round =>
            obtain ⟨i, rfl, hi, hR1, hR2, hx, hB⟩ := hrel
            rename World => wy
            clear a0 a1 a2 la
            replace RB := Lib.hid (row_ex RB.out hx (fun h => by rcases h with h | h <;> omega))
            replace BW := Lib.hid (BW.out.ex BW0.out (n := g1) HW3.out.1 (fun j h e => by rcases e with e | e <;> have := HW10.out <;> omega) hx)
            replace RGg1 := Lib.hid hR1
            replace RGg2 := Lib.hid hR2
            replace BB := Lib.hid hB
            have HX2 := Lib.hid hx
            clear hR1 hR2 hx hB
            have a0 := RB.out.cell 0
            have a1 := RB.out.cell 1
            have a2 := RB.out.cell 2
            have la := RB.out.lt
            simp only [List.getElem?_cons_zero, List.getElem?_cons_succ] at a0 a1 a2
            by_cases hlt : i < N
            · obtain ⟨b1, f1, rfl, -, -⟩ := BW.out.2.2.2.2.cells (fun e => by have := BW.out.1; rw [e] at this; simp at this; omega)
              obtain ⟨lb1, x0, x1, x2, x3, x4, x5, x6⟩ := sl_at BW.out.2.2.2.2 (k := i) (by rw [BW.out.1]; exact hlt)
              have hf := (HVd.out.2 i (by rw [HN.out]; exact hlt)).1
              have HNext := Lib.hid (leftT_next l i)
              have HBd := Lib.hid (fun t => leftT_bd (fun k hk => (HVd.out.2 k hk).1) HLen.out (show i ≤ l.length by rw [HN.out]; omega) t)
              obtain ⟨F, hF⟩ : ∃ F, leftT l i = F := ⟨_, rfl⟩
              rw [hF] at RGg1 RGg2 HBd HNext
              clear hF
              generalize at' l i = q at *
              obtain ⟨kind, day, deb, cre, amt, sub, of⟩ := q
              obtain ⟨-, -, hdeb, hcre, hne, hamt, -⟩ := hf
              try dsimp only at *
              obtain ⟨cn, rfl⟩ : ∃ n : Nat, cre = n := ⟨cre.toNat, by omega⟩
              obtain ⟨dn, rfl⟩ : ∃ n : Nat, deb = n := ⟨deb.toNat, by omega⟩
              have hcn : cn < A := by omega
              have hdn : dn < A := by omega
              have hcd : ¬ dn = cn := fun e => hne (by rw [e])
              have j0 : (0 : Int) ≤ cn := by omega
              have j1 : (cn : Int) < A := by omega
              have j2 : (0 : Int) ≤ dn := by omega
              have j3 : (dn : Int) < A := by omega
              have bc := HBd.out cn
              have bd := HBd.out dn
              have k0 : (0 : Int) ≤ i := by omega
              have k1 : (i : Int) < N := by omega
              go_upto_region 40 with (fail)
              clear x0 x1 x2 x3 x4 x5 x6 lb1
              refine wp_named fun wz hq => ?_
              obtain ⟨bP, eP⟩ : ∃ b, b = wy.heap.size := ⟨_, rfl⟩
              have RP := Lib.hid (show Row wz bP 27 [.int .i64 kind, .int .i64 day, .int .i64 dn, .int .i64 cn, .int .i64 amt, .int .i64 sub, .int .i64 of] from by rw [hq, eP]; exact Row.new wy _ _)
              have hB : Below wy.heap.size wy wz := by rw [hq]; (repeat' first | exact Below.refl _ _ | assumption | (refine below_drewN ?_ _) | (refine Below.drew ?_) | (refine Below.alloc ?_ ?_ _) | (refine Below.setCell ?_ ?_ _) | (simp; done) | (simp; omega) | omega)
              have nPg1 : bP ≠ g1 := by rw [eP]; have := RGg1.out.lt; omega
              have nPg2 : bP ≠ g2 := by rw [eP]; have := RGg2.out.lt; omega
              have ng1g2 := n12
              have ng2g1 := n21
              replace RB := Lib.hid (RB.out.next hB)
              replace BW := Lib.hid (BW.out.next hB)
              replace RGg1 := Lib.hid (RGg1.out.next hB)
              replace RGg2 := Lib.hid (RGg2.out.next hB)
              replace HX2 := Lib.hid (HX2.out.below hB)
              replace BB := Lib.hid (Below.andThen BB.out hB)
              rw [← eP]
              clear hq eP hB
              clear a0 a1 a2 la
              have HFin := Lib.hid (show rowI (fun j => if j = dn then F dn + amt else if j = cn then F cn - amt else F j) A = rowI (leftT l (i + 1)) A from rowI_ext fun t _ => by
                rw [HNext.out t]
                unfold eff
                dsimp only
                by_cases e1 : t = dn
                · subst e1
                  rw [if_pos rfl, if_neg (fun e => hcd (by omega)), if_pos rfl]
                  omega
                · rw [if_neg e1]
                  by_cases e2 : t = cn
                  · subst e2
                    rw [if_pos rfl, if_pos rfl, if_neg (fun e => e1 (by omega))]
                    omega
                  · rw [if_neg e2, if_neg (fun e => e2 (by omega)), if_neg (fun e => e1 (by omega))]
                    omega)
              clear HNext
              have p2 := RP.out.cell 2
              have p3 := RP.out.cell 3
              have p4 := RP.out.cell 4
              have lp := RP.out.lt
              simp only [List.getElem?_cons_zero, List.getElem?_cons_succ] at p2 p3 p4
              have zg := RGg1.out.cell cn
              rw [rowI_at _ hcn] at zg
              try dsimp only at zg
              skip
              have lg := RGg1.out.lt
              refine wp_region_kin_tail 12 (by kernel_rfl) (by kernel_rfl) wz.heap.size 0 (by simp) (fun hk => ?_)
              simp only [List.take_succ_cons, List.take_zero, List.drop_succ_cons, List.drop_zero]
              repeat (go_big_quiet_step (fail))
              refine wpQuiet_nil ?_
              clear hk zg lg
              clear p2 p3 p4 lp
              intro W9 hb
              replace RP := Lib.hid (RP.out.next hb)
              replace RGg1 := Lib.hid (RGg1.out.next hb)
              replace RGg2 := Lib.hid (RGg2.out.next hb)
              replace RB := Lib.hid (RB.out.next hb)
              replace BW := Lib.hid (BW.out.next hb)
              replace HX2 := Lib.hid (HX2.out.below hb)
              replace BB := Lib.hid (Below.andThen BB.out hb)
              clear hb
              have zg := RGg1.out.cell cn
              rw [rowI_at _ hcn] at zg
              try dsimp only at zg
              skip
              have lg := RGg1.out.lt
              have fg := RGg1.out.frozen cn
              go_upto_region 41 with (fail)
              clear zg lg fg
              rename World => wy0
              refine wp_named fun wz hq => ?_
              replace RP := Lib.hid (show Row wz bP _ _ from by rw [hq]; exact RP.out.other nPg1 _ _)
              replace RGg1 := Lib.hid (show Row wz g1 _ (rowI (fun j => if j = cn then F cn - amt else F j) A) from by rw [hq, ← rowI_set]; exact RGg1.out.set cn _)
              replace RGg2 := Lib.hid (show Row wz g2 _ _ from by rw [hq]; exact RGg2.out.other ng2g1 _ _)
              replace HX2 := Lib.hid (show Ex (fun j => j = g1 ∨ j = g2) wr2 wz from by rw [hq]; exact HX2.out.set (.inl rfl) _ _)
              replace BB := Lib.hid (show Below w.heap.size w wz from by rw [hq]; exact BB.out.setCell (p := ⟨g1, cn, none⟩) hg1 _)
              replace RB := Lib.hid (show Row wz bB _ _ from by rw [hq]; exact RB.out.other ng1 _ _)
              replace BW := Lib.hid (show BkW wz (some ⟨b1, f1, none⟩) N c l from by rw [hq]; exact BW.out.apart BW0.out (HW3.out.1) _)
              clear hq
              have p2 := RP.out.cell 2
              have p3 := RP.out.cell 3
              have p4 := RP.out.cell 4
              have lp := RP.out.lt
              simp only [List.getElem?_cons_zero, List.getElem?_cons_succ] at p2 p3 p4
              have zg := RGg1.out.cell dn
              rw [rowI_at _ hdn] at zg
              try dsimp only at zg
              rw [if_neg hcd] at zg
              have lg := RGg1.out.lt
              refine wp_region_kin_tail 12 (by kernel_rfl) (by kernel_rfl) wz.heap.size 0 (by simp) (fun hk => ?_)
              simp only [List.take_succ_cons, List.take_zero, List.drop_succ_cons, List.drop_zero]
              repeat (go_big_quiet_step (fail))
              refine wpQuiet_nil ?_
              clear hk zg lg
              clear p2 p3 p4 lp
              intro W9 hb
              replace RP := Lib.hid (RP.out.next hb)
              replace RGg1 := Lib.hid (RGg1.out.next hb)
              replace RGg2 := Lib.hid (RGg2.out.next hb)
              replace RB := Lib.hid (RB.out.next hb)
              replace BW := Lib.hid (BW.out.next hb)
              replace HX2 := Lib.hid (HX2.out.below hb)
              replace BB := Lib.hid (Below.andThen BB.out hb)
              clear hb
              have zg := RGg1.out.cell dn
              rw [rowI_at _ hdn] at zg
              try dsimp only at zg
              rw [if_neg hcd] at zg
              have lg := RGg1.out.lt
              have fg := RGg1.out.frozen dn
              go_upto_region 42 with (fail)
              clear zg lg fg
              rename World => wy0
              refine wp_named fun wz hq => ?_
              replace RP := Lib.hid (show Row wz bP _ _ from by rw [hq]; exact RP.out.other nPg1 _ _)
              replace RGg1 := Lib.hid (show Row wz g1 _ (rowI (fun j => if j = dn then F dn + amt else if j = cn then F cn - amt else F j) A) from by rw [hq, ← rowI_set]; exact RGg1.out.set dn _)
              replace RGg2 := Lib.hid (show Row wz g2 _ _ from by rw [hq]; exact RGg2.out.other ng2g1 _ _)
              replace HX2 := Lib.hid (show Ex (fun j => j = g1 ∨ j = g2) wr2 wz from by rw [hq]; exact HX2.out.set (.inl rfl) _ _)
              replace BB := Lib.hid (show Below w.heap.size w wz from by rw [hq]; exact BB.out.setCell (p := ⟨g1, dn, none⟩) hg1 _)
              replace RB := Lib.hid (show Row wz bB _ _ from by rw [hq]; exact RB.out.other ng1 _ _)
              replace BW := Lib.hid (show BkW wz (some ⟨b1, f1, none⟩) N c l from by rw [hq]; exact BW.out.apart BW0.out (HW3.out.1) _)
              clear hq
              have p2 := RP.out.cell 2
              have p3 := RP.out.cell 3
              have p4 := RP.out.cell 4
              have lp := RP.out.lt
              simp only [List.getElem?_cons_zero, List.getElem?_cons_succ] at p2 p3 p4
              have zg := RGg2.out.cell cn
              rw [rowI_at _ hcn] at zg
              try dsimp only at zg
              skip
              have lg := RGg2.out.lt
              refine wp_region_kin_tail 12 (by kernel_rfl) (by kernel_rfl) wz.heap.size 0 (by simp) (fun hk => ?_)
              simp only [List.take_succ_cons, List.take_zero, List.drop_succ_cons, List.drop_zero]
              repeat (go_big_quiet_step (fail))
              refine wpQuiet_nil ?_
              clear hk zg lg
              clear p2 p3 p4 lp
              intro W9 hb
              replace RP := Lib.hid (RP.out.next hb)
              replace RGg1 := Lib.hid (RGg1.out.next hb)
              replace RGg2 := Lib.hid (RGg2.out.next hb)
              replace RB := Lib.hid (RB.out.next hb)
              replace BW := Lib.hid (BW.out.next hb)
              replace HX2 := Lib.hid (HX2.out.below hb)
              replace BB := Lib.hid (Below.andThen BB.out hb)
              clear hb
              have zg := RGg2.out.cell cn
              rw [rowI_at _ hcn] at zg
              try dsimp only at zg
              skip
              have lg := RGg2.out.lt
              have fg := RGg2.out.frozen cn
              go_upto_region 43 with (fail)
              clear zg lg fg
              rename World => wy0
              refine wp_named fun wz hq => ?_
              replace RP := Lib.hid (show Row wz bP _ _ from by rw [hq]; exact RP.out.other nPg2 _ _)
              replace RGg2 := Lib.hid (show Row wz g2 _ (rowI (fun j => if j = cn then F cn - amt else F j) A) from by rw [hq, ← rowI_set]; exact RGg2.out.set cn _)
              replace RGg1 := Lib.hid (show Row wz g1 _ _ from by rw [hq]; exact RGg1.out.other ng1g2 _ _)
              replace HX2 := Lib.hid (show Ex (fun j => j = g1 ∨ j = g2) wr2 wz from by rw [hq]; exact HX2.out.set (.inr rfl) _ _)
              replace BB := Lib.hid (show Below w.heap.size w wz from by rw [hq]; exact BB.out.setCell (p := ⟨g2, cn, none⟩) hg2 _)
              replace RB := Lib.hid (show Row wz bB _ _ from by rw [hq]; exact RB.out.other ng2 _ _)
              replace BW := Lib.hid (show BkW wz (some ⟨b1, f1, none⟩) N c l from by rw [hq]; exact BW.out.apart BW0.out (HW10.out.1) _)
              clear hq
              have p2 := RP.out.cell 2
              have p3 := RP.out.cell 3
              have p4 := RP.out.cell 4
              have lp := RP.out.lt
              simp only [List.getElem?_cons_zero, List.getElem?_cons_succ] at p2 p3 p4
              have zg := RGg2.out.cell dn
              rw [rowI_at _ hdn] at zg
              try dsimp only at zg
              rw [if_neg hcd] at zg
              have lg := RGg2.out.lt
              refine wp_region_kin_tail 12 (by kernel_rfl) (by kernel_rfl) wz.heap.size 0 (by simp) (fun hk => ?_)
              simp only [List.take_succ_cons, List.take_zero, List.drop_succ_cons, List.drop_zero]
              repeat (go_big_quiet_step (fail))
              refine wpQuiet_nil ?_
              clear hk zg lg
              clear p2 p3 p4 lp
              intro W9 hb
              replace RP := Lib.hid (RP.out.next hb)
              replace RGg1 := Lib.hid (RGg1.out.next hb)
              replace RGg2 := Lib.hid (RGg2.out.next hb)
              replace RB := Lib.hid (RB.out.next hb)
              replace BW := Lib.hid (BW.out.next hb)
              replace HX2 := Lib.hid (HX2.out.below hb)
              replace BB := Lib.hid (Below.andThen BB.out hb)
              clear hb
              have zg := RGg2.out.cell dn
              rw [rowI_at _ hdn] at zg
              try dsimp only at zg
              rw [if_neg hcd] at zg
              have lg := RGg2.out.lt
              have fg := RGg2.out.frozen dn
              go_wp2_with fail
              go_roundw
              case rel => exact ⟨i + 1, by go_num, by omega, by rw [← HFin.out]; exact RGg1.out.other n12 _ _, by rw [← HFin.out, ← rowI_set]; exact RGg2.out.set dn _, HX2.out.set (.inr rfl) _ _, BB.out.setCell (p := ⟨g2, dn, none⟩) hg2 _⟩
              case measure => first | (simp [intOf]; done) | (simp [intOf]; omega)
            · obtain rfl : i = N := by omega
              have hz : rowI (leftT l i) A = rowI (fun _ => 0) A := rowI_ext fun t _ => by rw [← HN.out]; exact leftT_all l t
              rw [hz] at RGg1 RGg2
              clear hz
              obtain ⟨i0, hi, hz0, hz1, hz2⟩ := info_parts infoIntR
              have hmk := run_make_row (P := Try.prog) wy 37 3 i0 _ 8 Try.underlying37 hi hz0 hz1 hz2 rfl A (by omega) (by omega)
              go_wp2_with fail
              refine Calls.mono (zero_ints RGg1.out (by omega)) ?_
              rintro e wn ⟨rfl, hb⟩
              replace RB := Lib.hid (RB.out.next hb)
              replace RGg2 := Lib.hid (RGg2.out.next hb)
              replace BB := Lib.hid (Below.andThen BB.out hb)
              clear hb hmk
              clear a0 a1 a2 la
              have a0 := RB.out.cell 0
              have a1 := RB.out.cell 1
              have a2 := RB.out.cell 2
              have la := RB.out.lt
              simp only [List.getElem?_cons_zero, List.getElem?_cons_succ] at a0 a1 a2
              have hmk := run_make_row (P := Try.prog) wn 37 3 i0 _ 8 Try.underlying37 hi hz0 hz1 hz2 rfl A (by omega) (by omega)
              go_wp2_with fail
              refine Calls.mono (zero_ints RGg2.out (by omega)) ?_
              rintro e wn2 ⟨rfl, hb⟩
              replace BB := Lib.hid (Below.andThen BB.out hb)
              clear hb hmk
              clear a0 a1 a2 la
              go_wp2_with fail
              go_ret
              exact ⟨rfl, BB.out⟩
end Bk
end Go.Proofs.Ytnhlhoijajhcjaa
