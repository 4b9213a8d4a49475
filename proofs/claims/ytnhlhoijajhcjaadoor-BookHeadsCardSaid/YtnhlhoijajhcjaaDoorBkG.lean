/- takesBack: does a posting take back an earlier fee? -/
import Derived.Test.YtnhlhoijajhcjaaDoorBkF
import Derived.ChangeKeysEq
import Derived.Laws.StructEq
set_option linter.unusedVariables false
set_option linter.unusedSimpArgs false
set_option linter.unnecessarySimpa false
namespace Go.Proofs.YtnhlhoijajhcjaaDoor
open Go.RowKit
namespace Bk
open Sq
theorem eq_num (w : World) (a b : Int) : (Op.equalIn 9999 3 (.int .i64 a) (.int .i64 b)).run Tryd.prog w = .ok (a == b) w := by
  show (Op.equalIn (9998 + 1) 3 (.int .i64 a) (.int .i64 b)).run Tryd.prog w = .ok (a == b) w
  generalize 9998 = d
  simp [Op.equalIn, go_sem]
def zeroB (g : Nat → Int) : Bool := (List.range 12).all fun t => g t == 0
theorem zeroB_iff {g : Nat → Int} : zeroB g = true ↔ ∀ t, t < 12 → g t = 0 := by
  unfold zeroB
  rw [List.all_eq_true]
  constructor
  · intro h t ht
    exact beq_iff_eq.1 (h t (List.mem_range.2 ht))
  · intro h t ht
    exact beq_iff_eq.2 (h t (List.mem_range.1 ht))
theorem eq_items (w : World) (g : Nat → Int) : ∀ (is : List Nat), (∀ i ∈ is, i < 12) → (Op.eqItems 9999 3 1 (balC g).toArray (balC fun _ => 0).toArray is).run Tryd.prog w = .ok (is.all fun t => g t == 0) w
  | [], _ => by simp [Op.eqItems]
  | i :: is, h => by
    have ih := eq_items w g is (fun j hj => h j (List.mem_cons_of_mem _ hj))
    have h1 := balC_at g (h i List.mem_cons_self)
    have h2 := balC_at (fun _ => 0) (h i List.mem_cons_self)
    simp only [Op.eqItems, Sem.run_bind]
    cases e : (g i == 0) <;> simp [go_sem, Go.part, h1, h2, eq_num, ih, e]
theorem eq_balances (w : World) (g : Nat → Int) : (binOp .eql 82 (.agg (balC g).toArray) (.agg (balC fun _ => 0).toArray)).run Tryd.prog w = .ok (.bool (zeroB g)) w := by
  have hu : Tryd.prog.underlying 82 = some (.array 12 3) := by kernel_rfl
  obtain ⟨i, hi⟩ : ∃ i, Tryd.prog.info? 3 = some i := Option.isSome_iff_exists.mp (by kernel_rfl)
  have hc : Tryd.prog.cellsOf 3 = 1 := by kernel_rfl
  have key := run_equalIn_array (P := Tryd.prog) w 9999 (balC g).toArray (balC fun _ => 0).toArray hu hi
  rw [hc, eq_items w g _ (fun i hi => List.mem_range.1 hi)] at key
  rw [run_eql_struct]
  rw [show (10000 : Nat) = 9999 + 1 from rfl, key]
  rfl
theorem eq_bal0 (w : World) (g : Nat → Int) : (binOp .eql 82 (.agg (balC g).toArray) (.agg #[.int .i64 0, .int .i64 0, .int .i64 0, .int .i64 0, .int .i64 0, .int .i64 0, .int .i64 0, .int .i64 0, .int .i64 0, .int .i64 0, .int .i64 0, .int .i64 0])).run Tryd.prog w = .ok (.bool (zeroB g)) w := eq_balances w g
attribute [local go_sem high] eq_bal0
set_option maxRecDepth 100000 in
set_option maxHeartbeats 4000000 in
theorem takesBack_any (acc : Int) (ha : acc ≤ 12) (i : Nat) (o : Option Addr) (N c : Nat) (l : List Po) (w : World) (hl : l.length = N) (hN : N ≤ 1000000) (hc : N ≤ c) (hc2 : c ≤ 9223372036854775807) (hf : ∀ p ∈ l, FmP acc p) (hi : i < N) (hk2 : (at' l i).kind = 2) (hS : Sl poE w o l) :
    Calls Tryd.prog 55 #[.slice o N c, .int .i64 i] w fun e w' => e = .returned (.bool (decide (TbP l i))) ∧ Below w.heap.size w w' := by
  have hP := hf _ (at_mem (show i < l.length by omega))
  have HP := Lib.hid hP
  obtain ⟨bl, off, rfl, -, -⟩ := hS.cells (fun e => by rw [e] at hl; simp at hl; omega)
  obtain ⟨lb, c0, c1, c2, c3, c4, c5, c6⟩ := sl_at hS (k := i) (by omega)
  have SL := Lib.hid hS
  have HL := Lib.hid hl
  have BB := Lib.hid (Below.refl w.heap.size w)
  obtain ⟨F, hF⟩ : ∃ F, decide (TbP l i) = F := ⟨_, rfl⟩
  have HYes := Lib.hid (show TbP l i → F = true from fun h => by rw [← hF]; exact decide_eq_true h)
  have HNo := Lib.hid (show ¬ TbP l i → F = false from fun h => by rw [← hF]; exact decide_eq_false h)
  rw [hF]
  clear hF
  unfold TbP at HYes HNo
  have hof : 0 ≤ (at' l i).of := by rcases hP.1 with ⟨h, _⟩ | ⟨_, h, _⟩ <;> omega
  obtain ⟨k, hk⟩ : ∃ k : Nat, (at' l i).of = k := ⟨(at' l i).of.toNat, by omega⟩
  rw [hk] at HYes HNo c6
  rw [Int.toNat_natCast] at HYes HNo
  have CE1 := Lib.hid (fun W => effect_any (at' l i) W ⟨hP.2.2.2.1.1, by have := hP.2.2.2.1.2; omega⟩ ⟨hP.2.2.1.1, by have := hP.2.2.1.2; omega⟩ ⟨by have := hP.2.2.2.2.2.1; omega, by have := hP.2.2.2.2.2.1; omega⟩)
  have E1 := Lib.hid (fun t => eff_bd hP t)
  clear hP hof hS
  by_cases hlt : k < i
  · have hkN : k < N := by omega
    have hQ := hf _ (at_mem (show k < l.length by omega))
    have HQ := Lib.hid hQ
    obtain ⟨-, d0, d1, d2, d3, d4, d5, d6⟩ := sl_at SL.out (k := k) (by have := HL.out; omega)
    have CE2 := Lib.hid (fun W => effect_any (at' l k) W ⟨hQ.2.2.2.1.1, by have := hQ.2.2.2.1.2; omega⟩ ⟨hQ.2.2.1.1, by have := hQ.2.2.1.2; omega⟩ ⟨by have := hQ.2.2.2.2.2.1.1; omega, by have := hQ.2.2.2.2.2.1.2; omega⟩)
    have E2 := Lib.hid (fun t => eff_bd hQ t)
    have HPair := Lib.hid (eff_pair ha HP.out hQ)
    have CP := Lib.hid (fun W => plus_any (eff (at' l i)) (eff (at' l k)) W (fun t _ => by have := E1.out t; omega) (fun t _ => by have := E2.out t; omega))
    have CR := Lib.hid (fun W (h : Sl poE W (some ⟨bl, off, none⟩) l) => reversed_any k (some ⟨bl, off, none⟩) i c (l.take i) W (by rw [List.length_take, HL.out]; omega) (by omega) (h.take i))
    have HZ := Lib.hid (zeroB_iff (g := fun t => eff (at' l i) t + eff (at' l k) t))
    obtain ⟨R, hR⟩ : ∃ R, rev (l.take i) (k : Int) = R := ⟨_, rfl⟩
    rw [hR] at CR HYes HNo
    obtain ⟨Z, hZ⟩ : ∃ Z, zeroB (fun t => eff (at' l i) t + eff (at' l k) t) = Z := ⟨_, rfl⟩
    have HZ1 := Lib.hid (show Z = true ↔ ((at' l i).deb = (at' l k).cre ∧ (at' l i).cre = (at' l k).deb ∧ (at' l i).amt = (at' l k).amt) from by rw [← hZ]; exact HZ.out.trans HPair.out)
    unfold Po.v at CE1 CE2
    rw [hk] at CE1
    clear hR hQ HQ HP HPair HZ E1 E2 hk hk2 hf
    have hcl : i ≤ c := by omega
    generalize eff (at' l i) = g1 at *
    generalize eff (at' l k) = g2 at *
    generalize at' l i = p at *
    generalize at' l k = q at *
    obtain ⟨kind, day, deb, cre, amt, sub, of⟩ := p
    obtain ⟨kind', day', deb', cre', amt', sub', of'⟩ := q
    dsimp only at *
    go_enter Tryd.func55, Tryd.ntmps55
    go_upto_region 2 with (fail)
    refine wp_named fun w1 hq => ?_
    have hB1 : Below w.heap.size w w1 := by rw [hq]; (repeat' first | exact Below.refl _ _ | assumption | (refine below_drewN ?_ _) | (refine Below.drew ?_) | (refine Below.alloc ?_ ?_ _) | (refine Below.setCell ?_ ?_ _) | (simp; done) | (simp; omega) | omega)
    replace BB := Lib.hid hB1
    have SL1 := Lib.hid (SL.out.next hB1)
    obtain ⟨b5, e5⟩ : ∃ b, b = w.heap.size := ⟨_, rfl⟩
    have R5 := Lib.hid (show Row w1 b5 27 [.int .i64 kind, .int .i64 day, .int .i64 deb, .int .i64 cre, .int .i64 amt, .int .i64 sub, .int .i64 k] from by rw [hq, e5]; exact Row.new w _ _)
    rw [← e5]
    have D := Lib.hid (show At7 w1 bl (off + k * 7) ⟨kind', day', deb', cre', amt', sub', of'⟩ from At7.next ⟨d0, d1, d2, d3, d4, d5, d6⟩ lb hB1)
    have lb1 : bl < w1.heap.size := Nat.lt_of_lt_of_le lb hB1.size
    clear hq e5 c0 c1 c2 c3 c4 c5 c6 d0 d1 d2 d3 d4 d5 d6 lb hB1
    obtain ⟨d0, d1, d2, d3, d4, d5, d6⟩ := D.out
    dsimp only at d0 d1 d2 d3 d4 d5 d6
    have c0 := R5.out.cell 0
    have c1 := R5.out.cell 1
    have c2 := R5.out.cell 2
    have c3 := R5.out.cell 3
    have c4 := R5.out.cell 4
    have c5 := R5.out.cell 5
    have c6 := R5.out.cell 6
    simp only [List.getElem?_cons_zero, List.getElem?_cons_succ] at c0 c1 c2 c3 c4 c5 c6
    have l5 := R5.out.lt
    by_cases h1 : kind' = 1
    · have b1 : (kind' == 1) = true := beq_iff_eq.2 h1
      have H1 := Lib.hid h1
      clear h1
      cases R with
      | true =>
        clear hZ
        have HE := Lib.hid (HNo.out (fun h => by cases h.2.2.1))
        refine wp_region_kin (by kernel_rfl) (by kernel_rfl) w1.heap.size 0 (by simp) (fun hk => ?_)
        repeat (go_big_quiet_step ((first | (go_at_call 48; with_reducible exact Calls.kin (CR.out _ (SL1.out.next (Kin.below _)))) | (go_at_call 50; first | with_reducible exact Calls.kin (CE1.out _) | with_reducible exact Calls.kin (CE2.out _)) | (go_at_call 49; with_reducible exact Calls.kin (CP.out _)))))
        refine wpQuiet_nil ?_
        clear hk
        intro W2 hb
        replace SL1 := Lib.hid (SL1.out.next hb)
        replace BB := Lib.hid (Below.andThen BB.out hb)
        clear hb
        go_wp2_with fail
        go_ret
        exact ⟨by rw [HE.out]; rfl, BB.out⟩
      | false =>
        by_cases h2 : sub' = sub
        · have b2 : (sub' == sub) = true := beq_iff_eq.2 h2
          have H2 := Lib.hid h2
          clear h2
          cases Z with
          | true =>
            have HE := Lib.hid (HYes.out ⟨by omega, H1.out, rfl, H2.out, HZ1.out.1 rfl⟩)
            refine wp_region_kin (by kernel_rfl) (by kernel_rfl) w1.heap.size 0 (by simp) (fun hk => ?_)
            repeat (go_big_quiet_step ((first | (go_at_call 48; with_reducible exact Calls.kin (CR.out _ (SL1.out.next (Kin.below _)))) | (go_at_call 50; first | with_reducible exact Calls.kin (CE1.out _) | with_reducible exact Calls.kin (CE2.out _)) | (go_at_call 49; with_reducible exact Calls.kin (CP.out _)))))
            refine wpQuiet_nil ?_
            clear hk
            intro W2 hb
            replace SL1 := Lib.hid (SL1.out.next hb)
            replace BB := Lib.hid (Below.andThen BB.out hb)
            clear hb
            go_wp2_with fail
            go_ret
            exact ⟨by rw [HE.out]; rfl, BB.out⟩
          | false =>
            have HE := Lib.hid (HNo.out (fun h => by have := HZ1.out.2 h.2.2.2.2; cases this))
            refine wp_region_kin (by kernel_rfl) (by kernel_rfl) w1.heap.size 0 (by simp) (fun hk => ?_)
            repeat (go_big_quiet_step ((first | (go_at_call 48; with_reducible exact Calls.kin (CR.out _ (SL1.out.next (Kin.below _)))) | (go_at_call 50; first | with_reducible exact Calls.kin (CE1.out _) | with_reducible exact Calls.kin (CE2.out _)) | (go_at_call 49; with_reducible exact Calls.kin (CP.out _)))))
            refine wpQuiet_nil ?_
            clear hk
            intro W2 hb
            replace SL1 := Lib.hid (SL1.out.next hb)
            replace BB := Lib.hid (Below.andThen BB.out hb)
            clear hb
            go_wp2_with fail
            go_ret
            exact ⟨by rw [HE.out]; rfl, BB.out⟩
        · have b2 : (sub' == sub) = false := beq_eq_false_iff_ne.2 h2
          clear hZ
          have HE := Lib.hid (HNo.out (fun h => h2 h.2.2.2.1))
          refine wp_region_kin (by kernel_rfl) (by kernel_rfl) w1.heap.size 0 (by simp) (fun hk => ?_)
          repeat (go_big_quiet_step ((first | (go_at_call 48; with_reducible exact Calls.kin (CR.out _ (SL1.out.next (Kin.below _)))) | (go_at_call 50; first | with_reducible exact Calls.kin (CE1.out _) | with_reducible exact Calls.kin (CE2.out _)) | (go_at_call 49; with_reducible exact Calls.kin (CP.out _)))))
          refine wpQuiet_nil ?_
          clear hk
          intro W2 hb
          replace SL1 := Lib.hid (SL1.out.next hb)
          replace BB := Lib.hid (Below.andThen BB.out hb)
          clear hb
          go_wp2_with fail
          go_ret
          exact ⟨by rw [HE.out]; rfl, BB.out⟩
    · have b1 : (kind' == 1) = false := beq_eq_false_iff_ne.2 h1
      clear hZ
      have HE := Lib.hid (HNo.out (fun h => h1 h.2.1))
      refine wp_region_kin (by kernel_rfl) (by kernel_rfl) w1.heap.size 0 (by simp) (fun hk => ?_)
      repeat (go_big_quiet_step ((first | (go_at_call 48; with_reducible exact Calls.kin (CR.out _ (SL1.out.next (Kin.below _)))) | (go_at_call 50; first | with_reducible exact Calls.kin (CE1.out _) | with_reducible exact Calls.kin (CE2.out _)) | (go_at_call 49; with_reducible exact Calls.kin (CP.out _)))))
      refine wpQuiet_nil ?_
      clear hk
      intro W2 hb
      replace SL1 := Lib.hid (SL1.out.next hb)
      replace BB := Lib.hid (Below.andThen BB.out hb)
      clear hb
      go_wp2_with fail
      go_ret
      exact ⟨by rw [HE.out]; rfl, BB.out⟩
  · have HE := Lib.hid (HNo.out (fun h => hlt (by have := h.1; omega)))
    clear HYes HNo hk hk2 hf E1 CE1
    generalize at' l i = p at *
    obtain ⟨kind, day, deb, cre, amt, sub, of⟩ := p
    dsimp only at *
    go_enter Tryd.func55, Tryd.ntmps55
    go_upto_region 2 with (fail)
    refine wp_named fun w1 hq => ?_
    have hB1 : Below w.heap.size w w1 := by rw [hq]; (repeat' first | exact Below.refl _ _ | assumption | (refine below_drewN ?_ _) | (refine Below.drew ?_) | (refine Below.alloc ?_ ?_ _) | (refine Below.setCell ?_ ?_ _) | (simp; done) | (simp; omega) | omega)
    replace BB := Lib.hid hB1
    have SL1 := Lib.hid (SL.out.next hB1)
    obtain ⟨b5, e5⟩ : ∃ b, b = w.heap.size := ⟨_, rfl⟩
    have R5 := Lib.hid (show Row w1 b5 27 [.int .i64 kind, .int .i64 day, .int .i64 deb, .int .i64 cre, .int .i64 amt, .int .i64 sub, .int .i64 k] from by rw [hq, e5]; exact Row.new w _ _)
    rw [← e5]
    clear hq e5 c0 c1 c2 c3 c4 c5 c6 lb hB1
    have c6 := R5.out.cell 6
    simp only [List.getElem?_cons_zero, List.getElem?_cons_succ] at c6
    have l5 := R5.out.lt
    refine wp_region_kin (by kernel_rfl) (by kernel_rfl) w1.heap.size 0 (by simp) (fun hk => ?_)
    repeat (go_big_quiet_step (fail))
    refine wpQuiet_nil ?_
    clear hk
    intro W2 hb
    replace SL1 := Lib.hid (SL1.out.next hb)
    replace BB := Lib.hid (Below.andThen BB.out hb)
    clear hb
    go_wp2_with fail
    go_ret
    exact ⟨by rw [HE.out]; rfl, BB.out⟩
end Bk
end Go.Proofs.YtnhlhoijajhcjaaDoor
