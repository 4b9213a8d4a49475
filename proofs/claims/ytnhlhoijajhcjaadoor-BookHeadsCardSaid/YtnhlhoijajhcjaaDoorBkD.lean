/- The closures that choose postings, and the function that hands out those that are chosen. -/
import Derived.Test.YtnhlhoijajhcjaaDoorBkC
import Derived.Test.YtnhlhoijajhcjaaDoorIterY
import Derived.Test.YtnhlhoijajhcjaaDoorRound
set_option linter.unusedVariables false
set_option linter.unusedSimpArgs false
set_option linter.unnecessarySimpa false
namespace Go.Proofs.YtnhlhoijajhcjaaDoor
open Go.RowKit Go.Shelf
attribute [local go_sem] Oper.semAt_some
namespace Bk
open Sq
theorem isBack_any (p : Po) (w : World) : Calls Tryd.prog 54 #[p.v] w fun e w' => e = .returned (.bool (decide (p.kind = 2))) ∧ Below w.heap.size w w' := by
  obtain ⟨kind, day, deb, cre, amt, sub, of⟩ := p
  unfold Po.v
  dsimp only
  by_cases h : kind = 2
  · have d : (kind == 2) = true := by rw [h]; rfl
    rw [decide_eq_true h]
    clear h
    go_enter Tryd.func54, Tryd.ntmps54
    go_wp2_with fail
    go_ret
    exact ⟨rfl, by (repeat' first | exact Below.refl _ _ | assumption | (refine below_drewN ?_ _) | (refine Below.drew ?_) | (refine Below.alloc ?_ ?_ _) | (refine Below.setCell ?_ ?_ _) | (simp; done) | (simp; omega) | omega)⟩
  · have d : (kind == 2) = false := beq_eq_false_iff_ne.2 h
    rw [decide_eq_false h]
    clear h
    go_enter Tryd.func54, Tryd.ntmps54
    go_wp2_with fail
    go_ret
    exact ⟨rfl, by (repeat' first | exact Below.refl _ _ | assumption | (refine below_drewN ?_ _) | (refine Below.drew ?_) | (refine Below.alloc ?_ ?_ _) | (refine Below.setCell ?_ ?_ _) | (simp; done) | (simp; omega) | omega)⟩
theorem isRev_any (b : Nat) (i : Int) (p : Po) (w : World) (hb : Has1 w b (.int .i64 i)) : Calls Tryd.prog 70 #[p.v, ptV b] w fun e w' => e = .returned (.bool (decide (p.kind = 2 ∧ p.of = i))) ∧ Below w.heap.size w w' := by
  obtain ⟨kind, day, deb, cre, amt, sub, of⟩ := p
  unfold Po.v
  dsimp only
  obtain ⟨lb, cb⟩ := hb
  have hne : w.heap.size ≠ b := by omega
  by_cases h : kind = 2
  · have d : (kind == 2) = true := by rw [h]; rfl
    by_cases g : of = i
    · have d2 : (of == i) = true := by rw [g]; simp
      rw [decide_eq_true ⟨h, g⟩]
      clear h g
      go_enter Tryd.func70, Tryd.ntmps70
      go_wp2_with fail
      go_ret
      exact ⟨rfl, by (repeat' first | exact Below.refl _ _ | assumption | (refine below_drewN ?_ _) | (refine Below.drew ?_) | (refine Below.alloc ?_ ?_ _) | (refine Below.setCell ?_ ?_ _) | (simp; done) | (simp; omega) | omega)⟩
    · have d2 : (of == i) = false := beq_eq_false_iff_ne.2 g
      rw [decide_eq_false (fun e => g e.2)]
      clear h g
      go_enter Tryd.func70, Tryd.ntmps70
      go_wp2_with fail
      go_ret
      exact ⟨rfl, by (repeat' first | exact Below.refl _ _ | assumption | (refine below_drewN ?_ _) | (refine Below.drew ?_) | (refine Below.alloc ?_ ?_ _) | (refine Below.setCell ?_ ?_ _) | (simp; done) | (simp; omega) | omega)⟩
  · have d : (kind == 2) = false := beq_eq_false_iff_ne.2 h
    rw [decide_eq_false (fun e => h e.1)]
    clear h
    go_enter Tryd.func70, Tryd.ntmps70
    go_wp2_with fail
    go_ret
    exact ⟨rfl, by (repeat' first | exact Below.refl _ _ | assumption | (refine below_drewN ?_ _) | (refine Below.drew ?_) | (refine Below.alloc ?_ ?_ _) | (refine Below.setCell ?_ ?_ _) | (simp; done) | (simp; omega) | omega)⟩
theorem isFee_any (b : Nat) (i : Int) (p : Po) (w : World) (hb : Has1 w b (.int .i64 i)) : Calls Tryd.prog 47 #[p.v, ptV b] w fun e w' => e = .returned (.bool (decide (p.kind = 1 ∧ p.sub = i))) ∧ Below w.heap.size w w' := by
  obtain ⟨kind, day, deb, cre, amt, sub, of⟩ := p
  unfold Po.v
  dsimp only
  obtain ⟨lb, cb⟩ := hb
  have hne : w.heap.size ≠ b := by omega
  by_cases h : kind = 1
  · have d : (kind == 1) = true := by rw [h]; rfl
    by_cases g : sub = i
    · have d2 : (sub == i) = true := by rw [g]; simp
      rw [decide_eq_true ⟨h, g⟩]
      clear h g
      go_enter Tryd.func47, Tryd.ntmps47
      go_wp2_with fail
      go_ret
      exact ⟨rfl, by (repeat' first | exact Below.refl _ _ | assumption | (refine below_drewN ?_ _) | (refine Below.drew ?_) | (refine Below.alloc ?_ ?_ _) | (refine Below.setCell ?_ ?_ _) | (simp; done) | (simp; omega) | omega)⟩
    · have d2 : (sub == i) = false := beq_eq_false_iff_ne.2 g
      rw [decide_eq_false (fun e => g e.2)]
      clear h g
      go_enter Tryd.func47, Tryd.ntmps47
      go_wp2_with fail
      go_ret
      exact ⟨rfl, by (repeat' first | exact Below.refl _ _ | assumption | (refine below_drewN ?_ _) | (refine Below.drew ?_) | (refine Below.alloc ?_ ?_ _) | (refine Below.setCell ?_ ?_ _) | (simp; done) | (simp; omega) | omega)⟩
  · have d : (kind == 1) = false := beq_eq_false_iff_ne.2 h
    rw [decide_eq_false (fun e => h e.1)]
    clear h
    go_enter Tryd.func47, Tryd.ntmps47
    go_wp2_with fail
    go_ret
    exact ⟨rfl, by (repeat' first | exact Below.refl _ _ | assumption | (refine below_drewN ?_ _) | (refine Below.drew ?_) | (refine Below.alloc ?_ ?_ _) | (refine Below.setCell ?_ ?_ _) | (simp; done) | (simp; omega) | omega)⟩
theorem isMon_any (b : Nat) (m : Int) (p : Po) (w : World) (hb : Has1 w b (.int .i64 m)) (hd : inI p.day) : Calls Tryd.prog 42 #[p.v, ptV b] w fun e w' => e = .returned (.bool (decide (p.day.tdiv 30 = m))) ∧ Below w.heap.size w w' := by
  have CM := Lib.hid (fun W => monthOf_any p W hd)
  obtain ⟨kind, day, deb, cre, amt, sub, of⟩ := p
  unfold Po.v at CM ⊢
  dsimp only at CM ⊢
  obtain ⟨x, hx⟩ : ∃ x, day.tdiv 30 = x := ⟨_, rfl⟩
  rw [hx] at CM ⊢
  clear hx hd
  have BB := Lib.hid (Below.refl w.heap.size w)
  by_cases h : x = m
  · have d : (x == m) = true := by rw [h]; simp
    rw [decide_eq_true h]
    clear h
    go_enter Tryd.func42, Tryd.ntmps42
    go_upto_region 1 with (fail)
    refine wp_named fun w1 hq => ?_
    have hB1 : Below w.heap.size w w1 := by rw [hq]; (repeat' first | exact Below.refl _ _ | assumption | (refine below_drewN ?_ _) | (refine Below.drew ?_) | (refine Below.alloc ?_ ?_ _) | (refine Below.setCell ?_ ?_ _) | (simp; done) | (simp; omega) | omega)
    replace BB := Lib.hid hB1
    have hb1 := Lib.hid (has1 hb hB1)
    obtain ⟨b1, e1⟩ : ∃ b, b = w.heap.size := ⟨_, rfl⟩
    have R := Lib.hid (show Row w1 b1 27 [.int .i64 kind, .int .i64 day, .int .i64 deb, .int .i64 cre, .int .i64 amt, .int .i64 sub, .int .i64 of] from by rw [hq, e1]; exact Row.new w _ _)
    rw [← e1]
    clear hq e1 hb hB1
    have c0 := R.out.cell 0
    have c1 := R.out.cell 1
    have c2 := R.out.cell 2
    have c3 := R.out.cell 3
    have c4 := R.out.cell 4
    have c5 := R.out.cell 5
    have c6 := R.out.cell 6
    simp only [List.getElem?_cons_zero, List.getElem?_cons_succ] at c0 c1 c2 c3 c4 c5 c6
    have l1 := R.out.lt
    obtain ⟨lb, cb⟩ := hb1.out
    refine wp_region_kin (by kernel_rfl) (by kernel_rfl) w1.heap.size 0 (by simp) (fun hk => ?_)
    repeat (go_big_quiet_step ((go_at_call 43; with_reducible exact Calls.kin (CM.out _))))
    refine wpQuiet_nil ?_
    clear hk
    intro W2 hb
    replace R := Lib.hid (R.out.next hb)
    replace BB := Lib.hid (Below.andThen BB.out hb)
    clear hb
    go_wp2_with fail
    go_ret
    exact ⟨rfl, BB.out⟩
  · have d : (x == m) = false := beq_eq_false_iff_ne.2 h
    rw [decide_eq_false h]
    clear h
    go_enter Tryd.func42, Tryd.ntmps42
    go_upto_region 1 with (fail)
    refine wp_named fun w1 hq => ?_
    have hB1 : Below w.heap.size w w1 := by rw [hq]; (repeat' first | exact Below.refl _ _ | assumption | (refine below_drewN ?_ _) | (refine Below.drew ?_) | (refine Below.alloc ?_ ?_ _) | (refine Below.setCell ?_ ?_ _) | (simp; done) | (simp; omega) | omega)
    replace BB := Lib.hid hB1
    have hb1 := Lib.hid (has1 hb hB1)
    obtain ⟨b1, e1⟩ : ∃ b, b = w.heap.size := ⟨_, rfl⟩
    have R := Lib.hid (show Row w1 b1 27 [.int .i64 kind, .int .i64 day, .int .i64 deb, .int .i64 cre, .int .i64 amt, .int .i64 sub, .int .i64 of] from by rw [hq, e1]; exact Row.new w _ _)
    rw [← e1]
    clear hq e1 hb hB1
    have c0 := R.out.cell 0
    have c1 := R.out.cell 1
    have c2 := R.out.cell 2
    have c3 := R.out.cell 3
    have c4 := R.out.cell 4
    have c5 := R.out.cell 5
    have c6 := R.out.cell 6
    simp only [List.getElem?_cons_zero, List.getElem?_cons_succ] at c0 c1 c2 c3 c4 c5 c6
    have l1 := R.out.lt
    obtain ⟨lb, cb⟩ := hb1.out
    refine wp_region_kin (by kernel_rfl) (by kernel_rfl) w1.heap.size 0 (by simp) (fun hk => ?_)
    repeat (go_big_quiet_step ((go_at_call 43; with_reducible exact Calls.kin (CM.out _))))
    refine wpQuiet_nil ?_
    clear hk
    intro W2 hb
    replace R := Lib.hid (R.out.next hb)
    replace BB := Lib.hid (Below.andThen BB.out hb)
    clear hb
    go_wp2_with fail
    go_ret
    exact ⟨rfl, BB.out⟩
abbrev fnC (f : FuncId) (lb : Array Value) : Value := .func (.func f) #[] lb
theorem choose_any (o : Option Addr) (n c : Nat) (f : FuncId) (lb : Array Value) (w : World) : Calls Tryd.prog 46 #[.slice o n c, fnC f lb] w fun e w' => e = .returned (fnC 69 #[ptV w.heap.size, ptV (w.heap.size + 1)]) ∧
    w' = (w.alloc (.cells #[.slice o n c] 77)).alloc (.cells #[fnC f lb] 85) := by
  go_enter Tryd.func46, Tryd.ntmps46
  go_wp2_with fail
  go_ret
  exact ⟨rfl, rfl⟩
end Bk
end Go.Proofs.YtnhlhoijajhcjaaDoor
