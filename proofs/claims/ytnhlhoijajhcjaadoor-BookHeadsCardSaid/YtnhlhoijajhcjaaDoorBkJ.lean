/- Clone; a ledger in memory: what it shows as a book, and what it ends with. -/
import Derived.Test.YtnhlhoijajhcjaaDoorBkI
set_option linter.unusedVariables false
set_option linter.unusedSimpArgs false
set_option linter.unnecessarySimpa false
namespace Go.Proofs.YtnhlhoijajhcjaaDoor
open Go.RowKit
namespace Bk
open Sq
theorem grown_below {w W w1 : World} {o : Obj} {v : Value} (hB : Below w.heap.size w W) (hg : (W.alloc o).grownBy w1 v.ownBlock) (hob : ∀ j, v.ownBlock = some j → w.heap.size ≤ j) : Below w.heap.size w w1 :=
  (hB.alloc hB.size _).grown hg (by have := hB.size; simp; omega) hob
set_option maxRecDepth 100000 in
set_option maxHeartbeats 4000000 in
theorem tyP : Ty poE 22 27 := ty_mk (z := p0.v) (b := 56) Tryd.underlying22 (by kernel_rfl) (by decide) rfl
theorem tyE : Ty poE 77 27 := ty_mk (z := p0.v) (b := 56) Tryd.underlying77 (by kernel_rfl) (by decide) rfl
theorem clone_any (o : Option Addr) (n c : Nat) (l : List Po) (w : World) (hl : l.length = n) (hn : n ≤ 2 ^ 35) (hnil : o = none → c = 0) (hS : Sl poE w o l) :
    Calls Tryd.prog 67 #[.slice o n c] w fun e w' => ∃ v, e = .returned v ∧ Sq.Own poE 27 w' w.heap.size v l ∧ Below w.heap.size w w' := by
  cases o with
  | none =>
    obtain rfl := hnil rfl
    have e : l = [] := by
      rcases hS with h | ⟨_, _, h, _⟩
      · exact h
      · cases h
    subst e
    obtain rfl : n = 0 := hl.symm
    have he : ∀ w : World, (binOp .eql 22 (.slice none 0 0) (.slice none 0 0)).run Tryd.prog w = .ok (.bool true) w := fun _ => by kernel_rfl
    go_enter Tryd.func67, Tryd.ntmps67
    go_wp2_with fail
    go_ret
    exact ⟨_, rfl, own_nil _ _ _, Below.refl _ _⟩
  | some a =>
    have SL := Lib.hid hS
    clear hS hnil
    have he : ∀ w : World, (binOp .eql 22 (.slice (some a) n c) (.slice none 0 0)).run Tryd.prog w = .ok (.bool false) w := fun _ => by kernel_rfl
    go_enter Tryd.func67, Tryd.ntmps67
    go_wp2_with (at_builtin; refine wpList_append tyP rfl _ _ rfl w.heap.size (.slice (some ⟨w.heap.size, 0, none⟩) 0 0) [] rfl (made_own poE 27 w [] (Nat.le_refl _) rfl rfl (by decide)) (some a) n c l rfl hl (fun h => by cases h) (SL.out.next ((Below.refl _ _).alloc (Nat.le_refl _) _)) (by simp; omega) (by simp) ?_; intro v' w' ho hg; have HO := Lib.hid (And.intro ho (grown_below (Below.refl w.heap.size w) hg (made_own poE 27 w [] (Nat.le_refl _) rfl rfl (by decide)).block)); clear ho hg)
    go_ret
    exact ⟨_, rfl, HO.out.1, HO.out.2⟩
/-- a ledger -/
structure Led (w : World) (B0 bk : Nat) (o : Option Addr) (c : Nat) (acc cl : Int) (fl : Bool) (l : List Po) : Prop where
  row : Row w bk 79 [.slice o l.length c, .int .i64 acc, .int .i64 cl, .bool fl]
  own : Sq.Own poE 27 w B0 (.slice o l.length c) l
  le : B0 ≤ bk
theorem Led.next {w w' : World} {B0 bk : Nat} {o : Option Addr} {c : Nat} {acc cl : Int} {fl : Bool} {l : List Po} (h : Led w B0 bk o c acc cl fl l) (hb : Below w.heap.size w w') : Led w' B0 bk o c acc cl fl l :=
  ⟨h.row.next hb, h.own.next hb, h.le⟩
set_option maxRecDepth 100000 in
theorem book_any (bk n : Nat) (o : Option Addr) (c : Nat) (acc cl : Int) (fl : Bool) (w : World) (hr : Row w bk 79 [.slice o n c, .int .i64 acc, .int .i64 cl, .bool fl]) :
    Calls Tryd.prog 68 #[ptV bk] w fun e w' => e = .returned (bookV acc o n c cl) ∧ Below w.heap.size w w' := by
  have HR := Lib.hid hr
  clear hr
  go_enter Tryd.func68, Tryd.ntmps68
  go_upto_region 1 with (fail)
  refine wp_named fun w1 hq => ?_
  obtain ⟨b2, e2⟩ : ∃ b, b = w.heap.size := ⟨_, rfl⟩
  have R2 := Lib.hid (show Row w1 b2 24 [.int .i64 0, .slice none 0 0, .int .i64 0] from by rw [hq, e2]; exact Row.new w _ _)
  have BB := Lib.hid (show Below w.heap.size w w1 from by rw [hq]; (repeat' first | exact Below.refl _ _ | assumption | (refine below_drewN ?_ _) | (refine Below.drew ?_) | (refine Below.alloc ?_ ?_ _) | (refine Below.setCell ?_ ?_ _) | (simp; done) | (simp; omega) | omega))
  replace HR := Lib.hid (HR.out.next BB.out)
  have HS := Lib.hid (show w.heap.size ≤ b2 by omega)
  rw [← e2]
  clear hq e2
  have c0 := HR.out.cell 0
  have c1 := HR.out.cell 1
  have c2 := HR.out.cell 2
  simp only [List.getElem?_cons_zero, List.getElem?_cons_succ] at c0 c1 c2
  have lk := HR.out.lt
  refine wp_region_kin_tail 13 (by kernel_rfl) (by kernel_rfl) w1.heap.size 0 (by simp) (fun hk => ?_)
  simp only [List.take_succ_cons, List.take_zero, List.drop_succ_cons, List.drop_zero]
  repeat (go_big_quiet_step (fail))
  refine wpQuiet_nil ?_
  clear hk c0 c1 c2 lk
  intro W2 hb
  replace R2 := Lib.hid (R2.out.next hb)
  replace BB := Lib.hid (Below.andThen BB.out hb)
  clear hb HR
  have q0 := R2.out.cell 0
  have q1 := R2.out.cell 1
  have q2 := R2.out.cell 2
  simp only [List.getElem?_cons_zero, List.getElem?_cons_succ] at q0 q1 q2
  have f0 := R2.out.frozen 0
  have f1 := R2.out.frozen 1
  have f2 := R2.out.frozen 2
  have l2 := R2.out.lt
  go_wp2_with fail
  have RX := ((R2.out.set 0 (.int .i64 acc)).set 1 (.slice o n c)).set 2 (.int .i64 cl)
  have x0 := RX.cell 0
  have x1 := RX.cell 1
  have x2 := RX.cell 2
  simp only [List.set_cons_zero, List.set_cons_succ, List.getElem?_cons_zero, List.getElem?_cons_succ] at x0 x1 x2
  clear q0 q1 q2
  refine bodyPost_ret (v := .agg #[.int .i64 acc, .slice o n c, .int .i64 cl]) (by first | (simp [results, Tryd.results68, go_sem]; done) | simp [results, Tryd.results68, go_sem, *]) rfl ⟨rfl, ((BB.out.setCell (p := ⟨b2, 0, none⟩) HS.out _).setCell (p := ⟨b2, 1, none⟩) HS.out _).setCell (p := ⟨b2, 2, none⟩) HS.out _⟩
end Bk
end Go.Proofs.YtnhlhoijajhcjaaDoor
