/- The fixed examples. -/
import Derived.Test.YtnhlhoijajhcjaaBkRK
import Derived.Test.YtnhlhoijajhcjaaBkRL
import Derived.Test.YtnhlhoijajhcjaaBkRH
set_option linter.unusedVariables false
set_option linter.unusedSimpArgs false
namespace Go.Proofs.Ytnhlhoijajhcjaa
open Go.RowKit
namespace Bk
open Sq
theorem post_is {acc cl : Int} {o : Option Addr} {N c : Nat} {l : List Po} {p : Po} {w : World} {B : Bo} (hx : postB acc l cl p = some B) (hN : N ≤ 2 ^ 30) (hd : inI p.day) (h : BkW w o N c l) :
    Calls Try.prog 9 #[bookV acc o N c cl, p.v] w fun e w' => (∃ o' c', e = .returned (.tuple #[bookV B.acc o' B.l.length c' B.cl, .int .i64 N, .int .i64 0]) ∧ BkW w' o' B.l.length c' B.l) ∧ Below w.heap.size w w' := by
  have q := Post_u acc cl o N c l p w hN hd h
  rw [hx] at q
  refine q.mono ?_
  rintro e w' ⟨⟨o', N', c', rfl, hw, -⟩, hb⟩
  have e : N' = B.l.length := hw.1.symm
  subst e
  exact ⟨⟨o', c', rfl, hw⟩, hb⟩
theorem post_no {acc cl : Int} {o : Option Addr} {N c : Nat} {l : List Po} {p : Po} {w : World} (hx : postB acc l cl p = none) (hN : N ≤ 2 ^ 30) (hd : inI p.day) (h : BkW w o N c l) :
    Calls Try.prog 9 #[bookV acc o N c cl, p.v] w fun e w' => (∃ o' N' c', e = .returned (.tuple #[bookV 0 o' N' c' 0, .int .i64 0, .int .i64 310])) ∧ Below w.heap.size w w' := by
  have q := Post_u acc cl o N c l p w hN hd h
  rw [hx] at q
  refine q.mono ?_
  rintro e w' ⟨⟨o', N', c', rfl, hw, -⟩, hb⟩
  exact ⟨⟨o', N', c', rfl⟩, hb⟩
theorem disp_is {acc cl i day amt : Int} {o : Option Addr} {N c : Nat} {l : List Po} {w : World} {B : Bo} (hx : dispB acc l cl i day amt = some B) (hN : N ≤ 2 ^ 29) (hd : inI day) (h : BkW w o N c l) :
    Calls Try.prog 15 #[bookV acc o N c cl, .int .i64 i, .int .i64 day, .int .i64 amt] w fun e w' => (∃ o' c', e = .returned (.tuple #[bookV B.acc o' B.l.length c' B.cl, .int .i64 0]) ∧ BkW w' o' B.l.length c' B.l) ∧ Below w.heap.size w w' := by
  have q := Dispute_u acc cl i day amt o N c l w hN hd h
  rw [hx] at q
  refine q.mono ?_
  rintro e w' ⟨⟨o', N', c', rfl, hw, -⟩, hb⟩
  have e : N' = B.l.length := hw.1.symm
  subst e
  exact ⟨⟨o', c', rfl, hw⟩, hb⟩
theorem disp_no {acc cl i day amt : Int} {o : Option Addr} {N c : Nat} {l : List Po} {w : World} (hx : dispB acc l cl i day amt = none) (hN : N ≤ 2 ^ 29) (hd : inI day) (h : BkW w o N c l) :
    Calls Try.prog 15 #[bookV acc o N c cl, .int .i64 i, .int .i64 day, .int .i64 amt] w fun e w' => (∃ o' N' c', e = .returned (.tuple #[bookV 0 o' N' c' 0, .int .i64 310])) ∧ Below w.heap.size w w' := by
  have q := Dispute_u acc cl i day amt o N c l w hN hd h
  rw [hx] at q
  refine q.mono ?_
  rintro e w' ⟨⟨o', N', c', rfl, hw, -⟩, hb⟩
  exact ⟨⟨o', N', c', rfl⟩, hb⟩
theorem close_is {acc cl m : Int} {o : Option Addr} {N c : Nat} {l : List Po} {w : World} {B : Bo} (hx : closeB acc l cl m = some B) (hN : N ≤ 2 ^ 30) (h : BkW w o N c l) :
    Calls Try.prog 17 #[bookV acc o N c cl, .int .i64 m] w fun e w' => (∃ o' c', e = .returned (.tuple #[bookV B.acc o' B.l.length c' B.cl, .int .i64 0]) ∧ BkW w' o' B.l.length c' B.l) ∧ Below w.heap.size w w' := by
  have q := Close_u acc cl m o N c l w hN h
  rw [hx] at q
  refine q.mono ?_
  rintro e w' ⟨⟨o', N', c', rfl, hw, -⟩, hb⟩
  have e : N' = B.l.length := hw.1.symm
  subst e
  exact ⟨⟨o', c', rfl, hw⟩, hb⟩
/-- a slice of numbers of one's own -/
def InW (w : World) (B0 : Nat) (o : Option Addr) (N c : Nat) (l : List Int) : Prop := l.length = N ∧ Sq.Own intE 3 w B0 (.slice o N c) l
theorem InW.next {w w' : World} {B0 : Nat} {o : Option Addr} {N c : Nat} {l : List Int} (h : InW w B0 o N c l) (hb : Below w.heap.size w w') : InW w' B0 o N c l := ⟨h.1, h.2.next hb⟩
theorem InW.cap {w : World} {B0 : Nat} {o : Option Addr} {N c : Nat} {l : List Int} (h : InW w B0 o N c l) : N ≤ c := by
  obtain ⟨o', c', e, h1, _⟩ := h.2.vw
  obtain ⟨-, h2, rfl⟩ := Value.slice.inj e
  omega
theorem stmt_is {acc cl m : Int} {o : Option Addr} {N c : Nat} {l : List Po} {w : World} {s : List Int} (hx : stB acc l cl m = some s) (hd : ∀ p ∈ l, inI p.day) (h : BkW w o N c l) :
    Calls Try.prog 19 #[bookV acc o N c cl, .int .i64 m] w fun e w' => (∃ o' c', e = .returned (.tuple #[.slice o' s.length c', .int .i64 0]) ∧ InW w' w.heap.size o' s.length c' s) ∧ Below w.heap.size w w' := by
  have q := Statement_u acc cl m o N c l w hd h
  rw [hx] at q
  refine q.mono ?_
  rintro e w' ⟨⟨o', N', c', rfl, hl, hO⟩, hb⟩
  have e : N' = s.length := hl.symm
  subst e
  exact ⟨⟨o', c', rfl, rfl, hO⟩, hb⟩
theorem owed_is {acc cl m : Int} {o : Option Addr} {N c : Nat} {l : List Po} {w : World} {s : List Int} (hx : owB acc l cl m = some s) (h : BkW w o N c l) :
    Calls Try.prog 24 #[bookV acc o N c cl, .int .i64 m] w fun e w' => (∃ o' c', e = .returned (.tuple #[.slice o' s.length c', .int .i64 0]) ∧ InW w' w.heap.size o' s.length c' s) ∧ Below w.heap.size w w' := by
  have q := Owed_u acc cl m o N c l w h
  rw [hx] at q
  refine q.mono ?_
  rintro e w' ⟨⟨o', N', c', rfl, hl, hO⟩, hb⟩
  have e : N' = s.length := hl.symm
  subst e
  exact ⟨⟨o', c', rfl, rfl, hO⟩, hb⟩
theorem Balance_u (acc cl a m : Int) (o : Option Addr) (N c : Nat) (l : List Po) (w : World) (hd : ∀ p ∈ l, inI p.day) (h : BkW w o N c l) :
    Calls Try.prog 21 #[bookV acc o N c cl, .int .i64 a, .int .i64 m] w fun e w' => e = .returned (if StP acc l cl m ∧ 0 ≤ a ∧ a < acc then .tuple #[.int .i64 (sT l m a.toNat), .int .i64 0] else errZ) ∧ Below w.heap.size w w' :=
  Balance_any acc cl a m o N c l w h.1 h.2.1 h.2.2.1 h.2.2.2.2 hd
theorem Valid_u (acc cl : Int) (o : Option Addr) (N c : Nat) (l : List Po) (w : World) (h : BkW w o N c l) :
    Calls Try.prog 11 #[bookV acc o N c cl] w fun e w' => e = .returned (.bool (vd acc l cl)) ∧ Below w.heap.size w w' := Valid_any acc cl o N c l w h.1 h.2.1 h.2.2.1 h.2.2.2.2
theorem ints_is {o : Option Addr} {B0 N c : Nat} {s : List Int} {w : World} (h : InW w B0 o N c s) (hN : N ≤ 1000) :
    Calls Try.prog 23 #[.slice o N c, .slice (some ⟨w.heap.size, 0, none⟩) N N] (w.alloc (.cells (s.flatMap intE.f).toArray 3)) fun e w' => e = .returned (.bool true) ∧ Below w.heap.size w w' := by
  have q := rInts_any o N c (some ⟨w.heap.size, 0, none⟩) N N s s (w.alloc (.cells (s.flatMap intE.f).toArray 3)) h.1 h.1 (by omega) h.cap (Nat.le_refl _) (h.2.sl.next ((Below.refl _ _).alloc (Nat.le_refl _) _)) (sl_new intE w _ s)
  rw [decide_eq_true rfl] at q
  exact q.mono fun _ _ hh => ⟨hh.1, Below.andThen ((Below.refl _ _).alloc (Nat.le_refl _) _) hh.2⟩
set_option maxRecDepth 100000 in
set_option maxHeartbeats 16000000 in
theorem sane_any (w : World) : Calls Try.prog 7 #[] w fun e w' => e = .returned (.bool true) ∧ Below w.heap.size w w' := by
  have BW0 := Lib.hid (bkw_zero w)
  have BB := Lib.hid (Below.refl w.heap.size w)
  have i1 : ∀ p ∈ ([⟨1, 5, 0, 1, 90, 7, -1⟩, ⟨2, 40, 1, 0, 90, 7, 0⟩, ⟨1, 40, 0, 1, 60, 7, -1⟩] : List Po), inI p.day := by
    intro p hp
    simp only [List.mem_cons, List.not_mem_nil, or_false] at hp
    rcases hp with rfl | rfl | rfl <;> exact ⟨by decide, by decide⟩
  have i2 : ∀ p ∈ ([⟨1, 5, 0, 1, 90, 7, -1⟩] : List Po), inI p.day := by
    intro p hp
    simp only [List.mem_cons, List.not_mem_nil, or_false] at hp
    rcases hp with rfl
    exact ⟨by decide, by decide⟩
  have C1 := Lib.hid (fun W (h : BkW W none 0 0 []) => (show Calls Try.prog 9 #[bookV 3 none 0 0 0, .agg #[.int .i64 1, .int .i64 5, .int .i64 0, .int .i64 1, .int .i64 90, .int .i64 7, .int .i64 (-1)]] W fun e w' => (∃ o' c', e = .returned (.tuple #[bookV 3 o' 1 c' 0, .int .i64 0, .int .i64 0]) ∧ BkW w' o' 1 c' [⟨1, 5, 0, 1, 90, 7, -1⟩]) ∧ Below W.heap.size W w' from post_is (p := ⟨1, 5, 0, 1, 90, 7, -1⟩) (B := ⟨3, [⟨1, 5, 0, 1, 90, 7, -1⟩], 0⟩) (by kernel_rfl) (by decide) ⟨by decide, by decide⟩ h))
  have C2 := Lib.hid (fun W o c (h : BkW W o 1 c [⟨1, 5, 0, 1, 90, 7, -1⟩]) => (show Calls Try.prog 19 #[bookV 3 o 1 c 0, .int .i64 0] W fun e w' => (∃ o' c', e = .returned (.tuple #[.slice o' 3 c', .int .i64 0]) ∧ InW w' W.heap.size o' 3 c' [-90, 90, 0]) ∧ Below W.heap.size W w' from stmt_is (s := [-90, 90, 0]) (by kernel_rfl) i2 h))
  have C3 := Lib.hid (fun W o c (h : BkW W o 1 c [⟨1, 5, 0, 1, 90, 7, -1⟩]) => (show Calls Try.prog 15 #[bookV 3 o 1 c 0, .int .i64 0, .int .i64 40, .int .i64 60] W fun e w' => (∃ o' c', e = .returned (.tuple #[bookV 3 o' 3 c' 0, .int .i64 0]) ∧ BkW w' o' 3 c' [⟨1, 5, 0, 1, 90, 7, -1⟩, ⟨2, 40, 1, 0, 90, 7, 0⟩, ⟨1, 40, 0, 1, 60, 7, -1⟩]) ∧ Below W.heap.size W w' from disp_is (B := ⟨3, [⟨1, 5, 0, 1, 90, 7, -1⟩, ⟨2, 40, 1, 0, 90, 7, 0⟩, ⟨1, 40, 0, 1, 60, 7, -1⟩], 0⟩) (by kernel_rfl) (by decide) ⟨by decide, by decide⟩ h))
  have C4 := Lib.hid (fun W o c (h : BkW W o 3 c [⟨1, 5, 0, 1, 90, 7, -1⟩, ⟨2, 40, 1, 0, 90, 7, 0⟩, ⟨1, 40, 0, 1, 60, 7, -1⟩]) => (show Calls Try.prog 19 #[bookV 3 o 3 c 0, .int .i64 0] W fun e w' => (∃ o' c', e = .returned (.tuple #[.slice o' 3 c', .int .i64 0]) ∧ InW w' W.heap.size o' 3 c' [-90, 90, 0]) ∧ Below W.heap.size W w' from stmt_is (s := [-90, 90, 0]) (by kernel_rfl) i1 h))
  have C5 := Lib.hid (fun W o c (h : BkW W o 3 c [⟨1, 5, 0, 1, 90, 7, -1⟩, ⟨2, 40, 1, 0, 90, 7, 0⟩, ⟨1, 40, 0, 1, 60, 7, -1⟩]) => (show Calls Try.prog 19 #[bookV 3 o 3 c 0, .int .i64 1] W fun e w' => (∃ o' c', e = .returned (.tuple #[.slice o' 3 c', .int .i64 0]) ∧ InW w' W.heap.size o' 3 c' [30, -30, 0]) ∧ Below W.heap.size W w' from stmt_is (s := [30, -30, 0]) (by kernel_rfl) i1 h))
  have C6 := Lib.hid (fun W o c (h : BkW W o 3 c [⟨1, 5, 0, 1, 90, 7, -1⟩, ⟨2, 40, 1, 0, 90, 7, 0⟩, ⟨1, 40, 0, 1, 60, 7, -1⟩]) => (show Calls Try.prog 24 #[bookV 3 o 3 c 0, .int .i64 7] W fun e w' => (∃ o' c', e = .returned (.tuple #[.slice o' 3 c', .int .i64 0]) ∧ InW w' W.heap.size o' 3 c' [-60, 60, 0]) ∧ Below W.heap.size W w' from owed_is (s := [-60, 60, 0]) (by kernel_rfl) h))
  have C7 := Lib.hid (fun W o c (h : BkW W o 3 c [⟨1, 5, 0, 1, 90, 7, -1⟩, ⟨2, 40, 1, 0, 90, 7, 0⟩, ⟨1, 40, 0, 1, 60, 7, -1⟩]) => (show Calls Try.prog 15 #[bookV 3 o 3 c 0, .int .i64 0, .int .i64 50, .int .i64 1] W fun e w' => (∃ o' N' c', e = .returned (.tuple #[bookV 0 o' N' c' 0, .int .i64 310])) ∧ Below W.heap.size W w' from disp_no (by kernel_rfl) (by decide) ⟨by decide, by decide⟩ h))
  have C8 := Lib.hid (fun W o c (h : BkW W o 3 c [⟨1, 5, 0, 1, 90, 7, -1⟩, ⟨2, 40, 1, 0, 90, 7, 0⟩, ⟨1, 40, 0, 1, 60, 7, -1⟩]) => (show Calls Try.prog 9 #[bookV 3 o 3 c 0, .agg #[.int .i64 1, .int .i64 39, .int .i64 0, .int .i64 1, .int .i64 1, .int .i64 0, .int .i64 (-1)]] W fun e w' => (∃ o' N' c', e = .returned (.tuple #[bookV 0 o' N' c' 0, .int .i64 0, .int .i64 310])) ∧ Below W.heap.size W w' from post_no (p := ⟨1, 39, 0, 1, 1, 0, -1⟩) (by kernel_rfl) (by decide) ⟨by decide, by decide⟩ h))
  have C9 := Lib.hid (fun W o c (h : BkW W o 3 c [⟨1, 5, 0, 1, 90, 7, -1⟩, ⟨2, 40, 1, 0, 90, 7, 0⟩, ⟨1, 40, 0, 1, 60, 7, -1⟩]) => (show Calls Try.prog 17 #[bookV 3 o 3 c 0, .int .i64 0] W fun e w' => (∃ o' c', e = .returned (.tuple #[bookV 3 o' 3 c' 1, .int .i64 0]) ∧ BkW w' o' 3 c' [⟨1, 5, 0, 1, 90, 7, -1⟩, ⟨2, 40, 1, 0, 90, 7, 0⟩, ⟨1, 40, 0, 1, 60, 7, -1⟩]) ∧ Below W.heap.size W w' from close_is (B := ⟨3, [⟨1, 5, 0, 1, 90, 7, -1⟩, ⟨2, 40, 1, 0, 90, 7, 0⟩, ⟨1, 40, 0, 1, 60, 7, -1⟩], 1⟩) (by kernel_rfl) (by decide) h))
  have C10 := Lib.hid (fun W o c (h : BkW W o 3 c [⟨1, 5, 0, 1, 90, 7, -1⟩, ⟨2, 40, 1, 0, 90, 7, 0⟩, ⟨1, 40, 0, 1, 60, 7, -1⟩]) => (show Calls Try.prog 21 #[bookV 3 o 3 c 0, .int .i64 1, .int .i64 1] W fun e w' => e = .returned (.tuple #[.int .i64 (-30), .int .i64 0]) ∧ Below W.heap.size W w' from by
    have q := Balance_u 3 0 1 1 o 3 c [⟨1, 5, 0, 1, 90, 7, -1⟩, ⟨2, 40, 1, 0, 90, 7, 0⟩, ⟨1, 40, 0, 1, 60, 7, -1⟩] W i1 h
    rw [if_pos (show StP 3 [⟨1, 5, 0, 1, 90, 7, -1⟩, ⟨2, 40, 1, 0, 90, 7, 0⟩, ⟨1, 40, 0, 1, 60, 7, -1⟩] 0 1 ∧ (0 : Int) ≤ 1 ∧ (1 : Int) < 3 from ⟨⟨by kernel_rfl, by decide, by decide⟩, by decide, by decide⟩), show sT [⟨1, 5, 0, 1, 90, 7, -1⟩, ⟨2, 40, 1, 0, 90, 7, 0⟩, ⟨1, 40, 0, 1, 60, 7, -1⟩] 1 (1 : Int).toNat = -30 from by kernel_rfl] at q
    exact q))
  have C11 := Lib.hid (fun W o c (h : BkW W o 3 c [⟨1, 5, 0, 1, 90, 7, -1⟩, ⟨2, 40, 1, 0, 90, 7, 0⟩, ⟨1, 40, 0, 1, 60, 7, -1⟩]) => (show Calls Try.prog 11 #[bookV 3 o 3 c 1] W fun e w' => e = .returned (.bool true) ∧ Below W.heap.size W w' from by
    have q := Valid_u 3 1 o 3 c [⟨1, 5, 0, 1, 90, 7, -1⟩, ⟨2, 40, 1, 0, 90, 7, 0⟩, ⟨1, 40, 0, 1, 60, 7, -1⟩] W h
    rw [show vd 3 [⟨1, 5, 0, 1, 90, 7, -1⟩, ⟨2, 40, 1, 0, 90, 7, 0⟩, ⟨1, 40, 0, 1, 60, 7, -1⟩] 1 = true from by kernel_rfl] at q
    exact q))
  have C12 := Lib.hid (fun W => (show Calls Try.prog 11 #[bookV 0 none 0 0 0] W fun e w' => e = .returned (.bool false) ∧ Below W.heap.size W w' from by
    have q := Valid_u 0 0 none 0 0 [] W (bkw_zero W)
    rw [show vd 0 [] 0 = false from by kernel_rfl] at q
    exact q))
  clear i1 i2
  go_enter Try.func7, Try.ntmps7
  go_wp2_with fail
  with_reducible refine Calls.mono (C1.out _ BW0.out) ?_
  rintro e wn ⟨⟨o1, c1, rfl, hw⟩, hb⟩
  replace BB := Lib.hid (Below.andThen BB.out hb)
  have B1 := Lib.hid hw
  clear hw
  clear hb
  go_upto_region 2 with (fail)
  refine wp_named fun wb hq => ?_
  obtain ⟨bRB, eRB⟩ : ∃ b, b = wn.heap.size := ⟨_, rfl⟩
  have RB := Lib.hid (show Row wb bRB 24 [.int .i64 3, .slice o1 1 c1, .int .i64 0] from by rw [hq, eRB]; exact Row.new wn _ _)
  have hb : Below wn.heap.size wn wb := by rw [hq]; (repeat' first | exact Below.refl _ _ | assumption | (refine below_drewN ?_ _) | (refine Below.drew ?_) | (refine Below.alloc ?_ ?_ _) | (refine Below.setCell ?_ ?_ _) | (simp; done) | (simp; omega) | omega)
  replace B1 := Lib.hid (B1.out.next hb)
  replace BB := Lib.hid (Below.andThen BB.out hb)
  rw [← eRB]
  clear hq hb eRB
  have a0 := RB.out.cell 0
  have a1 := RB.out.cell 1
  have a2 := RB.out.cell 2
  have la := RB.out.lt
  simp only [List.getElem?_cons_zero, List.getElem?_cons_succ] at a0 a1 a2
  go_wp2_with fail
  with_reducible refine Calls.mono (C2.out _ _ _ B1.out) ?_
  rintro e wn ⟨⟨os, cs, rfl, hw⟩, hb⟩
  replace B1 := Lib.hid (B1.out.next hb)
  replace RB := Lib.hid (RB.out.next hb)
  replace BB := Lib.hid (Below.andThen BB.out hb)
  have S1 := Lib.hid hw
  clear hw
  clear hb
  clear a0 a1 a2 la
  have a0 := RB.out.cell 0
  have a1 := RB.out.cell 1
  have a2 := RB.out.cell 2
  have la := RB.out.lt
  simp only [List.getElem?_cons_zero, List.getElem?_cons_succ] at a0 a1 a2
  go_wp2_with fail
  with_reducible refine Calls.mono (C3.out _ _ _ B1.out) ?_
  rintro e wn ⟨⟨o3, c3, rfl, hw⟩, hb⟩
  replace S1 := Lib.hid (S1.out.next hb)
  replace BB := Lib.hid (Below.andThen BB.out hb)
  have B3 := Lib.hid hw
  clear hw
  clear hb
  clear a0 a1 a2 la
  clear RB B1 BW0 C1 C2 C3
  go_upto_region 4 with (fail)
  refine wp_named fun wb hq => ?_
  obtain ⟨bRC, eRC⟩ : ∃ b, b = wn.heap.size := ⟨_, rfl⟩
  have RC := Lib.hid (show Row wb bRC 24 [.int .i64 3, .slice o3 3 c3, .int .i64 0] from by rw [hq, eRC]; exact Row.new wn _ _)
  have hb : Below wn.heap.size wn wb := by rw [hq]; (repeat' first | exact Below.refl _ _ | assumption | (refine below_drewN ?_ _) | (refine Below.drew ?_) | (refine Below.alloc ?_ ?_ _) | (refine Below.setCell ?_ ?_ _) | (simp; done) | (simp; omega) | omega)
  replace S1 := Lib.hid (S1.out.next hb)
  replace B3 := Lib.hid (B3.out.next hb)
  replace BB := Lib.hid (Below.andThen BB.out hb)
  rw [← eRC]
  clear hq hb eRC
  have a0 := RC.out.cell 0
  have a1 := RC.out.cell 1
  have a2 := RC.out.cell 2
  have la := RC.out.lt
  simp only [List.getElem?_cons_zero, List.getElem?_cons_succ] at a0 a1 a2
  go_wp2_with fail
  with_reducible refine Calls.mono (C4.out _ _ _ B3.out) ?_
  rintro e wn ⟨⟨ox0, cx0, rfl, hw⟩, hb⟩
  replace S1 := Lib.hid (S1.out.next hb)
  replace B3 := Lib.hid (B3.out.next hb)
  replace RC := Lib.hid (RC.out.next hb)
  replace BB := Lib.hid (Below.andThen BB.out hb)
  have S2 := Lib.hid hw
  clear hw
  clear hb
  clear a0 a1 a2 la
  have a0 := RC.out.cell 0
  have a1 := RC.out.cell 1
  have a2 := RC.out.cell 2
  have la := RC.out.lt
  simp only [List.getElem?_cons_zero, List.getElem?_cons_succ] at a0 a1 a2
  go_wp2_with fail
  with_reducible refine Calls.mono (C5.out _ _ _ B3.out) ?_
  rintro e wn ⟨⟨ox1, cx1, rfl, hw⟩, hb⟩
  replace S1 := Lib.hid (S1.out.next hb)
  replace S2 := Lib.hid (S2.out.next hb)
  replace B3 := Lib.hid (B3.out.next hb)
  replace RC := Lib.hid (RC.out.next hb)
  replace BB := Lib.hid (Below.andThen BB.out hb)
  have S3 := Lib.hid hw
  clear hw
  clear hb
  clear a0 a1 a2 la
  have a0 := RC.out.cell 0
  have a1 := RC.out.cell 1
  have a2 := RC.out.cell 2
  have la := RC.out.lt
  simp only [List.getElem?_cons_zero, List.getElem?_cons_succ] at a0 a1 a2
  go_wp2_with fail
  with_reducible refine Calls.mono (C6.out _ _ _ B3.out) ?_
  rintro e wn ⟨⟨ox2, cx2, rfl, hw⟩, hb⟩
  replace S1 := Lib.hid (S1.out.next hb)
  replace S2 := Lib.hid (S2.out.next hb)
  replace S3 := Lib.hid (S3.out.next hb)
  replace B3 := Lib.hid (B3.out.next hb)
  replace RC := Lib.hid (RC.out.next hb)
  replace BB := Lib.hid (Below.andThen BB.out hb)
  have S4 := Lib.hid hw
  clear hw
  clear hb
  clear a0 a1 a2 la
  clear C4 C5 C6
  have a0 := RC.out.cell 0
  have a1 := RC.out.cell 1
  have a2 := RC.out.cell 2
  have la := RC.out.lt
  simp only [List.getElem?_cons_zero, List.getElem?_cons_succ] at a0 a1 a2
  go_wp2_with fail
  with_reducible refine Calls.mono (C7.out _ _ _ B3.out) ?_
  rintro e wn ⟨⟨o7, N7, c7, rfl⟩, hb⟩
  replace S1 := Lib.hid (S1.out.next hb)
  replace S2 := Lib.hid (S2.out.next hb)
  replace S3 := Lib.hid (S3.out.next hb)
  replace S4 := Lib.hid (S4.out.next hb)
  replace B3 := Lib.hid (B3.out.next hb)
  replace RC := Lib.hid (RC.out.next hb)
  replace BB := Lib.hid (Below.andThen BB.out hb)
  clear hb
  clear a0 a1 a2 la
  go_upto_region 8 with (fail)
  refine wp_named fun wb hq => ?_
  obtain ⟨bRX, eRX⟩ : ∃ b, b = wn.heap.size := ⟨_, rfl⟩
  have RX := Lib.hid (show Row wb bRX 24 [.int .i64 0, .slice o7 N7 c7, .int .i64 0] from by rw [hq, eRX]; exact Row.new wn _ _)
  have hb : Below wn.heap.size wn wb := by rw [hq]; (repeat' first | exact Below.refl _ _ | assumption | (refine below_drewN ?_ _) | (refine Below.drew ?_) | (refine Below.alloc ?_ ?_ _) | (refine Below.setCell ?_ ?_ _) | (simp; done) | (simp; omega) | omega)
  replace S1 := Lib.hid (S1.out.next hb)
  replace S2 := Lib.hid (S2.out.next hb)
  replace S3 := Lib.hid (S3.out.next hb)
  replace S4 := Lib.hid (S4.out.next hb)
  replace B3 := Lib.hid (B3.out.next hb)
  replace RC := Lib.hid (RC.out.next hb)
  replace BB := Lib.hid (Below.andThen BB.out hb)
  rw [← eRX]
  clear hq hb eRX
  have a0 := RC.out.cell 0
  have a1 := RC.out.cell 1
  have a2 := RC.out.cell 2
  have la := RC.out.lt
  simp only [List.getElem?_cons_zero, List.getElem?_cons_succ] at a0 a1 a2
  go_wp2_with fail
  with_reducible refine Calls.mono (C8.out _ _ _ B3.out) ?_
  rintro e wn ⟨⟨o8, N8, c8, rfl⟩, hb⟩
  replace S1 := Lib.hid (S1.out.next hb)
  replace S2 := Lib.hid (S2.out.next hb)
  replace S3 := Lib.hid (S3.out.next hb)
  replace S4 := Lib.hid (S4.out.next hb)
  replace B3 := Lib.hid (B3.out.next hb)
  replace RC := Lib.hid (RC.out.next hb)
  replace BB := Lib.hid (Below.andThen BB.out hb)
  clear hb
  clear a0 a1 a2 la
  clear RX
  go_upto_region 9 with (fail)
  refine wp_named fun wb hq => ?_
  obtain ⟨bRX, eRX⟩ : ∃ b, b = wn.heap.size := ⟨_, rfl⟩
  have RX := Lib.hid (show Row wb bRX 24 [.int .i64 0, .slice o8 N8 c8, .int .i64 0] from by rw [hq, eRX]; exact Row.new wn _ _)
  have hb : Below wn.heap.size wn wb := by rw [hq]; (repeat' first | exact Below.refl _ _ | assumption | (refine below_drewN ?_ _) | (refine Below.drew ?_) | (refine Below.alloc ?_ ?_ _) | (refine Below.setCell ?_ ?_ _) | (simp; done) | (simp; omega) | omega)
  replace S1 := Lib.hid (S1.out.next hb)
  replace S2 := Lib.hid (S2.out.next hb)
  replace S3 := Lib.hid (S3.out.next hb)
  replace S4 := Lib.hid (S4.out.next hb)
  replace B3 := Lib.hid (B3.out.next hb)
  replace RC := Lib.hid (RC.out.next hb)
  replace BB := Lib.hid (Below.andThen BB.out hb)
  rw [← eRX]
  clear hq hb eRX
  have a0 := RC.out.cell 0
  have a1 := RC.out.cell 1
  have a2 := RC.out.cell 2
  have la := RC.out.lt
  simp only [List.getElem?_cons_zero, List.getElem?_cons_succ] at a0 a1 a2
  go_wp2_with fail
  with_reducible refine Calls.mono (C9.out _ _ _ B3.out) ?_
  rintro e wn ⟨⟨o9, c9, rfl, hw⟩, hb⟩
  replace S1 := Lib.hid (S1.out.next hb)
  replace S2 := Lib.hid (S2.out.next hb)
  replace S3 := Lib.hid (S3.out.next hb)
  replace S4 := Lib.hid (S4.out.next hb)
  replace B3 := Lib.hid (B3.out.next hb)
  replace RC := Lib.hid (RC.out.next hb)
  replace BB := Lib.hid (Below.andThen BB.out hb)
  have B9 := Lib.hid hw
  clear hw
  clear hb
  clear a0 a1 a2 la
  clear RX
  go_upto_region 10 with (fail)
  refine wp_named fun wb hq => ?_
  obtain ⟨bRD, eRD⟩ : ∃ b, b = wn.heap.size := ⟨_, rfl⟩
  have RD := Lib.hid (show Row wb bRD 24 [.int .i64 3, .slice o9 3 c9, .int .i64 1] from by rw [hq, eRD]; exact Row.new wn _ _)
  have hb : Below wn.heap.size wn wb := by rw [hq]; (repeat' first | exact Below.refl _ _ | assumption | (refine below_drewN ?_ _) | (refine Below.drew ?_) | (refine Below.alloc ?_ ?_ _) | (refine Below.setCell ?_ ?_ _) | (simp; done) | (simp; omega) | omega)
  replace S1 := Lib.hid (S1.out.next hb)
  replace S2 := Lib.hid (S2.out.next hb)
  replace S3 := Lib.hid (S3.out.next hb)
  replace S4 := Lib.hid (S4.out.next hb)
  replace B3 := Lib.hid (B3.out.next hb)
  replace RC := Lib.hid (RC.out.next hb)
  replace B9 := Lib.hid (B9.out.next hb)
  replace BB := Lib.hid (Below.andThen BB.out hb)
  rw [← eRD]
  clear hq hb eRD
  have a0 := RC.out.cell 0
  have a1 := RC.out.cell 1
  have a2 := RC.out.cell 2
  have la := RC.out.lt
  simp only [List.getElem?_cons_zero, List.getElem?_cons_succ] at a0 a1 a2
  go_wp2_with fail
  with_reducible refine Calls.mono (C10.out _ _ _ B3.out) ?_
  rintro e wn ⟨rfl, hb⟩
  replace S1 := Lib.hid (S1.out.next hb)
  replace S2 := Lib.hid (S2.out.next hb)
  replace S3 := Lib.hid (S3.out.next hb)
  replace S4 := Lib.hid (S4.out.next hb)
  replace B3 := Lib.hid (B3.out.next hb)
  replace RC := Lib.hid (RC.out.next hb)
  replace B9 := Lib.hid (B9.out.next hb)
  replace RD := Lib.hid (RD.out.next hb)
  replace BB := Lib.hid (Below.andThen BB.out hb)
  clear hb
  clear a0 a1 a2 la
  clear C7 C8 C9 C10
  have a0 := RC.out.cell 0
  have a1 := RC.out.cell 1
  have a2 := RC.out.cell 2
  have la := RC.out.lt
  simp only [List.getElem?_cons_zero, List.getElem?_cons_succ] at a0 a1 a2
  go_wp2_with fail
  have CI0 := Lib.hid (show Calls Try.prog 23 #[.slice _ 3 _, .slice (some ⟨wn.heap.size, 0, none⟩) 3 3] (wn.alloc (.cells #[.int .i64 (-90), .int .i64 (90), .int .i64 (0)] 3)) _ from ints_is S1.out (by decide))
  with_reducible refine Calls.mono (CI0.out) ?_
  rintro e wn ⟨rfl, hb⟩
  replace S2 := Lib.hid (S2.out.next hb)
  replace S3 := Lib.hid (S3.out.next hb)
  replace S4 := Lib.hid (S4.out.next hb)
  replace B3 := Lib.hid (B3.out.next hb)
  replace RC := Lib.hid (RC.out.next hb)
  replace B9 := Lib.hid (B9.out.next hb)
  replace RD := Lib.hid (RD.out.next hb)
  replace BB := Lib.hid (Below.andThen BB.out hb)
  clear hb
  clear a0 a1 a2 la
  go_wp2_with fail
  have CI1 := Lib.hid (show Calls Try.prog 23 #[.slice _ 3 _, .slice (some ⟨wn.heap.size, 0, none⟩) 3 3] (wn.alloc (.cells #[.int .i64 (-90), .int .i64 (90), .int .i64 (0)] 3)) _ from ints_is S2.out (by decide))
  with_reducible refine Calls.mono (CI1.out) ?_
  rintro e wn ⟨rfl, hb⟩
  replace S3 := Lib.hid (S3.out.next hb)
  replace S4 := Lib.hid (S4.out.next hb)
  replace B3 := Lib.hid (B3.out.next hb)
  replace RC := Lib.hid (RC.out.next hb)
  replace B9 := Lib.hid (B9.out.next hb)
  replace RD := Lib.hid (RD.out.next hb)
  replace BB := Lib.hid (Below.andThen BB.out hb)
  clear hb
  go_wp2_with fail
  have CI2 := Lib.hid (show Calls Try.prog 23 #[.slice _ 3 _, .slice (some ⟨wn.heap.size, 0, none⟩) 3 3] (wn.alloc (.cells #[.int .i64 (30), .int .i64 (-30), .int .i64 (0)] 3)) _ from ints_is S3.out (by decide))
  with_reducible refine Calls.mono (CI2.out) ?_
  rintro e wn ⟨rfl, hb⟩
  replace S4 := Lib.hid (S4.out.next hb)
  replace B3 := Lib.hid (B3.out.next hb)
  replace RC := Lib.hid (RC.out.next hb)
  replace B9 := Lib.hid (B9.out.next hb)
  replace RD := Lib.hid (RD.out.next hb)
  replace BB := Lib.hid (Below.andThen BB.out hb)
  clear hb
  go_wp2_with fail
  have CI3 := Lib.hid (show Calls Try.prog 23 #[.slice _ 3 _, .slice (some ⟨wn.heap.size, 0, none⟩) 3 3] (wn.alloc (.cells #[.int .i64 (-60), .int .i64 (60), .int .i64 (0)] 3)) _ from ints_is S4.out (by decide))
  with_reducible refine Calls.mono (CI3.out) ?_
  rintro e wn ⟨rfl, hb⟩
  replace B3 := Lib.hid (B3.out.next hb)
  replace RC := Lib.hid (RC.out.next hb)
  replace B9 := Lib.hid (B9.out.next hb)
  replace RD := Lib.hid (RD.out.next hb)
  replace BB := Lib.hid (Below.andThen BB.out hb)
  clear hb
  have a0 := RD.out.cell 0
  have a1 := RD.out.cell 1
  have a2 := RD.out.cell 2
  have la := RD.out.lt
  simp only [List.getElem?_cons_zero, List.getElem?_cons_succ] at a0 a1 a2
  go_wp2_with fail
  with_reducible refine Calls.mono (C11.out _ _ _ B9.out) ?_
  rintro e wn ⟨rfl, hb⟩
  replace B3 := Lib.hid (B3.out.next hb)
  replace RC := Lib.hid (RC.out.next hb)
  replace BB := Lib.hid (Below.andThen BB.out hb)
  clear hb
  clear a0 a1 a2 la
  go_wp2_with fail
  with_reducible refine Calls.mono (C12.out _) ?_
  rintro e wn ⟨rfl, hb⟩
  replace B3 := Lib.hid (B3.out.next hb)
  replace RC := Lib.hid (RC.out.next hb)
  replace BB := Lib.hid (Below.andThen BB.out hb)
  clear hb
  obtain ⟨bz, oz, ez, -, -⟩ := B3.out.2.2.2.2.cells (by decide)
  subst ez
  obtain ⟨lz, z0, z1, z2, z3, z4, z5, z6⟩ := sl_at B3.out.2.2.2.2 (k := 1) (by decide)
  simp only [at', List.getD_cons_succ, List.getD_cons_zero] at z0 z1 z2 z3 z4 z5 z6
  have a0 := RC.out.cell 0
  have a1 := RC.out.cell 1
  have a2 := RC.out.cell 2
  have la := RC.out.lt
  simp only [List.getElem?_cons_zero, List.getElem?_cons_succ] at a0 a1 a2
  go_wp2_with fail
  go_ret
  exact ⟨rfl, BB.out⟩
end Bk
end Go.Proofs.Ytnhlhoijajhcjaa
