/- the reference's Moment: what lies in memory. -/
import Derived.Test.YthjolojpjajppaaGreatLbMC
set_option linter.unusedVariables false
set_option linter.unusedSimpArgs false
set_option linter.unnecessarySimpa false
namespace Go.Proofs.YthjolojpjajppaaGreat
open Go.RowKit
namespace Lb
open Sq
abbrev zC5 : List Value := [.int .i64 0, .int .i64 0, .slice none 0 0, .slice none 0 0, .slice none 0 0]
def Mo.cells (m : Mo) : List Value := [.int .i64 m.now, .int .i64 m.drift, .slice m.eo m.en m.ec, .slice m.co m.cn m.cc, .slice m.ko m.kn m.kc]
/-- a moment all of whose lists are own rows -/
def Mo.own (w : World) (B : Nat) (m : Mo) : Prop := Sq.Own intE 3 w B (.slice m.eo m.en m.ec) m.ev ∧ Sq.Own cnE 67 w B (.slice m.co m.cn m.cc) m.cs ∧ Sq.Own intE 3 w B (.slice m.ko m.kn m.kc) m.ks
theorem Mo.own.ok {w : World} {B : Nat} {m : Mo} (h : m.own w B) : m.ok w := ⟨own_sv' h.1, own_sv' h.2.1, own_sv' h.2.2⟩
theorem Mo.own.next {w w' : World} {B : Nat} {m : Mo} (h : m.own w B) (hb : Below w.heap.size w w') : m.own w' B := ⟨h.1.next hb, h.2.1.next hb, h.2.2.next hb⟩
/-- what lies in memory while Moment works: its argument, the result's variable, the moment m -/
structure NG (w W : World) (bx bR bl : Nat) (X : List Value) (m : Mo) : Prop where
  rx : Row W bx 23 X
  rr : Row W bR 30 zC5
  rl : Row W bl 30 m.cells
  ow : m.own W w.heap.size
  below : Below w.heap.size w W
theorem NG.next {w W W' : World} {bx bR bl : Nat} {X : List Value} {m : Mo} (h : NG w W bx bR bl X m) (hb : Below W.heap.size W W') : NG w W' bx bR bl X m := ⟨h.rx.next hb, h.rr.next hb, h.rl.next hb, h.ow.next hb, Below.andThen h.below hb⟩
theorem own_set5 {β : Type} {E' : El β} {t s : TypeId} {w : World} {B b : Nat} {u : Value} {m : List β} {C : List Value} (hu : Sq.Own E' t w B u m) (hr : Row w b s C) (ht : t ≠ s) (x0 x1 x2 x3 x4 : Value) :
    Sq.Own E' t (((((w.setCell ⟨b, 0, none⟩ x0).setCell ⟨b, 1, none⟩ x1).setCell ⟨b, 2, none⟩ x2).setCell ⟨b, 3, none⟩ x3).setCell ⟨b, 4, none⟩ x4) B u m := by
  have r1 := hr.set 0 x0
  have r2 := r1.set 1 x1
  have r3 := r2.set 2 x2
  have r4 := r3.set 3 x3
  exact own_set (own_set (own_set (own_set (own_set hu hr ht) r1 ht) r2 ht) r3 ht) r4 ht
theorem mo_set5 {w : World} {B b : Nat} {m : Mo} {C : List Value} (h : m.own w B) (hr : Row w b 30 C) {x0 x1 x2 x3 x4 : Value} : m.own (((((w.setCell ⟨b, 0, none⟩ x0).setCell ⟨b, 1, none⟩ x1).setCell ⟨b, 2, none⟩ x2).setCell ⟨b, 3, none⟩ x3).setCell ⟨b, 4, none⟩ x4) B :=
  ⟨own_set5 h.1 hr (by decide) _ _ _ _ _, own_set5 h.2.1 hr (by decide) _ _ _ _ _, own_set5 h.2.2 hr (by decide) _ _ _ _ _⟩
theorem set5_below {w W : World} {b : Nat} {v0 v1 v2 v3 v4 : Value} (h : Below w.heap.size w W) (hb : w.heap.size ≤ b) : Below w.heap.size w (((((W.setCell ⟨b, 0, none⟩ v0).setCell ⟨b, 1, none⟩ v1).setCell ⟨b, 2, none⟩ v2).setCell ⟨b, 3, none⟩ v3).setCell ⟨b, 4, none⟩ v4) :=
  ((((h.setCell (p := ⟨b, 0, none⟩) hb _).setCell (p := ⟨b, 1, none⟩) hb _).setCell (p := ⟨b, 2, none⟩) hb _).setCell (p := ⟨b, 3, none⟩) hb _).setCell (p := ⟨b, 4, none⟩) hb _
theorem far5 {w : World} {b b' j : Nat} {x0 x1 x2 x3 x4 : Value} {v : Option Value} (h : b' ≠ b) (hc : w.cell? ⟨b, j, none⟩ = v) : (((((w.setCell ⟨b', 0, none⟩ x0).setCell ⟨b', 1, none⟩ x1).setCell ⟨b', 2, none⟩ x2).setCell ⟨b', 3, none⟩ x3).setCell ⟨b', 4, none⟩ x4).cell? ⟨b, j, none⟩ = v := by
  repeat rw [World.cell?_setCell_far _ _ _ _ (show b' ≠ b from h)]
  exact hc
theorem row_zero5 {W w4 : World} {n : Nat} (hb : Below (W.alloc (.cells #[.int .i64 0, .int .i64 0, .slice none 0 0, .slice none 0 0, .slice none 0 0] 30)).drew.heap.size (W.alloc (.cells #[.int .i64 0, .int .i64 0, .slice none 0 0, .slice none 0 0, .slice none 0 0] 30)).drew w4) (hW : W.heap.size = n) : Row w4 n 30 zC5 := by
  subst hW
  exact Row.next (w := World.drew (W.alloc (.cells #[.int .i64 0, .int .i64 0, .slice none 0 0, .slice none 0 0, .slice none 0 0] 30))) (Row.new W 30 zC5) hb
theorem row_zero5b {W w4 : World} (hb : Below (W.alloc (.cells #[.int .i64 0, .int .i64 0, .slice none 0 0, .slice none 0 0, .slice none 0 0] 30)).heap.size (W.alloc (.cells #[.int .i64 0, .int .i64 0, .slice none 0 0, .slice none 0 0, .slice none 0 0] 30)) w4) : Row w4 W.heap.size 30 zC5 := Row.next (Row.new W 30 zC5) hb
section
variable {w w4 : World} {bx bR bl c n c2 n2 : Nat} {X : List Value} {now drift : Int} {ev ks : List Int} {o o2 : Option Addr}
/-- a moment with events and keys alone -/
def evM (now drift : Int) (o : Option Addr) (n c : Nat) (ev : List Int) (o2 : Option Addr) (n2 c2 : Nat) (ks : List Int) : Mo := ⟨now, drift, o, n, c, ev, none, 0, 0, [], o2, n2, c2, ks⟩
theorem ng_new (rx : Row w4 bx 23 X) (rr : Row w4 bR 30 zC5) (ow : Sq.Own intE 3 w4 w.heap.size (.slice o n c) ev) (ow2 : Sq.Own intE 3 w4 w.heap.size (.slice o2 n2 c2) ks) (hb : Below w.heap.size w w4) :
    NG w (w4.alloc (.cells #[.int .i64 now, .int .i64 drift, .slice o n c, .slice none 0 0, .slice o2 n2 c2] 30)) bx bR w4.heap.size X (evM now drift o n c ev o2 n2 c2 ks) :=
  have hA := (Below.refl w4.heap.size w4).alloc (Nat.le_refl _) (.cells #[.int .i64 now, .int .i64 drift, .slice o n c, .slice none 0 0, .slice o2 n2 c2] 30)
  ⟨rx.next hA, rr.next hA, Row.new _ _ _, ⟨ow.next hA, own_nil _ _ _, ow2.next hA⟩, Below.andThen hb hA⟩
theorem ng_set (rx : Row w4 bx 23 X) (rr : Row w4 bR 30 zC5) (rl : Row w4 bl 30 zC5) (ow : Sq.Own intE 3 w4 w.heap.size (.slice o n c) ev) (ow2 : Sq.Own intE 3 w4 w.heap.size (.slice o2 n2 c2) ks) (hb : Below w.heap.size w w4) (n1 : bx ≠ bl) (n2' : bR ≠ bl) (n3 : w.heap.size ≤ bl) :
    NG w (((((w4.setCell ⟨bl, 0, none⟩ (.int .i64 now)).setCell ⟨bl, 1, none⟩ (.int .i64 drift)).setCell ⟨bl, 2, none⟩ (.slice o n c)).setCell ⟨bl, 3, none⟩ (.slice none 0 0)).setCell ⟨bl, 4, none⟩ (.slice o2 n2 c2)) bx bR bl X (evM now drift o n c ev o2 n2 c2 ks) :=
  ⟨((((rx.other n1 _ _).other n1 _ _).other n1 _ _).other n1 _ _).other n1 _ _, ((((rr.other n2' _ _).other n2' _ _).other n2' _ _).other n2' _ _).other n2' _ _, ((((rl.set 0 _).set 1 _).set 2 _).set 3 _).set 4 _,
    ⟨own_set5 ow rl (by decide) _ _ _ _ _, own_nil _ _ _, own_set5 ow2 rl (by decide) _ _ _ _ _⟩, set5_below hb n3⟩
end
section
variable {w W W1 w4 : World} {bx bR bl n4 c4 : Nat} {X : List Value} {o4 : Option Addr}
theorem ng_app {now drift : Int} {eo : Option Addr} {en ec : Nat} {ev : List Int} {co : Option Addr} {cn cc : Nat} {cs : List Cn} {ko : Option Addr} {kn kc : Nat} {ks : List Int} (M : NG w W bx bR bl X ⟨now, drift, eo, en, ec, ev, co, cn, cc, cs, ko, kn, kc, ks⟩) (hB : Below W.heap.size W W1) (hg : W1.grownBy w4 (Value.slice co cn cc).ownBlock)
    {l4 : List Cn} (ho : Sq.Own cnE 67 w4 w.heap.size (.slice o4 n4 c4) l4) (n1 : bx ≠ bl) (n2 : bR ≠ bl) (n3 : w.heap.size ≤ bl) :
    NG w (w4.setCell ⟨bl, 3, none⟩ (.slice o4 n4 c4)) bx bR bl X ⟨now, drift, eo, en, ec, ev, o4, n4, c4, l4, ko, kn, kc, ks⟩ := by
  have hc := M.ow.2.1.next hB
  have rl4 := row_beside (M.rl.next hB) hc (by decide) hg
  refine ⟨(row_beside (M.rx.next hB) hc (by decide) hg).other n1 _ _, (row_beside (M.rr.next hB) hc (by decide) hg).other n2 _ _, rl4.set 3 _,
    ⟨own_set (own_keep hc (M.ow.1.next hB) (by decide) hg) rl4 (by decide), own_set ho rl4 (by decide), own_set (own_keep hc (M.ow.2.2.next hB) (by decide) hg) rl4 (by decide)⟩, ?_⟩
  have b1 := Below.andThen M.below hB
  exact (Below.grown b1 hg b1.size (own_block hc)).setCell (p := ⟨bl, 3, none⟩) n3 _
end
/-- the confirmations that Moment collects -/
def cfL (P p : Int) (k : Nat) : List Cn := (chs P k).map fun f => ⟨f, p⟩
theorem cfL_ok {P p : Int} {k : Nat} (hk : k ≤ 16) (h1 : 0 ≤ p) (h2 : p ≤ 12) : cntB (cfL P p k) 0 = true := by
  obtain ⟨ha, hm⟩ := numB_iff.1 (chs_num P (n := k) (b := 15) (by omega))
  rw [cntB_iff]
  unfold cfL
  rw [ascB_map]
  refine ⟨ha, fun x hx => ?_⟩
  obtain ⟨f, hf, rfl⟩ := List.mem_map.1 hx
  have := hm f hf
  dsimp only
  omega
theorem moment_vm {D0 D1 P p : Int} {eo : Option Addr} {en ec : Nat} {ev : List Int} {co : Option Addr} {cn cc : Nat} {ko : Option Addr} {kn kc : Nat} {ks : List Int} (h0 : 0 ≤ D0 ∧ D0 < 40 ∧ 0 ≤ D1 ∧ D1 < 3) (h1 : numB ev 0 19 = true) (h2 : numB ks 0 19 = true) (h3 : 0 ≤ p ∧ p < 5) :
    Vm ⟨D0 * 10, D1 * 7, eo, en, ec, ev, co, cn, cc, cfL P p 4, ko, kn, kc, ks⟩ :=
  have h4 := cntB_iff.1 (cfL_ok (P := P) (k := 4) (by decide) h3.1 (by omega))
  ⟨by show 0 ≤ D0 * 10; omega, by show D0 * 10 ≤ 50000000; omega, by show 0 ≤ D1 * 7; omega, by show D1 * 7 ≤ 1440; omega, (numB_iff.1 h1).1, (numB_iff.1 h1).2, h4.1, h4.2, (numB_iff.1 h2).1, (numB_iff.1 h2).2⟩
theorem cfL_next {P p : Int} {k : Nat} (h : bitZ P k = true) : cfL P p (k + 1) = cfL P p k ++ [⟨(k : Int), p⟩] := by
  unfold cfL
  rw [show chs P (k + 1) = chs P k ++ [(k : Int)] from if_pos h, List.map_append]
  rfl
theorem cfL_same {P p : Int} {k : Nat} (h : bitZ P k = false) : cfL P p (k + 1) = cfL P p k := by
  unfold cfL
  rw [show chs P (k + 1) = chs P k from if_neg (by rw [h]; decide)]
theorem cfL_len (P p : Int) (k : Nat) : (cfL P p k).length ≤ k := by
  unfold cfL
  rw [List.length_map]
  exact chs_len P k
end Lb
end Go.Proofs.YthjolojpjajppaaGreat
