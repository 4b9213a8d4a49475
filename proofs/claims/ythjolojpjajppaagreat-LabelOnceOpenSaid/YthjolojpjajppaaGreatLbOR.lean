/- LabelOnceOpen: what lies in memory while its later moment is made. -/
import Derived.Test.YthjolojpjajppaaGreatLbOQ
set_option linter.unusedVariables false
set_option linter.unusedSimpArgs false
set_option linter.unnecessarySimpa false
namespace Go.Proofs.YthjolojpjajppaaGreat
open Go.RowKit
namespace Lb
open Sq
/-- a moment under construction, of blocks that are younger than the world w1 -/
structure LG (w1 W : World) (bl : Nat) (m : Mo) : Prop where
  rl : Row W bl 30 m.cells
  ow : m.own W w1.heap.size
  below : Below w1.heap.size w1 W
theorem LG.next {w1 W W' : World} {bl : Nat} {m : Mo} (h : LG w1 W bl m) (hb : Below W.heap.size W W') : LG w1 W' bl m := ⟨h.rl.next hb, h.ow.next hb, Below.andThen h.below hb⟩
section
variable {w1 w4 : World} {bl n c n2 c2 : Nat} {now drift : Int} {ev ks : List Int} {o o2 : Option Addr}
theorem lg_new (ow : Sq.Own intE 3 w4 w1.heap.size (.slice o n c) ev) (ow2 : Sq.Own intE 3 w4 w1.heap.size (.slice o2 n2 c2) ks) (hb : Below w1.heap.size w1 w4) :
    LG w1 (w4.alloc (.cells #[.int .i64 now, .int .i64 drift, .slice o n c, .slice none 0 0, .slice o2 n2 c2] 30)) w4.heap.size ⟨now, drift, o, n, c, ev, none, 0, 0, [], o2, n2, c2, ks⟩ :=
  have hA := (Below.refl w4.heap.size w4).alloc (Nat.le_refl _) (.cells #[.int .i64 now, .int .i64 drift, .slice o n c, .slice none 0 0, .slice o2 n2 c2] 30)
  ⟨Row.new _ _ _, ⟨ow.next hA, own_nil _ _ _, ow2.next hA⟩, Below.andThen hb hA⟩
theorem lg_set (rl : Row w4 bl 30 zC5) (ow : Sq.Own intE 3 w4 w1.heap.size (.slice o n c) ev) (ow2 : Sq.Own intE 3 w4 w1.heap.size (.slice o2 n2 c2) ks) (hb : Below w1.heap.size w1 w4) (n3 : w1.heap.size ≤ bl) :
    LG w1 (((((w4.setCell ⟨bl, 0, none⟩ (.int .i64 now)).setCell ⟨bl, 1, none⟩ (.int .i64 drift)).setCell ⟨bl, 2, none⟩ (.slice o n c)).setCell ⟨bl, 3, none⟩ (.slice none 0 0)).setCell ⟨bl, 4, none⟩ (.slice o2 n2 c2)) bl ⟨now, drift, o, n, c, ev, none, 0, 0, [], o2, n2, c2, ks⟩ :=
  ⟨((((rl.set 0 _).set 1 _).set 2 _).set 3 _).set 4 _, ⟨own_set5 ow rl (by decide) _ _ _ _ _, own_nil _ _ _, own_set5 ow2 rl (by decide) _ _ _ _ _⟩, set5_below hb n3⟩
end
theorem lg_app {w1 W W1 w4 : World} {bl n4 c4 : Nat} {o4 : Option Addr} {now drift : Int} {eo : Option Addr} {en ec : Nat} {ev : List Int} {co : Option Addr} {cn cc : Nat} {cs : List Cn} {ko : Option Addr} {kn kc : Nat} {ks : List Int} (M : LG w1 W bl ⟨now, drift, eo, en, ec, ev, co, cn, cc, cs, ko, kn, kc, ks⟩) (hB : Below W.heap.size W W1) (hg : W1.grownBy w4 (Value.slice co cn cc).ownBlock)
    {l4 : List Cn} (ho : Sq.Own cnE 67 w4 w1.heap.size (.slice o4 n4 c4) l4) (n3 : w1.heap.size ≤ bl) :
    LG w1 (w4.setCell ⟨bl, 3, none⟩ (.slice o4 n4 c4)) bl ⟨now, drift, eo, en, ec, ev, o4, n4, c4, l4, ko, kn, kc, ks⟩ := by
  have hc := M.ow.2.1.next hB
  have rl4 := row_beside (M.rl.next hB) hc (by decide) hg
  refine ⟨rl4.set 3 _, ⟨own_set (own_keep hc (M.ow.1.next hB) (by decide) hg) rl4 (by decide), own_set ho rl4 (by decide), own_set (own_keep hc (M.ow.2.2.next hB) (by decide) hg) rl4 (by decide)⟩, ?_⟩
  have b1 := Below.andThen M.below hB
  exact (Below.grown b1 hg b1.size (own_block hc)).setCell (p := ⟨bl, 3, none⟩) n3 _
theorem ValidM_c (m : Mo) (hm : Vm m) (W : World) (h : m.ok W) : Calls Tryz.prog 28 #[.agg #[.int .i64 m.now, .int .i64 m.drift, .slice m.eo m.en m.ec, .slice m.co m.cn m.cc, .slice m.ko m.kn m.kc]] W fun e w' => e = .returned (.bool true) ∧ Below W.heap.size W w' :=
  (ValidMoment_any m W h).mono fun e w' q => ⟨by rw [q.1, vm_iff.2 hm], q.2⟩
/-- slices of confirmations in a row -/
def csE : El (Option Addr × Nat × Nat) := ⟨1, fun x => [.slice x.1 x.2.1 x.2.2], by decide, fun _ => rfl, fun x u hu => by simp at hu; rw [hu]; rfl⟩
end Lb
end Go.Proofs.YthjolojpjajppaaGreat
