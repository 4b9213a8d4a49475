/- LabelKeys: its loop. -/
import Derived.Test.YthjolojpjajppaaGreatLbSC
import Derived.Test.YthjolojpjajppaaGreatLGM
import Derived.Test.YthjolojpjajppaaGreatSqF
set_option linter.unusedVariables false
set_option linter.unusedSimpArgs false
set_option linter.unnecessarySimpa false
namespace Go.Proofs.YthjolojpjajppaaGreat
open Go.RowKit
namespace Lb
open Sq
/-- how many bits below n are set in both -/
def cnt2 (x y : Int) : Nat → Int
  | 0 => 0
  | n + 1 => if bitZ x n = true ∧ bitZ y n = true then cnt2 x y n + 1 else cnt2 x y n
theorem cnt2_bd (x y : Int) : ∀ n : Nat, 0 ≤ cnt2 x y n ∧ cnt2 x y n ≤ n
  | 0 => ⟨Int.le_refl _, Int.le_refl _⟩
  | n + 1 => by
    have := cnt2_bd x y n
    unfold cnt2
    split <;> omega
/-- what lies in memory while LabelKeys collects: the lock's keys l, the moment's m -/
structure KG (w W : World) (bl bm bq : Nat) (l m : List Int) : Prop where
  rl : Row W bl 28 [.int .i64 0, .slice none 0 0, .slice none 0 0, .int .i64 0, .int .i64 0, .slice none 0 0]
  two : ∃ om cm oq cq, Row W bm 30 [.int .i64 0, .int .i64 0, .slice none 0 0, .slice none 0 0, .slice om m.length cm] ∧ Sq.Own intE 3 W w.heap.size (.slice om m.length cm) m ∧
    Row W bq 70 [.int .i64 0, .slice oq l.length cq] ∧ Sq.Own intE 3 W w.heap.size (.slice oq l.length cq) l ∧
    ∀ j, (Value.slice oq l.length cq).ownBlock = some j → (Value.slice om m.length cm).ownBlock ≠ some j
  below : Below w.heap.size w W
theorem row_beside {α : Type} {E : El α} {e t : TypeId} {w w' : World} {B b : Nat} {v : Value} {l : List α} {C : List Value} (hr : Row w b t C) (ho : Sq.Own E e w B v l) (ht : e ≠ t) (hg : w.grownBy w' v.ownBlock) : Row w' b t C :=
  (hg.block b hr.lt (fun q => own_apart ho hr ht q.symm)).trans hr
section
variable {w W w4 : World} {bl bm bq cm cq c4 : Nat} {l m : List Int} {om oq o4 : Option Addr} {o : Obj} {x : Int}
theorem kg_q (rl : Row W bl 28 [.int .i64 0, .slice none 0 0, .slice none 0 0, .int .i64 0, .int .i64 0, .slice none 0 0]) (rm : Row W bm 30 [.int .i64 0, .int .i64 0, .slice none 0 0, .slice none 0 0, .slice om m.length cm]) (hm : Sq.Own intE 3 W w.heap.size (.slice om m.length cm) m)
    (rq : Row W bq 70 [.int .i64 0, .slice oq l.length cq]) (hq : Sq.Own intE 3 W w.heap.size (.slice oq l.length cq) l) (ap : ∀ j, (Value.slice oq l.length cq).ownBlock = some j → (Value.slice om m.length cm).ownBlock ≠ some j) (hb : Below w.heap.size w W)
    (n1 : bl ≠ bq) (n2 : bm ≠ bq) (n3 : w.heap.size ≤ bq)
    (ho : Sq.Own intE 3 w4 w.heap.size (.slice o4 (l ++ [x]).length c4) (l ++ [x])) (hg : (W.alloc o).grownBy w4 (Value.slice oq l.length cq).ownBlock) (hf : ∀ j, (Value.slice o4 (l ++ [x]).length c4).ownBlock = some j → (Value.slice oq l.length cq).ownBlock = some j ∨ (W.alloc o).heap.size ≤ j) :
    KG w (w4.setCell ⟨bq, 1, none⟩ (.slice o4 (l ++ [x]).length c4)) bl bm bq (l ++ [x]) m := by
  have hA := (Below.refl W.heap.size W).alloc (Nat.le_refl _) o
  have q4 := row_beside (rq.alloc o) (hq.next hA) (by decide) hg
  refine ⟨(row_beside (rl.alloc o) (hq.next hA) (by decide) hg).other n1 _ _, ⟨om, cm, o4, c4, (row_beside (rm.alloc o) (hq.next hA) (by decide) hg).other n2 _ _, own_set (own_beside (hm.next hA) hg (fun j h1 h2 => ap j h2 h1)) q4 (by decide), q4.set 1 _, own_set ho q4 (by decide), fun j hj h2 => ?_⟩, ?_⟩
  · rcases hf j hj with e | e
    · exact ap j e h2
    · have := own_lt hm j h2
      rw [World.size_alloc] at e
      omega
  · exact (Below.grown (hb.alloc hb.size o) hg (by rw [World.size_alloc]; have := hb.size; omega) (fun j hj => own_block hq j hj)).setCell (p := ⟨bq, 1, none⟩) n3 _
theorem kg_m (rl : Row W bl 28 [.int .i64 0, .slice none 0 0, .slice none 0 0, .int .i64 0, .int .i64 0, .slice none 0 0]) (rm : Row W bm 30 [.int .i64 0, .int .i64 0, .slice none 0 0, .slice none 0 0, .slice om m.length cm]) (hm : Sq.Own intE 3 W w.heap.size (.slice om m.length cm) m)
    (rq : Row W bq 70 [.int .i64 0, .slice oq l.length cq]) (hq : Sq.Own intE 3 W w.heap.size (.slice oq l.length cq) l) (ap : ∀ j, (Value.slice oq l.length cq).ownBlock = some j → (Value.slice om m.length cm).ownBlock ≠ some j) (hb : Below w.heap.size w W)
    (n1 : bl ≠ bm) (n2 : bq ≠ bm) (n3 : w.heap.size ≤ bm)
    (ho : Sq.Own intE 3 w4 w.heap.size (.slice o4 (m ++ [x]).length c4) (m ++ [x])) (hg : (W.alloc o).grownBy w4 (Value.slice om m.length cm).ownBlock) (hf : ∀ j, (Value.slice o4 (m ++ [x]).length c4).ownBlock = some j → (Value.slice om m.length cm).ownBlock = some j ∨ (W.alloc o).heap.size ≤ j) :
    KG w (w4.setCell ⟨bm, 4, none⟩ (.slice o4 (m ++ [x]).length c4)) bl bm bq l (m ++ [x]) := by
  have hA := (Below.refl W.heap.size W).alloc (Nat.le_refl _) o
  have m4 := row_beside (rm.alloc o) (hm.next hA) (by decide) hg
  refine ⟨(row_beside (rl.alloc o) (hm.next hA) (by decide) hg).other n1 _ _, ⟨o4, c4, oq, cq, m4.set 4 _, own_set ho m4 (by decide), (row_beside (rq.alloc o) (hm.next hA) (by decide) hg).other n2 _ _, own_set (own_beside (hq.next hA) hg ap) m4 (by decide), fun j hj h2 => ?_⟩, ?_⟩
  · rcases hf j h2 with e | e
    · exact ap j hj e
    · have := own_lt hq j hj
      rw [World.size_alloc] at e
      omega
  · exact (Below.grown (hb.alloc hb.size o) hg (by rw [World.size_alloc]; have := hb.size; omega) (fun j hj => own_block hm j hj)).setCell (p := ⟨bm, 4, none⟩) n3 _
end
theorem bits_f {P : Int} {k : Nat} {z : Bool} (h : 0 ≤ P) (hz : bitZ P k = z) : ((P / 2 ^ k).tmod 2 == 1) = z := by
  rw [Int.tmod_eq_emod_of_nonneg (Int.ediv_nonneg h (Int.le_of_lt (Int.pow_pos (by decide))))]
  exact hz
end Lb
end Go.Proofs.YthjolojpjajppaaGreat
