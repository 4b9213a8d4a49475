/- What may be written to in the blocks that a long function makes, carried from call to call. -/
import Derived.Test.YtdldokhiefeloaaDoorMem
import Derived.Test.YtdldokhiefeloaaDoorFloat
namespace Go.Proofs.YtdldokhiefeloaaDoor
open Go.RowKit

abbrev Free (w : World) (b : Nat) : Prop := b < w.heap.size ∧ ∀ o, w.frozen? ⟨b, o, none⟩ = false
theorem hasf {w w' : World} {b : Nat} (h : Free w b) (hb : Below w.heap.size w w') : Free w' b :=
  ⟨Nat.lt_of_lt_of_le h.1 hb.size, fun o => by
    have e := hb.block b h.1
    have := h.2 o
    simp only [World.frozen?, e] at this ⊢
    exact this⟩
theorem free_new {w : World} {c : Array Value} {t : TypeId} : Free (w.alloc (.cells c t)) w.heap.size := ⟨by simp, (block_cells (w := w.alloc (.cells c t)) (c := c) (t := t) (show (w.heap.push (Obj.cells c t))[w.heap.size]? = some (Obj.cells c t) by simp)).2⟩
theorem free_at {w : World} {c : Array Value} {t : TypeId} {b : Nat} (h : w.heap.size = b) : Free (w.alloc (.cells c t)) b := by subst h; exact free_new
theorem cell_other {w : World} {b b' o j : Nat} {v x : Value} (h : w.cell? ⟨b, o, none⟩ = some x) (hne : b ≠ b') : (w.setCell ⟨b', j, none⟩ v).cell? ⟨b, o, none⟩ = some x := by
  have e := Below.heap_setCell w ⟨b', j, none⟩ v b hne
  simp only [World.cell?, e] at h ⊢
  exact h
theorem has6_other {w : World} {b b' j : Nat} {v v0 v1 v2 v3 v4 v5 : Value} (h : Has6 w b v0 v1 v2 v3 v4 v5) (hne : b' ≠ b) : Has6 (w.setCell ⟨b', j, none⟩ v) b v0 v1 v2 v3 v4 v5 :=
  ⟨by rw [World.size_setCell]; exact h.1, cell_other h.2.1 hne.symm, cell_other h.2.2.1 hne.symm, cell_other h.2.2.2.1 hne.symm, cell_other h.2.2.2.2.1 hne.symm, cell_other h.2.2.2.2.2.1 hne.symm, cell_other h.2.2.2.2.2.2 hne.symm⟩
end Go.Proofs.YtdldokhiefeloaaDoor
