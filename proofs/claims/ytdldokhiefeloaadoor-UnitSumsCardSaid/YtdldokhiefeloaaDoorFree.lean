/- What may be written to in the blocks that a long function makes, carried from call to call. -/
import Derived.Test.YtdldokhiefeloaaDoorMem
import Derived.Test.YtdldokhiefeloaaDoorFloat
namespace Go.Proofs.YtdldokhiefeloaaDoor
open Go.RowKit

abbrev Free (w : World) (b : Nat) : Prop := b < w.heap.size ∧ ∀ o, w.frozen? ⟨b, o, none⟩ = false
theorem hasf {w w' : World} {b : Nat} (h : Free w b) (hb : Below w.heap.size w w') : Free w' b :=
  ⟨Nat.lt_of_lt_of_le h.1 hb.size, fun o => by
    have e := hb.block b h.1
    have := h.2 o
    simp only [World.frozen?, e] at this ⊢
    exact this⟩
theorem free_new {w : World} {c : Array Value} {t : TypeId} : Free (w.alloc (.cells c t)) w.heap.size := ⟨by simp, (block_cells (w := w.alloc (.cells c t)) (c := c) (t := t) (show (w.heap.push (Obj.cells c t))[w.heap.size]? = some (Obj.cells c t) by simp)).2⟩
end Go.Proofs.YtdldokhiefeloaaDoor
