/- What lies in the blocks that a long function makes, carried from call to call. -/
import Derived.Test.YtnhlhoijajhcjaaDoorBase
set_option linter.unusedVariables false
set_option linter.unusedSimpArgs false
set_option linter.unnecessarySimpa false
namespace Go.Proofs.YtnhlhoijajhcjaaDoor
open Go.RowKit

abbrev Has1 (w : World) (b : Nat) (v0 : Value) : Prop := b < w.heap.size ∧ w.cell? ⟨b, 0, none⟩ = some v0
abbrev Has2 (w : World) (b : Nat) (v0 v1 : Value) : Prop := b < w.heap.size ∧ w.cell? ⟨b, 0, none⟩ = some v0 ∧ w.cell? ⟨b, 1, none⟩ = some v1
abbrev Has3 (w : World) (b : Nat) (v0 v1 v2 : Value) : Prop := b < w.heap.size ∧ w.cell? ⟨b, 0, none⟩ = some v0 ∧ w.cell? ⟨b, 1, none⟩ = some v1 ∧ w.cell? ⟨b, 2, none⟩ = some v2
abbrev Has6 (w : World) (b : Nat) (v0 v1 v2 v3 v4 v5 : Value) : Prop := b < w.heap.size ∧ w.cell? ⟨b, 0, none⟩ = some v0 ∧ w.cell? ⟨b, 1, none⟩ = some v1 ∧ w.cell? ⟨b, 2, none⟩ = some v2 ∧ w.cell? ⟨b, 3, none⟩ = some v3 ∧ w.cell? ⟨b, 4, none⟩ = some v4 ∧ w.cell? ⟨b, 5, none⟩ = some v5

section
variable {w w' : World} {b : Nat} {v0 v1 v2 v3 v4 v5 : Value}
theorem cell_next {o : Nat} {v : Value} (hl : b < w.heap.size) (h : w.cell? ⟨b, o, none⟩ = some v) (hb : Below w.heap.size w w') : w'.cell? ⟨b, o, none⟩ = some v := (hb.cell (p := ⟨b, o, none⟩) hl).trans h
theorem has1 (h : Has1 w b v0) (hb : Below w.heap.size w w') : Has1 w' b v0 := ⟨Nat.lt_of_lt_of_le h.1 hb.size, cell_next h.1 h.2 hb⟩
theorem has2 (h : Has2 w b v0 v1) (hb : Below w.heap.size w w') : Has2 w' b v0 v1 := ⟨Nat.lt_of_lt_of_le h.1 hb.size, cell_next h.1 h.2.1 hb, cell_next h.1 h.2.2 hb⟩
theorem has3 (h : Has3 w b v0 v1 v2) (hb : Below w.heap.size w w') : Has3 w' b v0 v1 v2 := ⟨Nat.lt_of_lt_of_le h.1 hb.size, cell_next h.1 h.2.1 hb, cell_next h.1 h.2.2.1 hb, cell_next h.1 h.2.2.2 hb⟩
theorem has6 (h : Has6 w b v0 v1 v2 v3 v4 v5) (hb : Below w.heap.size w w') : Has6 w' b v0 v1 v2 v3 v4 v5 := ⟨Nat.lt_of_lt_of_le h.1 hb.size, cell_next h.1 h.2.1 hb, cell_next h.1 h.2.2.1 hb, cell_next h.1 h.2.2.2.1 hb, cell_next h.1 h.2.2.2.2.1 hb, cell_next h.1 h.2.2.2.2.2.1 hb, cell_next h.1 h.2.2.2.2.2.2 hb⟩
end
end Go.Proofs.YtnhlhoijajhcjaaDoor
