/- Parameters that are slices of ints, of strings and of bytes. -/
import Derived.Test.YtnhlhoijajhcjaaDoorBase
import Derived.ChangeSlices
import Derived.Deep.Strs
set_option linter.unusedVariables false
set_option linter.unusedSimpArgs false
set_option linter.unnecessarySimpa false
namespace Go.Proofs.YtnhlhoijajhcjaaDoor
open Go.RowKit Go.ChangeShapes Go.WideShapes

section
variable {H : Type} {enc : TypeId × Value → H} {P : Program} {W : World} {base b0 : Nat} {spare : Nat → Bool} {held : Bool}
theorem cell_lies {a : Addr} {v : Value} (h : W.cell? a = some v) : a.block < W.heap.size := by
  unfold World.cell? at h
  split at h
  · rename_i e
    exact (Array.getElem?_eq_some_iff.1 e).1
  · cases h
theorem cell_stays {a : Addr} {v : Value} (h : W.cell? a = some v) : ∀ w', Below W.heap.size W w' → w'.cell? a = some v := fun _ hb => (hb.cell (cell_lies h)).trans h

theorem open_intS {r : Reach} {t e : TypeId} {k : IntKind} {v : Value} {d : DataW H} {ps : List MemPlace} (ht : P.underlying t = some (.slice e)) (he : P.underlying e = some (.int k)) (hc : P.cellsOf e = 1)
    (hval : Value.okWide P W r b0 t v) (hd : DataW.Trod enc P W base spare held t v d ps) :
    ∃ (o : Option Addr) (len cap : Nat) (L : Nat → Int), v = .slice o len cap ∧ len ≤ maxLen ∧ (∀ i, i < len → (Lit.int k (L i)).wf = true) ∧
      ∀ i, i < len → ∃ a, o = some a ∧ ∀ w', Below W.heap.size W w' → w'.cell? (a.add i) = some (.int k (L i)) := by
  obtain ⟨o, len, cap, rfl⟩ := okWide_slice ht hval
  obtain ⟨fuel, hf⟩ := hd
  rcases open_ints ht he hc hf with ⟨h1, _⟩ | ⟨a, l, c, zs, h1, _, h2, h3, h4, _, h5, h6⟩
  · simp [Value.cells] at h1
    obtain ⟨rfl, rfl, rfl⟩ := h1
    exact ⟨none, 0, 0, fun _ => 0, rfl, Nat.zero_le _, fun i hi => absurd hi (Nat.not_lt_zero _), fun i hi => absurd hi (Nat.not_lt_zero _)⟩
  · simp [Value.cells] at h1
    obtain ⟨rfl, rfl, rfl⟩ := h1
    have hl : len ≤ zs.length := by rw [h4]; split <;> omega
    refine ⟨some a, len, cap, fun i => zs.getD i 0, rfl, by omega, fun i hi => ?_, fun i hi => ⟨a, rfl, cell_stays (h5 i (by omega))⟩⟩
    refine h6 _ ?_
    simp [List.getD, List.getElem?_eq_getElem (show i < zs.length by omega)]
theorem open_strS {r : Reach} {t e : TypeId} {v : Value} {d : DataW H} {ps : List MemPlace} (ht : P.underlying t = some (.slice e)) (he : P.underlying e = some .string) (hc : P.cellsOf e = 1)
    (hval : Value.okWide P W r b0 t v) (hd : DataW.Trod enc P W base spare held t v d ps) :
    ∃ (o : Option Addr) (len cap : Nat) (S : Nat → ByteArray), v = .slice o len cap ∧ len ≤ maxLen ∧ (∀ i, i < len → (S i).size ≤ maxLen) ∧
      ∀ i, i < len → ∃ a, o = some a ∧ ∀ w', Below W.heap.size W w' → w'.cell? (a.add i) = some (.string (S i)) := by
  obtain ⟨o, len, cap, rfl⟩ := okWide_slice ht hval
  obtain ⟨fuel, hf⟩ := hd
  rcases Go.Deep.open_strs ht he hc hf with ⟨h1, _⟩ | ⟨a, l, c, m, S, h1, _, h2, h3, h4, _, h5⟩
  · simp [Value.cells] at h1
    obtain ⟨rfl, rfl, rfl⟩ := h1
    exact ⟨none, 0, 0, fun _ => ⟨#[]⟩, rfl, Nat.zero_le _, fun i hi => absurd hi (Nat.not_lt_zero _), fun i hi => absurd hi (Nat.not_lt_zero _)⟩
  · simp [Value.cells] at h1
    obtain ⟨rfl, rfl, rfl⟩ := h1
    have hl : len ≤ m := by rw [h4]; split <;> omega
    exact ⟨some a, len, cap, S, rfl, by omega, fun i hi => (h5 i (by omega)).2, fun i hi => ⟨a, rfl, cell_stays (h5 i (by omega)).1⟩⟩
end
end Go.Proofs.YtnhlhoijajhcjaaDoor
