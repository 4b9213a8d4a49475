/- Parameters that are slices of flat structs, and of bools. -/
import Derived.Test.YtnhlhoijajhcjaaSlices
import Derived.Deep.Slices
set_option linter.unusedVariables false
set_option linter.unusedSimpArgs false
namespace Go.Proofs.Ytnhlhoijajhcjaa
open Go.RowKit Go.ChangeShapes Go.WideShapes

section
variable {H : Type} {enc : TypeId × Value → H} {P : Program} {W : World} {base b0 : Nat} {spare : Nat → Bool} {held : Bool}
theorem addr_add_add (a : Addr) (i j : Nat) : (a.add i).add j = a.add (i + j) := by
  unfold Addr.add
  by_cases hi : i = 0 <;> by_cases hj : j = 0 <;> simp [hi, hj, Nat.add_assoc]
theorem open_rowsS {r : Reach} {t e : TypeId} {l : List Leaf} {v : Value} {d : DataW H} {ps : List MemPlace} (n : Nat) (ht : P.underlying t = some (.slice e)) (hl : leafsOf P n e = some l) (hc : P.cellsOf e = l.length)
    (hval : Value.okWide P W r b0 t v) (hd : DataW.Trod enc P W base spare held t v d ps) :
    ∃ (o : Option Addr) (len cap : Nat) (C : Nat → List Value), v = .slice o len cap ∧ len ≤ maxLen ∧ (∀ i, i < len → Fits l (C i)) ∧
      ∀ i, i < len → ∃ a, o = some a ∧ ∀ w', Below W.heap.size W w' → ∀ j, j < l.length → w'.cell? (a.add (i * l.length + j)) = (C i)[j]? := by
  obtain ⟨o, len, cap, rfl⟩ := okWide_slice ht hval
  obtain ⟨fuel, hf⟩ := hd
  rcases Go.Deep.open_slice ht hf with ⟨h1, _⟩ | ⟨a, l', c, m, k, D, Pl, h1, _, h2, h3, h4, _, h5⟩
  · simp [Value.cells] at h1
    obtain ⟨rfl, rfl, rfl⟩ := h1
    exact ⟨none, 0, 0, fun _ => [], rfl, Nat.zero_le _, fun i hi => absurd hi (Nat.not_lt_zero _), fun i hi => absurd hi (Nat.not_lt_zero _)⟩
  · simp [Value.cells] at h1
    obtain ⟨rfl, rfl, rfl⟩ := h1
    have hlm : len ≤ m := by rw [h4]; split <;> omega
    have h6 : ∀ i, ∃ cs', i < m → W.cells? base (a.add (i * P.cellsOf e)) (P.cellsOf e) = some cs' ∧ Fits l cs' := fun i => by
      by_cases hi : i < m
      · obtain ⟨cs', x1, x2⟩ := h5 i hi
        exact ⟨cs', fun _ => ⟨x1, fits_of_trod n e l _ _ _ hl x2⟩⟩
      · exact ⟨[], fun h => absurd h hi⟩
    obtain ⟨C, hC⟩ := Classical.skolem.1 h6
    refine ⟨some a, len, cap, C, rfl, by omega, fun i hi => (hC i (by omega)).2, fun i hi => ⟨a, rfl, fun w' hb j hj => ?_⟩⟩
    obtain ⟨x1, x2⟩ := hC i (by omega)
    rw [hc] at x1
    have x3 := (World.cells?_some x1).2.2 j (by omega)
    rw [addr_add_add] at x3
    have x4 := x2.length
    rw [List.getElem?_eq_getElem (by omega)] at x3 ⊢
    exact cell_stays x3 w' hb

/-- A slice of ints, with what its capacity is. -/
theorem open_intJ {r : Reach} {t e : TypeId} {k : IntKind} {v : Value} {d : DataW H} {ps : List MemPlace} (ht : P.underlying t = some (.slice e)) (he : P.underlying e = some (.int k)) (hc : P.cellsOf e = 1)
    (hval : Value.okWide P W r b0 t v) (hd : DataW.Trod enc P W base spare held t v d ps) :
    ∃ (o : Option Addr) (len cap : Nat) (L : Nat → Int), v = .slice o len cap ∧ (len ≤ maxLen ∧ len ≤ cap) ∧ (∀ i, i < len → (Lit.int k (L i)).wf = true) ∧
      ∀ i, i < len → ∃ a, o = some a ∧ ∀ w', Below W.heap.size W w' → w'.cell? (a.add i) = some (.int k (L i)) := by
  have hd' := hd
  obtain ⟨o, len, cap, L, rfl, h1, h2, h3⟩ := open_intS ht he hc hval hd
  refine ⟨o, len, cap, L, rfl, ⟨h1, ?_⟩, h2, h3⟩
  obtain ⟨fuel, hf⟩ := hd'
  rcases open_ints ht he hc hf with ⟨h1, _⟩ | ⟨a, l, c, zs, h1, _, h4, _⟩
  · simp [Value.cells] at h1
    omega
  · simp [Value.cells] at h1
    omega

/-- A slice of bools. -/
theorem open_boolS {r : Reach} {t e : TypeId} {v : Value} {d : DataW H} {ps : List MemPlace} (ht : P.underlying t = some (.slice e)) (he : leafsOf P 5 e = some [none]) (hc : P.cellsOf e = 1)
    (hval : Value.okWide P W r b0 t v) (hd : DataW.Trod enc P W base spare held t v d ps) :
    ∃ (o : Option Addr) (len cap : Nat) (L : Nat → Bool), v = .slice o len cap ∧ len ≤ maxLen ∧
      ∀ i, i < len → ∃ a, o = some a ∧ ∀ w', Below W.heap.size W w' → w'.cell? (a.add i) = some (.bool (L i)) := by
  obtain ⟨o, len, cap, C, rfl, h1, h2, h3⟩ := open_rowsS 5 ht he (by rw [hc]; rfl) hval hd
  have h4 : ∀ i, ∃ b : Bool, i < len → C i = [.bool b] := fun i => by
    by_cases hi : i < len
    · obtain ⟨_, _, h5, ⟨b, rfl⟩, h6⟩ := h2 i hi
      cases h6
      exact ⟨b, fun _ => h5⟩
    · exact ⟨false, fun h => absurd h hi⟩
  obtain ⟨L, hL⟩ := Classical.skolem.1 h4
  refine ⟨o, len, cap, L, rfl, h1, fun i hi => ?_⟩
  obtain ⟨a, rfl, h7⟩ := h3 i hi
  refine ⟨a, rfl, fun w' hb => ?_⟩
  have := h7 w' hb 0 (by simp)
  rw [hL i hi] at this
  simpa using this

/-- A slice of structs of an int, a string and a bool. -/
theorem open_isbS {r : Reach} {t e : TypeId} {v : Value} {d : DataW H} {ps : List MemPlace} (ht : P.underlying t = some (.slice e)) (he : leafsOf P 5 e = some [some (some .i64), some none, none]) (hc : P.cellsOf e = 3)
    (hval : Value.okWide P W r b0 t v) (hd : DataW.Trod enc P W base spare held t v d ps) :
    ∃ (o : Option Addr) (len cap : Nat) (L : Nat → Int × ByteArray × Bool), v = .slice o len cap ∧ len ≤ maxLen ∧
      (∀ i, i < len → -9223372036854775808 ≤ (L i).1 ∧ (L i).1 ≤ 9223372036854775807 ∧ (L i).2.1.size ≤ maxLen) ∧
      ∀ i, i < len → ∃ a, o = some a ∧ ∀ w', Below W.heap.size W w' →
        w'.cell? (a.add (i * 3)) = some (.int .i64 (L i).1) ∧ w'.cell? ⟨(a.add (i * 3)).block, (a.add (i * 3)).off + 1, none⟩ = some (.string (L i).2.1) ∧ w'.cell? ⟨(a.add (i * 3)).block, (a.add (i * 3)).off + 2, none⟩ = some (.bool (L i).2.2) := by
  obtain ⟨o, len, cap, C, rfl, h1, h2, h3⟩ := open_rowsS 5 ht he (by rw [hc]; rfl) hval hd
  have h4 : ∀ i, ∃ x : Int × ByteArray × Bool, i < len → C i = [.int .i64 x.1, .string x.2.1, .bool x.2.2] ∧ (Lit.int .i64 x.1).wf = true ∧ x.2.1.size ≤ maxLen := fun i => by
    by_cases hi : i < len
    · obtain ⟨_, _, h5, ⟨n, rfl, hn⟩, _, _, rfl, ⟨s, rfl, hs⟩, _, _, rfl, ⟨b, rfl⟩, h6⟩ := h2 i hi
      cases h6
      exact ⟨(n, s, b), fun _ => ⟨h5, hn, hs⟩⟩
    · exact ⟨(0, ⟨#[]⟩, false), fun h => absurd h hi⟩
  obtain ⟨L, hL⟩ := Classical.skolem.1 h4
  refine ⟨o, len, cap, L, rfl, h1, fun i hi => ?_, fun i hi => ?_⟩
  · obtain ⟨_, q1, q2⟩ := hL i hi
    have := bd_i64 q1
    exact ⟨this.1, this.2, q2⟩
  · obtain ⟨a, rfl, h7⟩ := h3 i hi
    refine ⟨a, rfl, fun w' hb => ?_⟩
    obtain ⟨q0, _, _⟩ := hL i hi
    have e0 := h7 w' hb 0 (by simp)
    have e1 := h7 w' hb 1 (by simp)
    have e2 := h7 w' hb 2 (by simp)
    rw [q0] at e0 e1 e2
    simp only [List.length_cons, List.length_nil, Nat.zero_add, Nat.reduceAdd, Nat.add_zero, List.getElem?_cons_zero, List.getElem?_cons_succ] at e0 e1 e2
    rw [← addr_add_add] at e1 e2
    exact ⟨e0, e1, e2⟩
end
end Go.Proofs.Ytnhlhoijajhcjaa
