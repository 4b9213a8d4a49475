/- What the listed package-level variables hold when the call begins, cell by cell. -/
/- Parameters that are slices of flat structs, and of bools. -/
/- What the laws' frames want of the program. -/
import Derived.Test.YthjolojpjajppaaGreatLGA
import Derived.Lib.LaidTab
import Derived.Deep.Slices
set_option linter.unusedVariables false
set_option linter.unusedSimpArgs false
set_option linter.unnecessarySimpa false
namespace Go.Proofs.YthjolojpjajppaaGreat
open Go.RowKit Go.ChangeShapes Go.WideShapes Go.ChangeAt

/-- The cells that read as a datum, if it is flat (to a depth). -/
def dataCells {H : Type} : Nat → DataW H → List Value
  | _, .lit (.int k n) => [.int k n]
  | _, .lit (.bool b) => [.bool b]
  | _, .lit (.string s) => [.string ⟨s.toArray⟩]
  | n + 1, .agg parts => (parts.map (dataCells n)).flatten
  | _, _ => []

section
variable {H : Type} {enc : TypeId × Value → H} {P : Program} {w : World} {base : Nat} {spare : Nat → Bool} {held : Bool}

theorem data_fields {n : Nat} {cs : List Value} {m : Nat}
    (ih : ∀ (t : TypeId) (l : List Leaf) (fuel : Nat) (cs : List Value) (x : DataW H × List MemPlace), leafsOf P n t = some l → DataW.trod enc P w base spare held fuel t cs = some x → cs = dataCells n x.1) :
    ∀ (fs : List Field) (xs : List (DataW H × List MemPlace)) (top off : Nat) (l : List Leaf), cs.length = top →
      fs.foldr (fun f acc => match leafsOf P n f.type, acc with
        | some l, some (at_, r) => if f.offset + l.length = at_ ∧ P.cellsOf f.type = l.length then some (f.offset, l ++ r) else none
        | _, _ => none) (some (top, [])) = some (off, l) → xs.length = fs.length →
      (∀ (i : Nat) (f : Field) (x : DataW H × List MemPlace), fs[i]? = some f → xs[i]? = some x → DataW.trod enc P w base spare held m f.type ((cs.drop f.offset).take (P.cellsOf f.type)) = some x) → off ≤ top ∧ cs.drop off = ((xs.map (·.1)).map (dataCells n)).flatten := by
  intro fs
  induction fs with
  | nil =>
    intro xs top off l hc h hx _
    simp only [List.foldr_nil, Option.some.injEq, Prod.mk.injEq] at h
    obtain ⟨rfl, rfl⟩ := h
    obtain rfl : xs = [] := by simpa using hx
    exact ⟨Nat.le_refl _, by simp [hc]⟩
  | cons f fs ihf =>
    intro xs top off l hc h hlen hx
    cases xs with
    | nil => simp at hlen
    | cons x xs =>
    simp only [List.foldr_cons] at h
    split at h
    · rename_i l1 at_ r hl hr
      split at h
      · rename_i hcond
        obtain ⟨h1, h2⟩ := hcond
        simp only [Option.some.injEq, Prod.mk.injEq] at h
        obtain ⟨rfl, rfl⟩ := h
        obtain ⟨hle, hF⟩ := ihf xs top at_ r hc hr (by simpa using hlen) (fun i g y hg hy => hx (i + 1) g y (by simpa using hg) (by simpa using hy))
        have hx1 := hx 0 f x rfl rfl
        have h3 := ih _ _ _ _ _ hl hx1
        rw [h2] at h3
        refine ⟨by omega, ?_⟩
        have e : cs.drop f.offset = (cs.drop f.offset).take l1.length ++ cs.drop at_ := by
          rw [← h1, ← List.drop_drop, List.take_append_drop]
        rw [e, h3, hF]
        rfl
      · cases h
    · cases h

theorem data_reps {k n : Nat} : ∀ (m : Nat) (cs : List Value) (xs : List (DataW H × List MemPlace)), cs.length = m * k → xs.length = m → (∀ (i : Nat) (x : DataW H × List MemPlace), xs[i]? = some x → (cs.drop (i * k)).take k = dataCells n x.1) → cs = ((xs.map (·.1)).map (dataCells n)).flatten := by
  intro m
  induction m with
  | zero =>
    intro cs xs hc hx _
    obtain rfl : xs = [] := by simpa using hx
    obtain rfl : cs = [] := by simpa using hc
    rfl
  | succ m ih =>
    intro cs xs hc hx h
    cases xs with
    | nil => simp at hx
    | cons x xs =>
    have h0 := h 0 x rfl
    simp only [Nat.zero_mul, List.drop_zero] at h0
    have h1 := ih (cs.drop k) xs (by rw [List.length_drop, hc, Nat.succ_mul]; omega) (by simpa using hx) (fun i y hy => by
      have := h (i + 1) y (by simpa using hy)
      rwa [Nat.succ_mul, Nat.add_comm, ← List.drop_drop] at this)
    rw [← List.take_append_drop k cs, h0, h1]
    rfl

theorem cells_of_data : ∀ (n : Nat) (t : TypeId) (l : List Leaf) (fuel : Nat) (cs : List Value) (x : DataW H × List MemPlace), leafsOf P n t = some l → DataW.trod enc P w base spare held fuel t cs = some x → cs = dataCells n x.1 := by
  intro n
  induction n with
  | zero => intro t l fuel cs x h; cases h
  | succ n ih =>
    intro t l fuel cs x h hx
    unfold leafsOf at h
    split at h
    · rename_i k hu
      obtain ⟨m, rfl, rfl, hw⟩ := DataW.trod_int hu hx
      rfl
    · rename_i hu
      obtain ⟨m, rfl, rfl⟩ := DataW.trod_bool hu hx
      rfl
    · rename_i hu
      obtain ⟨m, rfl, rfl, hw⟩ := DataW.trod_string hu hx
      rfl
    · rename_i fs hu
      obtain ⟨xs, m, _, rfl, hlen, hxl, hg⟩ := DataW.trod_struct hu hx
      obtain ⟨⟨off, l'⟩, h1, h2⟩ := Option.bind_eq_some_iff.1 h
      dsimp only at h2
      split at h2
      · rename_i h0
        obtain rfl := Option.some.inj h2
        subst h0
        have := (data_fields (m := m) ih fs.toList xs (P.cellsOf t) 0 l' hlen h1 (by simpa using hxl) (fun i f y hf hy => by
          rw [hg i f (by rw [← Array.getElem?_toList]; exact hf)]
          exact hy)).2
        simpa [dataCells] using this
      · cases h2
    · rename_i m e hu
      split at h
      · rename_i l' hl'
        split at h
        · rename_i hc
          obtain rfl := Option.some.inj h
          obtain ⟨xs, fu, _, rfl, hlen, hxl, hg⟩ := DataW.trod_array hu hx
          have := data_reps m cs xs (by rw [hlen, hc.2]) hxl (fun i y hy => by
            have hi : i < m := by rw [← hxl]; exact (List.getElem?_eq_some_iff.1 hy).1
            have h3 := hg i hi
            rw [hc.1] at h3
            exact ih _ _ _ _ _ hl' (h3.trans hy))
          simpa [dataCells] using this
        · cases h
      · cases h
    · cases h
end

/-- A listed variable, found on the list. -/
theorem laid_found {P : Program} {W : World} {name : String} {d : DataW Unit} : ∀ {laid : List (String × DataW Unit)} {ps : List MemPlace}, DataW.LaidVars P W laid ps → (name, d) ∈ laid →
    ∃ g t cs fuel p, P.globalNamed name = some g ∧ (P.globals[g]?).map (·.type) = some t ∧ W.var? P name = some cs ∧ DataW.trod (fun _ => ()) P W 0 (fun _ => true) false fuel t cs.toList = some (d, p) := by
  intro laid
  induction laid with
  | nil => intro ps _ hm; cases hm
  | cons y laid ih =>
    intro ps h hm
    obtain ⟨n, e⟩ := y
    obtain ⟨g, t, cs, fuel, p, q, hg, ht, hv, hd, hr, _⟩ := h
    rcases List.mem_cons.1 hm with hh | hh
    · cases hh
      exact ⟨g, t, cs, fuel, p, hg, ht, hv, hd⟩
    · exact ih hr hh

theorem laid_cells {P : Program} {W : World} {laid : List (String × DataW Unit)} {name : String} {d : DataW Unit} {g : Nat} {t : TypeId} (n : Nat) {l : List Leaf} (h : laidMet P laid W) (hm : (name, d) ∈ laid)
    (hg : P.globalNamed name = some g) (ht : (P.globals[g]?).map (·.type) = some t) (hl : leafsOf P n t = some l) : ∀ i, W.cell? ⟨g, i, none⟩ = (dataCells n d)[i]? := by
  obtain ⟨ps, hv, _⟩ := h
  obtain ⟨g', t', cs, fuel, p, hg', ht', hvar, hd⟩ := laid_found hv hm
  obtain rfl := Option.some.inj (hg.symm.trans hg')
  obtain rfl := Option.some.inj (ht.symm.trans ht')
  have hc := cells_of_data n t l fuel cs.toList _ hl hd
  intro i
  rw [World.var?_cell hg hvar i, ← Array.getElem?_toList, hc]
end Go.Proofs.YthjolojpjajppaaGreat
set_option linter.unusedVariables false
set_option linter.unusedSimpArgs false
set_option linter.unnecessarySimpa false
namespace Go.Proofs.YthjolojpjajppaaGreat
open Go.RowKit Go.ChangeShapes Go.WideShapes

section
variable {H : Type} {enc : TypeId × Value → H} {P : Program} {W : World} {base b0 : Nat} {spare : Nat → Bool} {held : Bool}
theorem addr_add_add (a : Addr) (i j : Nat) : (a.add i).add j = a.add (i + j) := by
  unfold Addr.add
  by_cases hi : i = 0 <;> by_cases hj : j = 0 <;> simp [hi, hj, Nat.add_assoc]
theorem open_rowsS {r : Reach} {t e : TypeId} {l : List Leaf} {v : Value} {d : DataW H} {ps : List MemPlace} (n : Nat) (ht : P.underlying t = some (.slice e)) (hl : leafsOf P n e = some l) (hc : P.cellsOf e = l.length)
    (hval : Value.okWide P W r b0 t v) (hd : DataW.Trod enc P W base spare held t v d ps) :
    ∃ (o : Option Addr) (len cap : Nat) (C : Nat → List Value), v = .slice o len cap ∧ len ≤ maxLen ∧ (∀ i, i < len → Fits l (C i)) ∧
      ∀ i, i < len → ∃ a, o = some a ∧ ∀ w', Below W.heap.size W w' → ∀ j, j < l.length → w'.cell? (a.add (i * l.length + j)) = (C i)[j]? := by
  obtain ⟨o, len, cap, rfl⟩ := okWide_slice ht hval
  obtain ⟨fuel, hf⟩ := hd
  rcases Go.Deep.open_slice ht hf with ⟨h1, _⟩ | ⟨a, l', c, m, k, D, Pl, h1, _, h2, h3, h4, _, h5⟩
  · simp [Value.cells] at h1
    obtain ⟨rfl, rfl, rfl⟩ := h1
    exact ⟨none, 0, 0, fun _ => [], rfl, Nat.zero_le _, fun i hi => absurd hi (Nat.not_lt_zero _), fun i hi => absurd hi (Nat.not_lt_zero _)⟩
  · simp [Value.cells] at h1
    obtain ⟨rfl, rfl, rfl⟩ := h1
    have hlm : len ≤ m := by rw [h4]; split <;> omega
    have h6 : ∀ i, ∃ cs', i < m → W.cells? base (a.add (i * P.cellsOf e)) (P.cellsOf e) = some cs' ∧ Fits l cs' := fun i => by
      by_cases hi : i < m
      · obtain ⟨cs', x1, x2⟩ := h5 i hi
        exact ⟨cs', fun _ => ⟨x1, fits_of_trod n e l _ _ _ hl x2⟩⟩
      · exact ⟨[], fun h => absurd h hi⟩
    obtain ⟨C, hC⟩ := Classical.skolem.1 h6
    refine ⟨some a, len, cap, C, rfl, by omega, fun i hi => (hC i (by omega)).2, fun i hi => ⟨a, rfl, fun w' hb j hj => ?_⟩⟩
    obtain ⟨x1, x2⟩ := hC i (by omega)
    rw [hc] at x1
    have x3 := (World.cells?_some x1).2.2 j (by omega)
    rw [addr_add_add] at x3
    have x4 := x2.length
    rw [List.getElem?_eq_getElem (by omega)] at x3 ⊢
    exact cell_stays x3 w' hb

/-- A slice of ints, with what its capacity is. -/
theorem open_intJ {r : Reach} {t e : TypeId} {k : IntKind} {v : Value} {d : DataW H} {ps : List MemPlace} (ht : P.underlying t = some (.slice e)) (he : P.underlying e = some (.int k)) (hc : P.cellsOf e = 1)
    (hval : Value.okWide P W r b0 t v) (hd : DataW.Trod enc P W base spare held t v d ps) :
    ∃ (o : Option Addr) (len cap : Nat) (L : Nat → Int), v = .slice o len cap ∧ (len ≤ maxLen ∧ len ≤ cap) ∧ (∀ i, i < len → (Lit.int k (L i)).wf = true) ∧
      ∀ i, i < len → ∃ a, o = some a ∧ ∀ w', Below W.heap.size W w' → w'.cell? (a.add i) = some (.int k (L i)) := by
  have hd' := hd
  obtain ⟨o, len, cap, L, rfl, h1, h2, h3⟩ := open_intS ht he hc hval hd
  refine ⟨o, len, cap, L, rfl, ⟨h1, ?_⟩, h2, h3⟩
  obtain ⟨fuel, hf⟩ := hd'
  rcases open_ints ht he hc hf with ⟨h1, _⟩ | ⟨a, l, c, zs, h1, _, h4, _⟩
  · simp [Value.cells] at h1
    omega
  · simp [Value.cells] at h1
    omega

/-- A slice of bools. -/
theorem open_boolS {r : Reach} {t e : TypeId} {v : Value} {d : DataW H} {ps : List MemPlace} (ht : P.underlying t = some (.slice e)) (he : leafsOf P 5 e = some [none]) (hc : P.cellsOf e = 1)
    (hval : Value.okWide P W r b0 t v) (hd : DataW.Trod enc P W base spare held t v d ps) :
    ∃ (o : Option Addr) (len cap : Nat) (L : Nat → Bool), v = .slice o len cap ∧ len ≤ maxLen ∧
      ∀ i, i < len → ∃ a, o = some a ∧ ∀ w', Below W.heap.size W w' → w'.cell? (a.add i) = some (.bool (L i)) := by
  obtain ⟨o, len, cap, C, rfl, h1, h2, h3⟩ := open_rowsS 5 ht he (by rw [hc]; rfl) hval hd
  have h4 : ∀ i, ∃ b : Bool, i < len → C i = [.bool b] := fun i => by
    by_cases hi : i < len
    · obtain ⟨_, _, h5, ⟨b, rfl⟩, h6⟩ := h2 i hi
      cases h6
      exact ⟨b, fun _ => h5⟩
    · exact ⟨false, fun h => absurd h hi⟩
  obtain ⟨L, hL⟩ := Classical.skolem.1 h4
  refine ⟨o, len, cap, L, rfl, h1, fun i hi => ?_⟩
  obtain ⟨a, rfl, h7⟩ := h3 i hi
  refine ⟨a, rfl, fun w' hb => ?_⟩
  have := h7 w' hb 0 (by simp)
  rw [hL i hi] at this
  simpa using this

/-- A slice of structs of an int, a string and a bool. -/
theorem open_isbS {r : Reach} {t e : TypeId} {v : Value} {d : DataW H} {ps : List MemPlace} (ht : P.underlying t = some (.slice e)) (he : leafsOf P 5 e = some [some (some .i64), some none, none]) (hc : P.cellsOf e = 3)
    (hval : Value.okWide P W r b0 t v) (hd : DataW.Trod enc P W base spare held t v d ps) :
    ∃ (o : Option Addr) (len cap : Nat) (L : Nat → Int × ByteArray × Bool), v = .slice o len cap ∧ len ≤ maxLen ∧
      (∀ i, i < len → -9223372036854775808 ≤ (L i).1 ∧ (L i).1 ≤ 9223372036854775807 ∧ (L i).2.1.size ≤ maxLen) ∧
      ∀ i, i < len → ∃ a, o = some a ∧ ∀ w', Below W.heap.size W w' →
        w'.cell? (a.add (i * 3)) = some (.int .i64 (L i).1) ∧ w'.cell? ⟨(a.add (i * 3)).block, (a.add (i * 3)).off + 1, none⟩ = some (.string (L i).2.1) ∧ w'.cell? ⟨(a.add (i * 3)).block, (a.add (i * 3)).off + 2, none⟩ = some (.bool (L i).2.2) := by
  obtain ⟨o, len, cap, C, rfl, h1, h2, h3⟩ := open_rowsS 5 ht he (by rw [hc]; rfl) hval hd
  have h4 : ∀ i, ∃ x : Int × ByteArray × Bool, i < len → C i = [.int .i64 x.1, .string x.2.1, .bool x.2.2] ∧ (Lit.int .i64 x.1).wf = true ∧ x.2.1.size ≤ maxLen := fun i => by
    by_cases hi : i < len
    · obtain ⟨_, _, h5, ⟨n, rfl, hn⟩, _, _, rfl, ⟨s, rfl, hs⟩, _, _, rfl, ⟨b, rfl⟩, h6⟩ := h2 i hi
      cases h6
      exact ⟨(n, s, b), fun _ => ⟨h5, hn, hs⟩⟩
    · exact ⟨(0, ⟨#[]⟩, false), fun h => absurd h hi⟩
  obtain ⟨L, hL⟩ := Classical.skolem.1 h4
  refine ⟨o, len, cap, L, rfl, h1, fun i hi => ?_, fun i hi => ?_⟩
  · obtain ⟨_, q1, q2⟩ := hL i hi
    have := bd_i64 q1
    exact ⟨this.1, this.2, q2⟩
  · obtain ⟨a, rfl, h7⟩ := h3 i hi
    refine ⟨a, rfl, fun w' hb => ?_⟩
    obtain ⟨q0, _, _⟩ := hL i hi
    have e0 := h7 w' hb 0 (by simp)
    have e1 := h7 w' hb 1 (by simp)
    have e2 := h7 w' hb 2 (by simp)
    rw [q0] at e0 e1 e2
    simp only [List.length_cons, List.length_nil, Nat.zero_add, Nat.reduceAdd, Nat.add_zero, List.getElem?_cons_zero, List.getElem?_cons_succ] at e0 e1 e2
    rw [← addr_add_add] at e1 e2
    exact ⟨e0, e1, e2⟩
end
end Go.Proofs.YthjolojpjajppaaGreat
set_option linter.unusedVariables false
set_option linter.unusedSimpArgs false
set_option linter.unnecessarySimpa false
namespace Go.Proofs.YthjolojpjajppaaGreat
open Go.RowKit
theorem own : ownKnob Tryz.prog.godebug = none := by kernel_rfl
theorem laidOut : laidOutB Tryz.prog = true := by kernel_rfl
/-- A world for the witness. -/
noncomputable def laidWorld (os : Os) : World := World.holding Tryz.prog os ⟨#[], #[], []⟩
end Go.Proofs.YthjolojpjajppaaGreat
