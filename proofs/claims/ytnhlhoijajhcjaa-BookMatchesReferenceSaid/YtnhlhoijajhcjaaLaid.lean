/- What the listed package-level variables hold when the call begins, cell by cell. -/
import Derived.Test.YtnhlhoijajhcjaaBase
import Derived.Lib.LaidTab
set_option linter.unusedVariables false
set_option linter.unusedSimpArgs false
namespace Go.Proofs.Ytnhlhoijajhcjaa
open Go.RowKit Go.ChangeShapes Go.WideShapes Go.ChangeAt

/-- The cells that read as a datum, if it is flat (to a depth). -/
def dataCells {H : Type} : Nat → DataW H → List Value
  | _, .lit (.int k n) => [.int k n]
  | _, .lit (.bool b) => [.bool b]
  | _, .lit (.string s) => [.string ⟨s.toArray⟩]
  | n + 1, .agg parts => (parts.map (dataCells n)).flatten
  | _, _ => []

section
variable {H : Type} {enc : TypeId × Value → H} {P : Program} {w : World} {base : Nat} {spare : Nat → Bool} {held : Bool}

theorem data_fields {n : Nat} {cs : List Value} {m : Nat}
    (ih : ∀ (t : TypeId) (l : List Leaf) (fuel : Nat) (cs : List Value) (x : DataW H × List MemPlace), leafsOf P n t = some l → DataW.trod enc P w base spare held fuel t cs = some x → cs = dataCells n x.1) :
    ∀ (fs : List Field) (xs : List (DataW H × List MemPlace)) (top off : Nat) (l : List Leaf), cs.length = top →
      fs.foldr (fun f acc => match leafsOf P n f.type, acc with
        | some l, some (at_, r) => if f.offset + l.length = at_ ∧ P.cellsOf f.type = l.length then some (f.offset, l ++ r) else none
        | _, _ => none) (some (top, [])) = some (off, l) → xs.length = fs.length →
      (∀ (i : Nat) (f : Field) (x : DataW H × List MemPlace), fs[i]? = some f → xs[i]? = some x → DataW.trod enc P w base spare held m f.type ((cs.drop f.offset).take (P.cellsOf f.type)) = some x) → off ≤ top ∧ cs.drop off = ((xs.map (·.1)).map (dataCells n)).flatten := by
  intro fs
  induction fs with
  | nil =>
    intro xs top off l hc h hx _
    simp only [List.foldr_nil, Option.some.injEq, Prod.mk.injEq] at h
    obtain ⟨rfl, rfl⟩ := h
    obtain rfl : xs = [] := by simpa using hx
    exact ⟨Nat.le_refl _, by simp [hc]⟩
  | cons f fs ihf =>
    intro xs top off l hc h hlen hx
    cases xs with
    | nil => simp at hlen
    | cons x xs =>
    simp only [List.foldr_cons] at h
    split at h
    · rename_i l1 at_ r hl hr
      split at h
      · rename_i hcond
        obtain ⟨h1, h2⟩ := hcond
        simp only [Option.some.injEq, Prod.mk.injEq] at h
        obtain ⟨rfl, rfl⟩ := h
        obtain ⟨hle, hF⟩ := ihf xs top at_ r hc hr (by simpa using hlen) (fun i g y hg hy => hx (i + 1) g y (by simpa using hg) (by simpa using hy))
        have hx1 := hx 0 f x rfl rfl
        have h3 := ih _ _ _ _ _ hl hx1
        rw [h2] at h3
        refine ⟨by omega, ?_⟩
        have e : cs.drop f.offset = (cs.drop f.offset).take l1.length ++ cs.drop at_ := by
          rw [← h1, ← List.drop_drop, List.take_append_drop]
        rw [e, h3, hF]
        rfl
      · cases h
    · cases h

theorem data_reps {k n : Nat} : ∀ (m : Nat) (cs : List Value) (xs : List (DataW H × List MemPlace)), cs.length = m * k → xs.length = m → (∀ (i : Nat) (x : DataW H × List MemPlace), xs[i]? = some x → (cs.drop (i * k)).take k = dataCells n x.1) → cs = ((xs.map (·.1)).map (dataCells n)).flatten := by
  intro m
  induction m with
  | zero =>
    intro cs xs hc hx _
    obtain rfl : xs = [] := by simpa using hx
    obtain rfl : cs = [] := by simpa using hc
    rfl
  | succ m ih =>
    intro cs xs hc hx h
    cases xs with
    | nil => simp at hx
    | cons x xs =>
    have h0 := h 0 x rfl
    simp only [Nat.zero_mul, List.drop_zero] at h0
    have h1 := ih (cs.drop k) xs (by rw [List.length_drop, hc, Nat.succ_mul]; omega) (by simpa using hx) (fun i y hy => by
      have := h (i + 1) y (by simpa using hy)
      rwa [Nat.succ_mul, Nat.add_comm, ← List.drop_drop] at this)
    rw [← List.take_append_drop k cs, h0, h1]
    rfl

theorem cells_of_data : ∀ (n : Nat) (t : TypeId) (l : List Leaf) (fuel : Nat) (cs : List Value) (x : DataW H × List MemPlace), leafsOf P n t = some l → DataW.trod enc P w base spare held fuel t cs = some x → cs = dataCells n x.1 := by
  intro n
  induction n with
  | zero => intro t l fuel cs x h; cases h
  | succ n ih =>
    intro t l fuel cs x h hx
    unfold leafsOf at h
    split at h
    · rename_i k hu
      obtain ⟨m, rfl, rfl, hw⟩ := DataW.trod_int hu hx
      rfl
    · rename_i hu
      obtain ⟨m, rfl, rfl⟩ := DataW.trod_bool hu hx
      rfl
    · rename_i hu
      obtain ⟨m, rfl, rfl, hw⟩ := DataW.trod_string hu hx
      rfl
    · rename_i fs hu
      obtain ⟨xs, m, _, rfl, hlen, hxl, hg⟩ := DataW.trod_struct hu hx
      obtain ⟨⟨off, l'⟩, h1, h2⟩ := Option.bind_eq_some_iff.1 h
      dsimp only at h2
      split at h2
      · rename_i h0
        obtain rfl := Option.some.inj h2
        subst h0
        have := (data_fields (m := m) ih fs.toList xs (P.cellsOf t) 0 l' hlen h1 (by simpa using hxl) (fun i f y hf hy => by
          rw [hg i f (by rw [← Array.getElem?_toList]; exact hf)]
          exact hy)).2
        simpa [dataCells] using this
      · cases h2
    · rename_i m e hu
      split at h
      · rename_i l' hl'
        split at h
        · rename_i hc
          obtain rfl := Option.some.inj h
          obtain ⟨xs, fu, _, rfl, hlen, hxl, hg⟩ := DataW.trod_array hu hx
          have := data_reps m cs xs (by rw [hlen, hc.2]) hxl (fun i y hy => by
            have hi : i < m := by rw [← hxl]; exact (List.getElem?_eq_some_iff.1 hy).1
            have h3 := hg i hi
            rw [hc.1] at h3
            exact ih _ _ _ _ _ hl' (h3.trans hy))
          simpa [dataCells] using this
        · cases h
      · cases h
    · cases h
end

/-- A listed variable, found on the list. -/
theorem laid_found {P : Program} {W : World} {name : String} {d : DataW Unit} : ∀ {laid : List (String × DataW Unit)} {ps : List MemPlace}, DataW.LaidVars P W laid ps → (name, d) ∈ laid →
    ∃ g t cs fuel p, P.globalNamed name = some g ∧ (P.globals[g]?).map (·.type) = some t ∧ W.var? P name = some cs ∧ DataW.trod (fun _ => ()) P W 0 (fun _ => true) false fuel t cs.toList = some (d, p) := by
  intro laid
  induction laid with
  | nil => intro ps _ hm; cases hm
  | cons y laid ih =>
    intro ps h hm
    obtain ⟨n, e⟩ := y
    obtain ⟨g, t, cs, fuel, p, q, hg, ht, hv, hd, hr, _⟩ := h
    rcases List.mem_cons.1 hm with hh | hh
    · cases hh
      exact ⟨g, t, cs, fuel, p, hg, ht, hv, hd⟩
    · exact ih hr hh

theorem laid_cells {P : Program} {W : World} {laid : List (String × DataW Unit)} {name : String} {d : DataW Unit} {g : Nat} {t : TypeId} (n : Nat) {l : List Leaf} (h : laidMet P laid W) (hm : (name, d) ∈ laid)
    (hg : P.globalNamed name = some g) (ht : (P.globals[g]?).map (·.type) = some t) (hl : leafsOf P n t = some l) : ∀ i, W.cell? ⟨g, i, none⟩ = (dataCells n d)[i]? := by
  obtain ⟨ps, hv, _⟩ := h
  obtain ⟨g', t', cs, fuel, p, hg', ht', hvar, hd⟩ := laid_found hv hm
  obtain rfl := Option.some.inj (hg.symm.trans hg')
  obtain rfl := Option.some.inj (ht.symm.trans ht')
  have hc := cells_of_data n t l fuel cs.toList _ hl hd
  intro i
  rw [World.var?_cell hg hvar i, ← Array.getElem?_toList, hc]
end Go.Proofs.Ytnhlhoijajhcjaa
