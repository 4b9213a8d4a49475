/- Tools of our own that any law's proof uses: what a flat argument reads as, how a law's statement is closed from one contract of its call, and regions whose operations only read or make new blocks. -/
import Derived.Test.YtnhlhoijajhcjaaDoorRows
import Derived.WalkKit
import Derived.WalkSpells
import Derived.WalkLawsBesides
import Derived.BigQuiet
import Derived.Deep.QuietTactic
import Derived.Lib.QuietBelow
import Derived.Lib.Hide
import Derived.ProofKit
import Derived.OpenShut
import Derived.Laws.EntriesVeiled
import Derived.WalkSmall
import Derived.Deep.Cut
import Derived.Deep.DeepHandedRow
set_option linter.unusedVariables false
set_option linter.unusedSimpArgs false
set_option linter.unnecessarySimpa false
namespace Go.Proofs.YtnhlhoijajhcjaaDoor
open Go.RowKit Go.ChangeShapes Go.WideShapes Go.ChangeAt

/-! ### Flat arguments -/
/-- What a cell of a flat type holds: an integer of a kind; a string ('some none'); a bool ('none'). -/
abbrev Leaf := Option (Option IntKind)
def Leaf.fits : Leaf → Value → Prop
  | some (some k), v => ∃ n, v = .int k n ∧ (Lit.int k n).wf = true
  | none, v => ∃ b, v = .bool b
  | some none, v => ∃ s : ByteArray, v = .string s ∧ s.size ≤ maxLen

def Fits : List Leaf → List Value → Prop
  | [], vs => vs = []
  | l :: ls, vs => ∃ v r, vs = v :: r ∧ Leaf.fits l v ∧ Fits ls r

theorem Fits.append {a b : List Leaf} {xs ys : List Value} (h : Fits a xs) (k : Fits b ys) : Fits (a ++ b) (xs ++ ys) := by
  induction a generalizing xs with
  | nil => obtain rfl : xs = [] := h; simpa using k
  | cons l a ih =>
    obtain ⟨v, r, rfl, hl, hr⟩ := h
    exact ⟨v, r ++ ys, rfl, hl, ih hr⟩

theorem Fits.length {a : List Leaf} {xs : List Value} (h : Fits a xs) : xs.length = a.length := by
  induction a generalizing xs with
  | nil => obtain rfl : xs = [] := h; rfl
  | cons l a ih =>
    obtain ⟨v, r, rfl, _, hr⟩ := h
    simp [ih hr]

/-- The leaves of a type, if it is flat. -/
def leafsOf (P : Program) : Nat → TypeId → Option (List Leaf)
  | 0, _ => none
  | n + 1, t =>
    match P.underlying t with
    | some (.int k) => some [some (some k)]
    | some .bool => some [none]
    | some .string => some [some none]
    | some (.struct fs) => fs.toList.foldr (fun f acc => match leafsOf P n f.type, acc with
        | some l, some (at_, r) => if f.offset + l.length = at_ ∧ P.cellsOf f.type = l.length then some (f.offset, l ++ r) else none
        | _, _ => none) (some (P.cellsOf t, [])) |>.bind fun x => if x.1 = 0 then some x.2 else none
    | some (.array m e) => match leafsOf P n e with
        | some l => if P.cellsOf e = l.length ∧ P.cellsOf t = m * l.length then some (List.replicate m l).flatten else none
        | none => none
    | _ => none

section
variable {H : Type} {enc : TypeId × Value → H} {P : Program} {w : World} {base : Nat} {spare : Nat → Bool} {held : Bool}

theorem fits_fields {n : Nat} {cs : List Value} {m : Nat}
    (ih : ∀ (t : TypeId) (l : List Leaf) (fuel : Nat) (cs : List Value) (x : DataW H × List MemPlace), leafsOf P n t = some l → DataW.trod enc P w base spare held fuel t cs = some x → Fits l cs) :
    ∀ (fs : List Field) (top : Nat) (off : Nat) (l : List Leaf), cs.length = top →
      fs.foldr (fun f acc => match leafsOf P n f.type, acc with
        | some l, some (at_, r) => if f.offset + l.length = at_ ∧ P.cellsOf f.type = l.length then some (f.offset, l ++ r) else none
        | _, _ => none) (some (top, [])) = some (off, l) →
      (∀ f ∈ fs, ∃ x, DataW.trod enc P w base spare held m f.type ((cs.drop f.offset).take (P.cellsOf f.type)) = some x) → off ≤ top ∧ Fits l (cs.drop off) := by
  intro fs
  induction fs with
  | nil =>
    intro top off l hc h _
    simp only [List.foldr_nil, Option.some.injEq, Prod.mk.injEq] at h
    obtain ⟨rfl, rfl⟩ := h
    exact ⟨Nat.le_refl _, by show _ = _; simp [hc]⟩
  | cons f fs ihf =>
    intro top off l hc h hx
    simp only [List.foldr_cons] at h
    split at h
    · rename_i l1 at_ r hl hr
      split at h
      · rename_i hcond
        obtain ⟨h1, h2⟩ := hcond
        simp only [Option.some.injEq, Prod.mk.injEq] at h
        obtain ⟨rfl, rfl⟩ := h
        obtain ⟨hle, hF⟩ := ihf top at_ r hc hr (fun g hg => hx g (List.mem_cons_of_mem _ hg))
        obtain ⟨x, hx1⟩ := hx f List.mem_cons_self
        have h3 := ih _ _ _ _ _ hl hx1
        rw [h2] at h3
        refine ⟨by omega, ?_⟩
        have e : cs.drop f.offset = (cs.drop f.offset).take l1.length ++ cs.drop at_ := by
          rw [← h1, ← List.drop_drop, List.take_append_drop]
        rw [e]
        exact h3.append hF
      · cases h
    · cases h

theorem fits_reps {l : List Leaf} : ∀ (m : Nat) (cs : List Value), cs.length = m * l.length → (∀ i, i < m → Fits l ((cs.drop (i * l.length)).take l.length)) → Fits (List.replicate m l).flatten cs := by
  intro m
  induction m with
  | zero =>
    intro cs hc _
    show cs = []
    simpa using hc
  | succ m ih =>
    intro cs hc h
    have h0 := h 0 (by omega)
    simp only [Nat.zero_mul, List.drop_zero] at h0
    have h1 := ih (cs.drop l.length) (by rw [List.length_drop, hc, Nat.succ_mul]; omega) (fun i hi => by
      have := h (i + 1) (by omega)
      rwa [Nat.succ_mul, Nat.add_comm, ← List.drop_drop] at this)
    rw [List.replicate_succ, List.flatten_cons, ← List.take_append_drop l.length cs]
    exact h0.append h1

theorem fits_of_trod : ∀ (n : Nat) (t : TypeId) (l : List Leaf) (fuel : Nat) (cs : List Value) (x : DataW H × List MemPlace), leafsOf P n t = some l → DataW.trod enc P w base spare held fuel t cs = some x → Fits l cs := by
  intro n
  induction n with
  | zero => intro t l fuel cs x h; cases h
  | succ n ih =>
    intro t l fuel cs x h hx
    unfold leafsOf at h
    split at h
    · rename_i k hu
      obtain ⟨m, rfl, _, hw⟩ := DataW.trod_int hu hx
      obtain rfl := Option.some.inj h
      exact ⟨_, _, rfl, ⟨m, rfl, hw⟩, rfl⟩
    · rename_i hu
      obtain ⟨m, rfl, _⟩ := DataW.trod_bool hu hx
      obtain rfl := Option.some.inj h
      exact ⟨_, _, rfl, ⟨m, rfl⟩, rfl⟩
    · rename_i hu
      obtain ⟨m, rfl, _, hw⟩ := DataW.trod_string hu hx
      obtain rfl := Option.some.inj h
      exact ⟨_, _, rfl, ⟨m, rfl, hw⟩, rfl⟩
    · rename_i fs hu
      obtain ⟨xs, m, _, _, hlen, hxl, hg⟩ := DataW.trod_struct hu hx
      obtain ⟨⟨off, l'⟩, h1, h2⟩ := Option.bind_eq_some_iff.1 h
      dsimp only at h2
      split at h2
      · rename_i h0
        obtain rfl := Option.some.inj h2
        subst h0
        have := (fits_fields (m := m) ih fs.toList (P.cellsOf t) 0 l' hlen h1 (fun f hf => by
          obtain ⟨i, hi, rfl⟩ := List.mem_iff_getElem.1 hf
          have := hg i _ (by rw [← Array.getElem?_toList]; exact List.getElem?_eq_getElem hi)
          refine ⟨xs[i]'(by rw [hxl]; simpa using hi), ?_⟩
          rw [this]
          exact List.getElem?_eq_getElem _)).2
        simpa using this
      · cases h2
    · rename_i m e hu
      split at h
      · rename_i l' hl'
        split at h
        · rename_i hc
          obtain rfl := Option.some.inj h
          obtain ⟨xs, fu, _, _, hlen, hxl, hg⟩ := DataW.trod_array hu hx
          refine fits_reps m cs (by rw [hlen, hc.2]) (fun i hi => ?_)
          have := hg i hi
          rw [hc.1] at this
          exact ih _ _ _ _ _ hl' (this.trans (List.getElem?_eq_getElem (by rw [hxl]; exact hi)))
        · cases h
      · cases h
    · cases h

/-- An argument of a flat type: its cells. -/
theorem open_flat {t : TypeId} {v : Value} {d : DataW H} {p : List MemPlace} (n : Nat) {l : List Leaf} (hl : leafsOf P n t = some l) (h : DataW.Trod enc P w base spare held t v d p) : Fits l v.cells.toList := by
  obtain ⟨fuel, hf⟩ := h
  exact fits_of_trod n t l fuel _ _ hl hf

/-- .. that is a struct or an array. -/
theorem open_agg {r : Reach} {b0 : Nat} {t : TypeId} {v : Value} {d : DataW H} {p : List MemPlace} (n : Nat) {l : List Leaf} (hl : leafsOf P n t = some l)
    (ha : (match P.underlying t with | some (.struct _) | some (.array _ _) => true | _ => false) = true) (hv : Value.okWide P w r b0 t v) (h : DataW.Trod enc P w base spare held t v d p) : ∃ cs, v = .agg ⟨cs⟩ ∧ Fits l cs := by
  have hF := open_flat n hl h
  unfold Value.okWide at hv
  split at hv
  · obtain ⟨cs, rfl, _⟩ := hv; exact ⟨cs.toList, rfl, hF⟩
  · obtain ⟨cs, rfl, _⟩ := hv; exact ⟨cs.toList, rfl, hF⟩
  · rename_i h1 h2; split at ha
    · rename_i e; exact absurd e (h1 _)
    · rename_i e; exact absurd e (h2 _ _)
    · cases ha

theorem bd_i64 {n : Int} (h : (Lit.int .i64 n).wf = true) : -9223372036854775808 ≤ n ∧ n ≤ 9223372036854775807 := by
  simpa [Lit.wf, IntKind.min, IntKind.max, IntKind.signed, IntKind.bits] using h

/-! ### From one contract of the call to the law's post -/
theorem trodAll_stays (hl : laidOutB P = true) : ∀ (ts : List TypeId), (∀ t ∈ ts, P.readableRec t = true ∧ t < P.types.size) → ∀ {W W' : World} {vs : List Value} {ds : List (DataW H)} {ps : List MemPlace},
    DataW.TrodAll enc P W 0 (fun _ => true) true ts vs ds ps → Below W.heap.size W W' → (∀ x ∈ ps, x.block < W.heap.size) → DataW.TrodAll enc P W' 0 (fun b => decide (b < W.heap.size)) true ts vs ds ps := by
  intro ts
  induction ts with
  | nil =>
    intro _ W W' vs ds ps h _ _
    obtain ⟨rfl, rfl, rfl⟩ := trodAll_nil h
    exact trodAll_mk0
  | cons t ts ih =>
    intro hr W W' vs ds ps h hb hlt
    obtain ⟨v, vs', d, ds', p, q, rfl, rfl, rfl, h1, h2⟩ := trodAll_cons h
    exact trodAll_cons_mk (Below.trod hl (hr t List.mem_cons_self).1 (hr t List.mem_cons_self).2 h1 hb (fun x hx => hlt x (List.mem_append_left _ hx)))
      (ih (fun t' ht' => hr t' (List.mem_cons_of_mem _ ht')) h2 hb (fun x hx => hlt x (List.mem_append_right _ hx)))

theorem law_post {f : Func} {s : ChangeSpec} {fresh handsOn : Bool} {W W' : World} {args : Array Value} {ds gs : List (DataW H)} {before : List MemPlace} {tb : TypeId}
    (hl : laidOutB P = true) (hp : (f.params.toList.all fun t => P.readableRec t && decide (t < P.types.size)) = true) (hv : s.vars = []) (hr : f.resultTypes = #[tb]) (ht : P.underlying tb = some .bool)
    (hW : DataW.Whole enc P f.params.toList s.vars false W args.toList ds gs before) (hs : s.fn H (ds ++ []) = { results := [.lit (.bool true)], args := ds }) (hb : Below W.heap.size W W') :
    s.post enc P f false fresh handsOn false W args (.bool true) W' := by
  have hW' := hW
  obtain ⟨p, q, hA, hV, rfl, hfz, hnd⟩ := hW
  rw [hv] at hV
  obtain ⟨rfl, rfl⟩ := trodVars_none hV
  rw [List.append_nil] at hW'
  have hlt : ∀ x ∈ p, x.block < W.heap.size := fun x hx => hW'.lt x hx
  refine ⟨ds, [], p, [], p, [], hW', ?_, ?_, ?_, hb.frame _, fun h => by cases h⟩
  · rw [hs, hr]
    exact trodAll_cons_mk (shut_bool ht true) trodAll_mk0
  · rw [hs]
    exact trodAll_stays hl _ (fun t ht => by have := List.all_eq_true.1 hp t ht; simpa using this) hA hb hlt
  · rw [hs, hv]
    rfl

theorem bcell {W w1 : World} (hb : Below W.heap.size W w1) : (∀ b o, b < W.heap.size → w1.cell? ⟨b, o, none⟩ = W.cell? ⟨b, o, none⟩) ∧ (∀ b o, b < W.heap.size → w1.frozen? ⟨b, o, none⟩ = W.frozen? ⟨b, o, none⟩) :=
  ⟨fun b o h => hb.cell (p := ⟨b, o, none⟩) h, fun b o h => hb.frozen (p := ⟨b, o, none⟩) h⟩

theorem cell_far (w : World) (p a : Addr) (v : Value) (h : a.block ≠ p.block) : (w.setCell p v).cell? a = w.cell? a :=
  World.cell?_of_block (w := w) (Below.heap_setCell _ _ _ _ h)

theorem setCell_twice (w : World) (a : Addr) (u v : Value) : (w.setCell a u).setCell a v = w.setCell a v := by
  simp only [World.setCell]
  congr 1
  apply Array.ext_getElem?
  intro i
  simp only [Array.getElem?_modify]
  by_cases h : a.block = i
  · simp only [h, if_true]
    cases w.heap[i]? with
    | none => rfl
    | some o => cases o <;> first | (simp; done) | (simp; split <;> simp)
  · simp [h]

/-- Behind a call that turns nothing that was there: what lay below B + K reads as before. -/
theorem after {W w2 : World} {B : Nat} (K : Nat) (hb : Below W.heap.size W w2) (hK : B + K ≤ W.heap.size) :
    (∀ b o, b < B + K → w2.cell? ⟨b, o, none⟩ = W.cell? ⟨b, o, none⟩) ∧ (∀ b o, b < B + K → w2.frozen? ⟨b, o, none⟩ = W.frozen? ⟨b, o, none⟩) ∧ B + K ≤ w2.heap.size :=
  ⟨fun b o h => hb.cell (p := ⟨b, o, none⟩) (Nat.lt_of_lt_of_le h hK), fun b o h => hb.frozen (p := ⟨b, o, none⟩) (Nat.lt_of_lt_of_le h hK), Nat.le_trans hK hb.size⟩
theorem Below.andThen {a w w' : World} (h : Below a.heap.size a w) (k : Below w.heap.size w w') : Below a.heap.size a w' := h.trans (k.mono h.size)
end

end Go.Proofs.YtnhlhoijajhcjaaDoor
