/- Tools of our own that any law's proof uses: what a flat argument reads as, how a law's statement is closed from one contract of its call, and regions whose operations only read or make new blocks. -/
/- Regions whose order Go leaves open: all operations but the last few only read, or call what makes new blocks alone; the last few store, in one forced order. One walk in the order of the text serves every order. -/
/- Blocks of bytes that a function makes and fills. -/
/- Parameters that are slices of ints, of strings and of bytes. -/
/- Regions whose order Go leaves open and that make one new variable beside calls: the variable's block is another one in each order, and nothing else differs. -/
/- Regions in which an operation that only hands on (an extract, a move) need not come ahead of a store: it may be put ahead of it, in every order. -/
/- What lies in the blocks that a long function makes, carried from call to call. -/
/- Slices whose elements have a fixed number of cells, whatever these are: where they lie, own rows of them, append. -/
import Derived.Test.YthjolojpjajppaaGreatRows
import Derived.WalkKit
import Derived.WalkSpells
import Derived.WalkLawsBesides
import Derived.BigQuiet
import Derived.Deep.QuietTactic
import Derived.Lib.QuietBelow
import Derived.Lib.Hide
import Derived.ProofKit
import Derived.OpenShut
import Derived.Laws.EntriesVeiled
import Derived.WalkSmall
import Derived.Deep.Cut
import Derived.Deep.DeepHandedRow
import Derived.StillTail
import Derived.Lib.MinMax
import Derived.Laws.MakeOwn
import Derived.Laws.IdiomStrings
import Derived.ChangeSlices
import Derived.Deep.Strs
import Derived.LoopTactic
import Derived.OwnWalk
import Derived.Laws.AppendOwn
import Derived.BigRegion
import Derived.Deep.RegionLaw
import Derived.Deep.AppendLies
import Derived.Deep.DeepCutAuto
set_option linter.unusedVariables false
set_option linter.unusedSimpArgs false
set_option linter.unnecessarySimpa false
namespace Go.Proofs.YthjolojpjajppaaGreat
open Go.RowKit Go.ChangeShapes Go.WideShapes Go.ChangeAt

/-! ### Flat arguments -/
/-- What a cell of a flat type holds: an integer of a kind; a string ('some none'); a bool ('none'). -/
abbrev Leaf := Option (Option IntKind)
def Leaf.fits : Leaf → Value → Prop
  | some (some k), v => ∃ n, v = .int k n ∧ (Lit.int k n).wf = true
  | none, v => ∃ b, v = .bool b
  | some none, v => ∃ s : ByteArray, v = .string s ∧ s.size ≤ maxLen

def Fits : List Leaf → List Value → Prop
  | [], vs => vs = []
  | l :: ls, vs => ∃ v r, vs = v :: r ∧ Leaf.fits l v ∧ Fits ls r

theorem Fits.append {a b : List Leaf} {xs ys : List Value} (h : Fits a xs) (k : Fits b ys) : Fits (a ++ b) (xs ++ ys) := by
  induction a generalizing xs with
  | nil => obtain rfl : xs = [] := h; simpa using k
  | cons l a ih =>
    obtain ⟨v, r, rfl, hl, hr⟩ := h
    exact ⟨v, r ++ ys, rfl, hl, ih hr⟩

theorem Fits.length {a : List Leaf} {xs : List Value} (h : Fits a xs) : xs.length = a.length := by
  induction a generalizing xs with
  | nil => obtain rfl : xs = [] := h; rfl
  | cons l a ih =>
    obtain ⟨v, r, rfl, _, hr⟩ := h
    simp [ih hr]

/-- The leaves of a type, if it is flat. -/
def leafsOf (P : Program) : Nat → TypeId → Option (List Leaf)
  | 0, _ => none
  | n + 1, t =>
    match P.underlying t with
    | some (.int k) => some [some (some k)]
    | some .bool => some [none]
    | some .string => some [some none]
    | some (.struct fs) => fs.toList.foldr (fun f acc => match leafsOf P n f.type, acc with
        | some l, some (at_, r) => if f.offset + l.length = at_ ∧ P.cellsOf f.type = l.length then some (f.offset, l ++ r) else none
        | _, _ => none) (some (P.cellsOf t, [])) |>.bind fun x => if x.1 = 0 then some x.2 else none
    | some (.array m e) => match leafsOf P n e with
        | some l => if P.cellsOf e = l.length ∧ P.cellsOf t = m * l.length then some (List.replicate m l).flatten else none
        | none => none
    | _ => none

section
variable {H : Type} {enc : TypeId × Value → H} {P : Program} {w : World} {base : Nat} {spare : Nat → Bool} {held : Bool}

theorem fits_fields {n : Nat} {cs : List Value} {m : Nat}
    (ih : ∀ (t : TypeId) (l : List Leaf) (fuel : Nat) (cs : List Value) (x : DataW H × List MemPlace), leafsOf P n t = some l → DataW.trod enc P w base spare held fuel t cs = some x → Fits l cs) :
    ∀ (fs : List Field) (top : Nat) (off : Nat) (l : List Leaf), cs.length = top →
      fs.foldr (fun f acc => match leafsOf P n f.type, acc with
        | some l, some (at_, r) => if f.offset + l.length = at_ ∧ P.cellsOf f.type = l.length then some (f.offset, l ++ r) else none
        | _, _ => none) (some (top, [])) = some (off, l) →
      (∀ f ∈ fs, ∃ x, DataW.trod enc P w base spare held m f.type ((cs.drop f.offset).take (P.cellsOf f.type)) = some x) → off ≤ top ∧ Fits l (cs.drop off) := by
  intro fs
  induction fs with
  | nil =>
    intro top off l hc h _
    simp only [List.foldr_nil, Option.some.injEq, Prod.mk.injEq] at h
    obtain ⟨rfl, rfl⟩ := h
    exact ⟨Nat.le_refl _, by show _ = _; simp [hc]⟩
  | cons f fs ihf =>
    intro top off l hc h hx
    simp only [List.foldr_cons] at h
    split at h
    · rename_i l1 at_ r hl hr
      split at h
      · rename_i hcond
        obtain ⟨h1, h2⟩ := hcond
        simp only [Option.some.injEq, Prod.mk.injEq] at h
        obtain ⟨rfl, rfl⟩ := h
        obtain ⟨hle, hF⟩ := ihf top at_ r hc hr (fun g hg => hx g (List.mem_cons_of_mem _ hg))
        obtain ⟨x, hx1⟩ := hx f List.mem_cons_self
        have h3 := ih _ _ _ _ _ hl hx1
        rw [h2] at h3
        refine ⟨by omega, ?_⟩
        have e : cs.drop f.offset = (cs.drop f.offset).take l1.length ++ cs.drop at_ := by
          rw [← h1, ← List.drop_drop, List.take_append_drop]
        rw [e]
        exact h3.append hF
      · cases h
    · cases h

theorem fits_reps {l : List Leaf} : ∀ (m : Nat) (cs : List Value), cs.length = m * l.length → (∀ i, i < m → Fits l ((cs.drop (i * l.length)).take l.length)) → Fits (List.replicate m l).flatten cs := by
  intro m
  induction m with
  | zero =>
    intro cs hc _
    show cs = []
    simpa using hc
  | succ m ih =>
    intro cs hc h
    have h0 := h 0 (by omega)
    simp only [Nat.zero_mul, List.drop_zero] at h0
    have h1 := ih (cs.drop l.length) (by rw [List.length_drop, hc, Nat.succ_mul]; omega) (fun i hi => by
      have := h (i + 1) (by omega)
      rwa [Nat.succ_mul, Nat.add_comm, ← List.drop_drop] at this)
    rw [List.replicate_succ, List.flatten_cons, ← List.take_append_drop l.length cs]
    exact h0.append h1

theorem fits_of_trod : ∀ (n : Nat) (t : TypeId) (l : List Leaf) (fuel : Nat) (cs : List Value) (x : DataW H × List MemPlace), leafsOf P n t = some l → DataW.trod enc P w base spare held fuel t cs = some x → Fits l cs := by
  intro n
  induction n with
  | zero => intro t l fuel cs x h; cases h
  | succ n ih =>
    intro t l fuel cs x h hx
    unfold leafsOf at h
    split at h
    · rename_i k hu
      obtain ⟨m, rfl, _, hw⟩ := DataW.trod_int hu hx
      obtain rfl := Option.some.inj h
      exact ⟨_, _, rfl, ⟨m, rfl, hw⟩, rfl⟩
    · rename_i hu
      obtain ⟨m, rfl, _⟩ := DataW.trod_bool hu hx
      obtain rfl := Option.some.inj h
      exact ⟨_, _, rfl, ⟨m, rfl⟩, rfl⟩
    · rename_i hu
      obtain ⟨m, rfl, _, hw⟩ := DataW.trod_string hu hx
      obtain rfl := Option.some.inj h
      exact ⟨_, _, rfl, ⟨m, rfl, hw⟩, rfl⟩
    · rename_i fs hu
      obtain ⟨xs, m, _, _, hlen, hxl, hg⟩ := DataW.trod_struct hu hx
      obtain ⟨⟨off, l'⟩, h1, h2⟩ := Option.bind_eq_some_iff.1 h
      dsimp only at h2
      split at h2
      · rename_i h0
        obtain rfl := Option.some.inj h2
        subst h0
        have := (fits_fields (m := m) ih fs.toList (P.cellsOf t) 0 l' hlen h1 (fun f hf => by
          obtain ⟨i, hi, rfl⟩ := List.mem_iff_getElem.1 hf
          have := hg i _ (by rw [← Array.getElem?_toList]; exact List.getElem?_eq_getElem hi)
          refine ⟨xs[i]'(by rw [hxl]; simpa using hi), ?_⟩
          rw [this]
          exact List.getElem?_eq_getElem _)).2
        simpa using this
      · cases h2
    · rename_i m e hu
      split at h
      · rename_i l' hl'
        split at h
        · rename_i hc
          obtain rfl := Option.some.inj h
          obtain ⟨xs, fu, _, _, hlen, hxl, hg⟩ := DataW.trod_array hu hx
          refine fits_reps m cs (by rw [hlen, hc.2]) (fun i hi => ?_)
          have := hg i hi
          rw [hc.1] at this
          exact ih _ _ _ _ _ hl' (this.trans (List.getElem?_eq_getElem (by rw [hxl]; exact hi)))
        · cases h
      · cases h
    · cases h

/-- An argument of a flat type: its cells. -/
theorem open_flat {t : TypeId} {v : Value} {d : DataW H} {p : List MemPlace} (n : Nat) {l : List Leaf} (hl : leafsOf P n t = some l) (h : DataW.Trod enc P w base spare held t v d p) : Fits l v.cells.toList := by
  obtain ⟨fuel, hf⟩ := h
  exact fits_of_trod n t l fuel _ _ hl hf

/-- .. that is a struct or an array. -/
theorem open_agg {r : Reach} {b0 : Nat} {t : TypeId} {v : Value} {d : DataW H} {p : List MemPlace} (n : Nat) {l : List Leaf} (hl : leafsOf P n t = some l)
    (ha : (match P.underlying t with | some (.struct _) | some (.array _ _) => true | _ => false) = true) (hv : Value.okWide P w r b0 t v) (h : DataW.Trod enc P w base spare held t v d p) : ∃ cs, v = .agg ⟨cs⟩ ∧ Fits l cs := by
  have hF := open_flat n hl h
  unfold Value.okWide at hv
  split at hv
  · obtain ⟨cs, rfl, _⟩ := hv; exact ⟨cs.toList, rfl, hF⟩
  · obtain ⟨cs, rfl, _⟩ := hv; exact ⟨cs.toList, rfl, hF⟩
  · rename_i h1 h2; split at ha
    · rename_i e; exact absurd e (h1 _)
    · rename_i e; exact absurd e (h2 _ _)
    · cases ha

theorem bd_i64 {n : Int} (h : (Lit.int .i64 n).wf = true) : -9223372036854775808 ≤ n ∧ n ≤ 9223372036854775807 := by
  simpa [Lit.wf, IntKind.min, IntKind.max, IntKind.signed, IntKind.bits] using h

/-! ### From one contract of the call to the law's post -/
theorem trodAll_stays (hl : laidOutB P = true) : ∀ (ts : List TypeId), (∀ t ∈ ts, P.readableRec t = true ∧ t < P.types.size) → ∀ {W W' : World} {vs : List Value} {ds : List (DataW H)} {ps : List MemPlace},
    DataW.TrodAll enc P W 0 (fun _ => true) true ts vs ds ps → Below W.heap.size W W' → (∀ x ∈ ps, x.block < W.heap.size) → DataW.TrodAll enc P W' 0 (fun b => decide (b < W.heap.size)) true ts vs ds ps := by
  intro ts
  induction ts with
  | nil =>
    intro _ W W' vs ds ps h _ _
    obtain ⟨rfl, rfl, rfl⟩ := trodAll_nil h
    exact trodAll_mk0
  | cons t ts ih =>
    intro hr W W' vs ds ps h hb hlt
    obtain ⟨v, vs', d, ds', p, q, rfl, rfl, rfl, h1, h2⟩ := trodAll_cons h
    exact trodAll_cons_mk (Below.trod hl (hr t List.mem_cons_self).1 (hr t List.mem_cons_self).2 h1 hb (fun x hx => hlt x (List.mem_append_left _ hx)))
      (ih (fun t' ht' => hr t' (List.mem_cons_of_mem _ ht')) h2 hb (fun x hx => hlt x (List.mem_append_right _ hx)))

theorem law_post {f : Func} {s : ChangeSpec} {fresh handsOn : Bool} {W W' : World} {args : Array Value} {ds gs : List (DataW H)} {before : List MemPlace} {tb : TypeId}
    (hl : laidOutB P = true) (hp : (f.params.toList.all fun t => P.readableRec t && decide (t < P.types.size)) = true) (hv : s.vars = []) (hr : f.resultTypes = #[tb]) (ht : P.underlying tb = some .bool)
    (hW : DataW.Whole enc P f.params.toList s.vars false W args.toList ds gs before) (hs : s.fn H (ds ++ []) = { results := [.lit (.bool true)], args := ds }) (hb : Below W.heap.size W W') :
    s.post enc P f false fresh handsOn false W args (.bool true) W' := by
  have hW' := hW
  obtain ⟨p, q, hA, hV, rfl, hfz, hnd⟩ := hW
  rw [hv] at hV
  obtain ⟨rfl, rfl⟩ := trodVars_none hV
  rw [List.append_nil] at hW'
  have hlt : ∀ x ∈ p, x.block < W.heap.size := fun x hx => hW'.lt x hx
  refine ⟨ds, [], p, [], p, [], hW', ?_, ?_, ?_, hb.frame _, fun h => by cases h⟩
  · rw [hs, hr]
    exact trodAll_cons_mk (shut_bool ht true) trodAll_mk0
  · rw [hs]
    exact trodAll_stays hl _ (fun t ht => by have := List.all_eq_true.1 hp t ht; simpa using this) hA hb hlt
  · rw [hs, hv]
    rfl

theorem bcell {W w1 : World} (hb : Below W.heap.size W w1) : (∀ b o, b < W.heap.size → w1.cell? ⟨b, o, none⟩ = W.cell? ⟨b, o, none⟩) ∧ (∀ b o, b < W.heap.size → w1.frozen? ⟨b, o, none⟩ = W.frozen? ⟨b, o, none⟩) :=
  ⟨fun b o h => hb.cell (p := ⟨b, o, none⟩) h, fun b o h => hb.frozen (p := ⟨b, o, none⟩) h⟩

theorem cell_far (w : World) (p a : Addr) (v : Value) (h : a.block ≠ p.block) : (w.setCell p v).cell? a = w.cell? a :=
  World.cell?_of_block (w := w) (Below.heap_setCell _ _ _ _ h)

theorem setCell_twice (w : World) (a : Addr) (u v : Value) : (w.setCell a u).setCell a v = w.setCell a v := by
  simp only [World.setCell]
  congr 1
  apply Array.ext_getElem?
  intro i
  simp only [Array.getElem?_modify]
  by_cases h : a.block = i
  · simp only [h, if_true]
    cases w.heap[i]? with
    | none => rfl
    | some o => cases o <;> first | (simp; done) | (simp; split <;> simp)
  · simp [h]

/-- Behind a call that turns nothing that was there: what lay below B + K reads as before. -/
theorem after {W w2 : World} {B : Nat} (K : Nat) (hb : Below W.heap.size W w2) (hK : B + K ≤ W.heap.size) :
    (∀ b o, b < B + K → w2.cell? ⟨b, o, none⟩ = W.cell? ⟨b, o, none⟩) ∧ (∀ b o, b < B + K → w2.frozen? ⟨b, o, none⟩ = W.frozen? ⟨b, o, none⟩) ∧ B + K ≤ w2.heap.size :=
  ⟨fun b o h => hb.cell (p := ⟨b, o, none⟩) (Nat.lt_of_lt_of_le h hK), fun b o h => hb.frozen (p := ⟨b, o, none⟩) (Nat.lt_of_lt_of_le h hK), Nat.le_trans hK hb.size⟩
theorem Below.andThen {a w w' : World} (h : Below a.heap.size a w) (k : Below w.heap.size w w') : Below a.heap.size a w' := h.trans (k.mono h.size)
end

end Go.Proofs.YthjolojpjajppaaGreat
set_option linter.unusedVariables false
set_option linter.unusedSimpArgs false
set_option linter.unnecessarySimpa false
namespace Go.Proofs.YthjolojpjajppaaGreat
open Go.RowKit

section
variable {P : Program} {ops : Array Oper} {md : Region.Mode} {C : World → Prop}

/-- Whatever comes up while the first n operations are not all done is one of them, and quiet in the class; then L. -/
def headAny (P : Program) (md : Region.Mode) (ops : Array Oper) (C : World → Prop) (n : Nat) (L : Array Bool → Act → Prop) : Nat → Array Bool → Act → Prop
  | 0, listed, a => L listed a
  | f + 1, listed, a => Region.ready md ops listed ≠ [] ∧ ∀ i ∈ Region.ready md ops listed, i < n ∧ qOp P ops C i (headAny P md ops C n L f (listed.setIfInBounds i true)) a

theorem wpAny_of_headAny {n g : Nat} {L : Array Bool → Act → Prop} {Q' : Exit → Act → World → Prop} (hL : ∀ listed a w, C w → L listed a → wpAny P md ops Q' g listed a w) :
    ∀ (f : Nat) (listed : Array Bool) (a : Act) (w : World), C w → headAny P md ops C n L f listed a → wpAny P md ops Q' (f + g) listed a w
  | 0, _, _, _, hw, h => by rw [Nat.zero_add]; exact hL _ _ _ hw h
  | f + 1, _, _, _, hw, h => by
    rw [show f + 1 + g = (f + g) + 1 by omega]
    exact ⟨fun h0 => absurd h0 h.1, fun i hi => wpOp_of_qOp hw (fun a' w' hw' hK => wpAny_of_headAny hL f _ a' w' hw' hK) (h.2 i hi).2⟩

theorem headAny_first {n i : Nat} {oi : Oper} {v : Value} {L : Array Bool → Act → Prop} (hi : ops[i]? = some oi) (hsel : ∀ (j : Nat) (o : Oper) cs b, ops[j]? = some o → o.op ≠ .select cs b)
    (hs : Region.sinkB md ops n = true) (hc : Region.chainB md ops n = true) (hn : n < ops.size) (hin : i < n)
    (hdone : ∀ listed a, L listed a → ∀ j ∈ Region.ready md ops listed, n ≤ j) :
    ∀ (f : Nat) (listed : Array Bool) (a : Act), HeadInv md ops n listed →
      (∀ j oj, ops[j]? = some oj → j ≠ i → listed.getD j true = false → (∀ e ∈ oj.after, Region.binds md e = true → e.on ≠ i) → oi.apart ops oj = true) →
      i ∈ Region.ready md ops listed → YieldsIn P ops C oi v a →
      headAny P md ops C n L f (listed.setIfInBounds i true) (a.put oi.dst v) → headAny P md ops C n L (f + 1) listed a := by
  intro f
  induction f with
  | zero =>
    intro listed a inv _ hr hy H
    have hun := (mem_ready.1 hr).1
    refine ⟨List.ne_nil_of_mem hr, fun j hj => ?_⟩
    have hjn : j < n := Nat.lt_of_not_le fun h => absurd hj (tail_waits hs hc hn inv _ i rfl hin hun j h)
    refine ⟨hjn, ?_⟩
    by_cases hji : j = i
    · subst hji; exact hy.qOp hi H
    · have := hdone _ _ H j (ready_mono hj hji)
      omega
  | succ f ih =>
    intro listed a inv hfree hr hy H
    have hun := (mem_ready.1 hr).1
    refine ⟨List.ne_nil_of_mem hr, fun j hj => ?_⟩
    have hjn : j < n := Nat.lt_of_not_le fun h => absurd hj (tail_waits hs hc hn inv _ i rfl hin hun j h)
    refine ⟨hjn, ?_⟩
    by_cases hji : j = i
    · subst hji; exact hy.qOp hi H
    · have h1 := (H.2 j (ready_mono hj hji)).2
      obtain ⟨hjun, oj, hoj, hall⟩ := mem_ready.1 hj
      have hnot : ∀ e ∈ oj.after, Region.binds md e = true → e.on ≠ i := fun e he hb heq => by
        have h1 := hall e he hb
        rw [heq, getD_both hun] at h1
        cases h1
      have h2 := qOp_put hoj (hfree j oj hoj hji hjun hnot) (fun cs b => hsel i oi cs b hi) (fun cs b => hsel j oj cs b hoj) hy h1
      have hfree' : ∀ k ok, ops[k]? = some ok → k ≠ i → (listed.setIfInBounds j true).getD k true = false →
          (∀ e ∈ ok.after, Region.binds md e = true → e.on ≠ i) → oi.apart ops ok = true := fun k ok hk hki hu hno => by
        refine hfree k ok hk hki ?_ hno
        by_cases hjk : j = k
        · subst hjk; exact hjun
        · rw [getD_set_ne true hjk] at hu; exact hu
      refine qOp_mono (fun a' h3 => ih (listed.setIfInBounds j true) a' (inv.set hj hjn) hfree' (ready_mono hr (Ne.symm hji)) h3.1 ?_) h2
      rw [Array.setIfInBounds_comm _ _ hji]
      exact h3.2

theorem headAny_lex {n g : Nat} {Lq : Act → Prop} (hsel : Region.noSelect ops = true) (hs : Region.sinkB md ops n = true) (hc : Region.chainB md ops n = true) (hn : n < ops.size) :
    ∀ (l : List Oper) (k : Nat) (listed : Array Bool) (a : Act), (∀ j, j < l.length → l[j]? = ops[k + j]?) → k + l.length = n → HeadInv md ops n listed →
    Region.lexHead md ops g l.length k listed = true → wpQuiet P ops C Lq l a →
    headAny P md ops C n (fun listed' a' => Region.seqB md ops g n listed' = true ∧ Lq a') l.length listed a
  | [], k, listed, a, _, hk, _, hB, h => by
    obtain rfl : k = n := by simpa using hk
    exact ⟨by simpa [Region.lexHead] using hB, h⟩
  | o :: l, k, listed, a, hl, hk, inv, hB, h => by
    have h0 : ops[k]? = some o := by simpa using (hl 0 (by simp)).symm
    simp only [List.length_cons, Region.lexHead, Bool.and_eq_true] at hB
    obtain ⟨⟨hr, hf⟩, hB'⟩ := hB
    have hkn : k < n := by simp only [List.length_cons] at hk; omega
    have hr' : k ∈ Region.ready md ops listed := by simpa using hr
    have hst : qOp P ops C k (wpQuiet P ops C Lq l) a := by unfold qOp; simp only [h0]; exact h
    obtain ⟨v, hy, hK⟩ := yieldsIn_of_qOp h0 hst
    exact headAny_first h0 (Region.noSelect_spec hsel) hs hc hn hkn (fun listed' a' hL => seqB_ready hL.1) l.length listed a inv (Region.free_spec h0 hf) hr' hy
      (headAny_lex hsel hs hc hn l (k + 1) _ _ (fun j hj => by have := hl (j + 1) (by simp; omega); simpa [Nat.add_assoc, Nat.add_comm 1 j] using this) (by simp only [List.length_cons] at hk; omega) (inv.set hr' hkn) hB' hK)

/-- The first n operations quiet in the class, the others in their one order behind them. -/
theorem any_class_tail {Q : Exit → Act → World → Prop} {a : Act} {w : World} {l : List Oper} (n : Nat) (hB : Region.lexTailB .any l.toArray n = true)
    (hC : C { w with drawn := w.drawn + 1 })
    (h : wpQuiet P l.toArray C (fun a' => ∀ w', C w' → wpList P l.toArray Q (l.drop n) a' w') (l.take n) a) : wpAny P .any l.toArray Q l.toArray.size (Array.replicate l.toArray.size false) a { w with drawn := w.drawn + 1 } := by
  simp only [Region.lexTailB, Bool.and_eq_true, decide_eq_true_eq] at hB
  obtain ⟨⟨⟨⟨hsel, hn⟩, hs⟩, hc⟩, hlex⟩ := hB
  have htl : (l.take n).length = n := by simp at hn; simp; omega
  have hdl : (l.drop n).length = l.toArray.size - n := by simp
  have inv0 : HeadInv .any l.toArray n (Array.replicate l.toArray.size false) :=
    ⟨by simp, fun j oj _ hl => (by rw [getD_replicate_false] at hl; cases hl), fun t _ ht => getD_in (by simpa using ht) (getD_replicate_false _ _)⟩
  have H := headAny_lex (md := .any) (g := l.toArray.size - n) hsel hs hc hn (l.take n) 0 _ a (fun j hj => by
    have hj' : j < n := by rw [htl] at hj; exact hj
    simp [hj']) (by simpa using htl) inv0 (by rw [htl]; exact hlex) h
  have := wpAny_of_headAny (Q' := Q) (g := l.toArray.size - n) (fun listed' a' w' hw' hL => by
    have := wpAny_of_seq (md := .any) (Q' := Q) (l.drop n) n listed' a' w' (fun j => by simp [List.getElem?_drop]) (by rw [hdl]; exact hL.1) (hL.2 w' hw')
    rwa [hdl] at this) _ _ _ _ hC H
  rw [htl, show n + (l.toArray.size - n) = l.toArray.size by omega] at this
  exact this
theorem wp_region_class_tail {id : Nat} {Q : Exit → Act → World → Prop} {a : Act} {w : World} {l : List Oper} (n : Nat) (hm : P.follows .mixedOrders = true) (hB : Region.lexTailB .any l.toArray n = true)
    (hC : C { w with drawn := w.drawn + 1 })
    (h : wpQuiet P l.toArray C (fun a' => ∀ w', C w' → wpList P l.toArray Q (l.drop n) a' w') (l.take n) a) : (Code.region id l.toArray true).wp P Q a w :=
  wp_region_any hm (any_class_tail n hB hC h)
end

/-! ### The class of worlds that differ from w in new blocks alone -/
structure Kin (w : World) where
  it : World
  below : Below w.heap.size w it

instance Kin.any (w : World) : Inhabited (Kin w) := ⟨⟨w, Below.refl _ _⟩⟩

theorem Kin.cell {w : World} {a : Addr} {v : Value} (h : w.cell? a = some v) (k : Kin w) : k.it.cell? a = some v := by
  rw [k.below.cell (World.block_lt_of_cell? w a h)]; exact h

/-- A callee's contract, met in a world of the class. -/
theorem Calls.kin {P : Program} {f : FuncId} {args : Array Value} {w : World} {k : Kin w} {v : Value}
    (h : Calls P f args k.it fun e w' => e = .returned v ∧ Below k.it.heap.size k.it w') : Calls P f args k.it fun e w'' => e = .returned v ∧ ∃ k' : Kin w, w'' = k'.it :=
  h.mono fun _ w' ⟨he, hb⟩ => ⟨he, ⟨w', k.below.trans (hb.mono k.below.size)⟩, rfl⟩
theorem Calls.kin_same {P : Program} {f : FuncId} {args : Array Value} {w : World} {k : Kin w} {v : Value}
    (h : Calls P f args k.it fun e w' => e = .returned v ∧ k.it = w') : Calls P f args k.it fun e w'' => e = .returned v ∧ ∃ k' : Kin w, w'' = k'.it :=
  h.mono fun _ _ ⟨he, hb⟩ => ⟨he, k, hb.symm⟩

theorem Kin.reads {w : World} {B K : Nat} (hK : B + K ≤ w.heap.size) (k : Kin w) (b o : Nat) (h : b < B + K) : k.it.cell? ⟨b, o, none⟩ = w.cell? ⟨b, o, none⟩ :=
  k.below.cell (p := ⟨b, o, none⟩) (Nat.lt_of_lt_of_le h hK)

/-- What the walk is told of the class: what lies below B + K reads as in w. -/
theorem wp_region_kin {P : Program} {id : Nat} {Q : Exit → Act → World → Prop} {a : Act} {w : World} {l : List Oper} (hm : P.follows .mixedOrders = true) (hB : Region.lexB .any l.toArray = true) (B K : Nat) (hK : B + K ≤ w.heap.size)
    (h : (∀ (k : Kin w) (b o : Nat), b < B + K → k.it.cell? ⟨b, o, none⟩ = w.cell? ⟨b, o, none⟩) →
      wpQuiet P l.toArray (fun w' => ∃ k : Kin w, w' = k.it) (fun a' => ∀ w', Below w.heap.size w w' → Q .normal a' w') l a) : (Code.region id l.toArray true).wp P Q a w := by
  refine wp_region_quiet (C := fun w' => ∃ k : Kin w, w' = k.it) hm hB ⟨⟨_, (Below.refl _ w).drew⟩, rfl⟩ ?_
  have e : (fun a' => ∀ w', (∃ k : Kin w, w' = k.it) → Q .normal a' w') = fun a' => ∀ w', Below w.heap.size w w' → Q .normal a' w' := by
    funext a'
    exact propext ⟨fun h w' hw => h w' ⟨⟨w', hw⟩, rfl⟩, fun h w' ⟨k, hk⟩ => by rw [hk]; exact h _ k.below⟩
  rw [e]
  simpa using h (fun k b o => Kin.reads hK k b o)

theorem any_kin_tail {P : Program} {Q : Exit → Act → World → Prop} {a : Act} {w : World} {l : List Oper} (n : Nat) (hB : Region.lexTailB .any l.toArray n = true) (B K : Nat) (hK : B + K ≤ w.heap.size)
    (h : (∀ (k : Kin w) (b o : Nat), b < B + K → k.it.cell? ⟨b, o, none⟩ = w.cell? ⟨b, o, none⟩) →
      wpQuiet P l.toArray (fun w' => ∃ k : Kin w, w' = k.it) (fun a' => ∀ w', Below w.heap.size w w' → wpList P l.toArray Q (l.drop n) a' w') (l.take n) a) : wpAny P .any l.toArray Q l.toArray.size (Array.replicate l.toArray.size false) a { w with drawn := w.drawn + 1 } := by
  refine any_class_tail (C := fun w' => ∃ k : Kin w, w' = k.it) n hB ⟨⟨_, (Below.refl _ w).drew⟩, rfl⟩ ?_
  have e : (fun a' => ∀ w', (∃ k : Kin w, w' = k.it) → wpList P l.toArray Q (l.drop n) a' w') = fun a' => ∀ w', Below w.heap.size w w' → wpList P l.toArray Q (l.drop n) a' w' := by
    funext a'
    exact propext ⟨fun h w' hw => h w' ⟨⟨w', hw⟩, rfl⟩, fun h w' ⟨k, hk⟩ => by rw [hk]; exact h _ k.below⟩
  rw [e]
  exact h (fun k b o => Kin.reads hK k b o)
theorem wp_region_kin_tail {P : Program} {id : Nat} {Q : Exit → Act → World → Prop} {a : Act} {w : World} {l : List Oper} (n : Nat) (hm : P.follows .mixedOrders = true) (hB : Region.lexTailB .any l.toArray n = true) (B K : Nat) (hK : B + K ≤ w.heap.size)
    (h : (∀ (k : Kin w) (b o : Nat), b < B + K → k.it.cell? ⟨b, o, none⟩ = w.cell? ⟨b, o, none⟩) →
      wpQuiet P l.toArray (fun w' => ∃ k : Kin w, w' = k.it) (fun a' => ∀ w', Below w.heap.size w w' → wpList P l.toArray Q (l.drop n) a' w') (l.take n) a) : (Code.region id l.toArray true).wp P Q a w :=
  wp_region_any hm (any_kin_tail n hB B K hK h)

/-- The world at a piece of code under a name. -/
theorem wp_named {P : Program} {c : Code} {Q : Exit → Act → World → Prop} {a : Act} {w : World} (h : ∀ W, W = w → c.wp P Q a W) : c.wp P Q a w := h w rfl

end Go.Proofs.YthjolojpjajppaaGreat
set_option linter.unusedVariables false
set_option linter.unusedSimpArgs false
set_option linter.unnecessarySimpa false
namespace Go.Proofs.YthjolojpjajppaaGreat
open Go.RowKit

section
variable {P : Program}
theorem run_min4 (w : World) (ts : Array TypeId) (t : TypeId) (x y z v : Int) : (Builtin.min_ ts t #[.int .i64 x, .int .i64 y, .int .i64 z, .int .i64 v]).run P w = .ok (.int .i64 (min (min (min x y) z) v)) w := by
  have e : ∀ p q : Int, (if q < p then q else p) = min p q := fun p q => by rw [Int.min_def]; split <;> split <;> omega
  simp [Builtin.min_, Builtin.min2, e]
theorem run_min3 (w : World) (ts : Array TypeId) (t : TypeId) (x y z : Int) : (Builtin.min_ ts t #[.int .i64 x, .int .i64 y, .int .i64 z]).run P w = .ok (.int .i64 (min (min x y) z)) w := by
  have e : ∀ p q : Int, (if q < p then q else p) = min p q := fun p q => by rw [Int.min_def]; split <;> split <;> omega
  simp [Builtin.min_, Builtin.min2, e]

/-- Block b is a row of cells of type t. -/
def Row (w : World) (b : Nat) (t : TypeId) (C : List Value) : Prop := w.heap[b]? = some (.cells C.toArray t (0, 0))
theorem Row.lt {w : World} {b : Nat} {t : TypeId} {C : List Value} (h : Row w b t C) : b < w.heap.size := (Array.getElem?_eq_some_iff.1 h).1
theorem Row.cell {w : World} {b : Nat} {t : TypeId} {C : List Value} (h : Row w b t C) (j : Nat) : w.cell? ⟨b, j, none⟩ = C[j]? := by
  simp [World.cell?, show w.heap[b]? = _ from h]
theorem Row.frozen {w : World} {b : Nat} {t : TypeId} {C : List Value} (h : Row w b t C) (j : Nat) : w.frozen? ⟨b, j, none⟩ = false := by
  simp [World.frozen?, show w.heap[b]? = _ from h]
theorem Row.new (w : World) (t : TypeId) (C : List Value) : Row (w.alloc (.cells C.toArray t)) w.heap.size t C := by
  show (w.heap.push _)[w.heap.size]? = _
  simp
theorem Row.next {w w' : World} {b : Nat} {t : TypeId} {C : List Value} (h : Row w b t C) (hb : Below w.heap.size w w') : Row w' b t C := (hb.block b h.lt).trans h
theorem Row.drew {w : World} {b : Nat} {t : TypeId} {C : List Value} (h : Row w b t C) : Row w.drew b t C := h
theorem Row.alloc {w : World} {b : Nat} {t : TypeId} {C : List Value} (h : Row w b t C) (o : Obj) : Row (w.alloc o) b t C := (Below.heap_alloc w o b h.lt).trans h
theorem Row.set {w : World} {b : Nat} {t : TypeId} {C : List Value} (h : Row w b t C) (j : Nat) (v : Value) : Row (w.setCell ⟨b, j, none⟩ v) b t (C.set j v) := by
  obtain ⟨hlt, hk⟩ := Array.getElem?_eq_some_iff.1 h
  show (w.heap.modify b _)[b]? = _
  rw [Array.getElem?_eq_getElem (by rw [Array.size_modify]; exact hlt), Array.getElem_modify_self, hk]
  simp
theorem Row.other {w : World} {b b' : Nat} {t : TypeId} {C : List Value} (h : Row w b t C) (hne : b ≠ b') (j : Nat) (v : Value) : Row (w.setCell ⟨b', j, none⟩ v) b t C := (Below.heap_setCell _ _ _ _ hne).trans h

/-- 'string(b)' of a row of bytes. -/
theorem Row.text {w : World} {b : Nat} {t : TypeId} {l : List UInt8} (h : Row w b t (l.map fun x => .int .u8 x.toNat)) (src dst e : TypeId) (cap : Nat) (hs : P.underlying src = some (.slice e)) (he : P.underlying e = some (.int .u8)) (hd : P.underlying dst = some .string) :
    (convert src dst (.slice (some ⟨b, 0, none⟩) l.length cap)).run P w = .ok (.string ⟨l.toArray⟩) w :=
  run_convert_bytes_back w src dst e ⟨b, 0, none⟩ cap l hs he hd fun j hj => by
    have e : Addr.add ⟨b, 0, none⟩ j = ⟨b, j, none⟩ := by unfold Addr.add; split <;> simp_all
    rw [e, h.cell]
    simp [hj]

theorem madeCells_one (z : Value) (hz : z.cells = #[z]) (n : Nat) : madeCells z.cells n = (List.replicate n z).toArray := by
  rw [hz]
  apply Array.ext
  · simp [madeCells]
  · intro i h1 h2
    simp [madeCells, Nat.mod_one]
theorem run_make_row (w : World) (t e : TypeId) (i : TypeInfo) (z : Value) (bytes : Nat) (ht : P.underlying t = some (.slice e)) (hi : P.info? e = some i) (hz : i.zero = some z) (hs : i.size = 1) (hb : i.bytes = bytes) (hc : z.cells = #[z]) (n : Nat) (hn : bytes * n ≤ 281474976710656) (h63 : n ≤ 9223372036854775807) :
    (Instr.makeSlice t (.int .i64 n) (.int .i64 n)).run P w = .ok (.slice (some ⟨w.heap.size, 0, none⟩) n n) (w.alloc (.cells (List.replicate n z).toArray e)) := by
  have h := run_make (P := P) w t e i z ht hi hz .i64 .i64 n n (by omega) (Int.le_refl _) (by rw [hb, ← Int.natCast_mul]; omega) (by omega)
  rw [Int.toNat_natCast, hs, Nat.mul_one, madeCells_one z hc] at h
  exact h
end
end Go.Proofs.YthjolojpjajppaaGreat
set_option linter.unusedVariables false
set_option linter.unusedSimpArgs false
set_option linter.unnecessarySimpa false
namespace Go.Proofs.YthjolojpjajppaaGreat
open Go.RowKit Go.ChangeShapes Go.WideShapes

section
variable {H : Type} {enc : TypeId × Value → H} {P : Program} {W : World} {base b0 : Nat} {spare : Nat → Bool} {held : Bool}
theorem cell_lies {a : Addr} {v : Value} (h : W.cell? a = some v) : a.block < W.heap.size := by
  unfold World.cell? at h
  split at h
  · rename_i e
    exact (Array.getElem?_eq_some_iff.1 e).1
  · cases h
theorem cell_stays {a : Addr} {v : Value} (h : W.cell? a = some v) : ∀ w', Below W.heap.size W w' → w'.cell? a = some v := fun _ hb => (hb.cell (cell_lies h)).trans h

theorem open_intS {r : Reach} {t e : TypeId} {k : IntKind} {v : Value} {d : DataW H} {ps : List MemPlace} (ht : P.underlying t = some (.slice e)) (he : P.underlying e = some (.int k)) (hc : P.cellsOf e = 1)
    (hval : Value.okWide P W r b0 t v) (hd : DataW.Trod enc P W base spare held t v d ps) :
    ∃ (o : Option Addr) (len cap : Nat) (L : Nat → Int), v = .slice o len cap ∧ len ≤ maxLen ∧ (∀ i, i < len → (Lit.int k (L i)).wf = true) ∧
      ∀ i, i < len → ∃ a, o = some a ∧ ∀ w', Below W.heap.size W w' → w'.cell? (a.add i) = some (.int k (L i)) := by
  obtain ⟨o, len, cap, rfl⟩ := okWide_slice ht hval
  obtain ⟨fuel, hf⟩ := hd
  rcases open_ints ht he hc hf with ⟨h1, _⟩ | ⟨a, l, c, zs, h1, _, h2, h3, h4, _, h5, h6⟩
  · simp [Value.cells] at h1
    obtain ⟨rfl, rfl, rfl⟩ := h1
    exact ⟨none, 0, 0, fun _ => 0, rfl, Nat.zero_le _, fun i hi => absurd hi (Nat.not_lt_zero _), fun i hi => absurd hi (Nat.not_lt_zero _)⟩
  · simp [Value.cells] at h1
    obtain ⟨rfl, rfl, rfl⟩ := h1
    have hl : len ≤ zs.length := by rw [h4]; split <;> omega
    refine ⟨some a, len, cap, fun i => zs.getD i 0, rfl, by omega, fun i hi => ?_, fun i hi => ⟨a, rfl, cell_stays (h5 i (by omega))⟩⟩
    refine h6 _ ?_
    simp [List.getD, List.getElem?_eq_getElem (show i < zs.length by omega)]
theorem open_strS {r : Reach} {t e : TypeId} {v : Value} {d : DataW H} {ps : List MemPlace} (ht : P.underlying t = some (.slice e)) (he : P.underlying e = some .string) (hc : P.cellsOf e = 1)
    (hval : Value.okWide P W r b0 t v) (hd : DataW.Trod enc P W base spare held t v d ps) :
    ∃ (o : Option Addr) (len cap : Nat) (S : Nat → ByteArray), v = .slice o len cap ∧ len ≤ maxLen ∧ (∀ i, i < len → (S i).size ≤ maxLen) ∧
      ∀ i, i < len → ∃ a, o = some a ∧ ∀ w', Below W.heap.size W w' → w'.cell? (a.add i) = some (.string (S i)) := by
  obtain ⟨o, len, cap, rfl⟩ := okWide_slice ht hval
  obtain ⟨fuel, hf⟩ := hd
  rcases Go.Deep.open_strs ht he hc hf with ⟨h1, _⟩ | ⟨a, l, c, m, S, h1, _, h2, h3, h4, _, h5⟩
  · simp [Value.cells] at h1
    obtain ⟨rfl, rfl, rfl⟩ := h1
    exact ⟨none, 0, 0, fun _ => ⟨#[]⟩, rfl, Nat.zero_le _, fun i hi => absurd hi (Nat.not_lt_zero _), fun i hi => absurd hi (Nat.not_lt_zero _)⟩
  · simp [Value.cells] at h1
    obtain ⟨rfl, rfl, rfl⟩ := h1
    have hl : len ≤ m := by rw [h4]; split <;> omega
    exact ⟨some a, len, cap, S, rfl, by omega, fun i hi => (h5 i (by omega)).2, fun i hi => ⟨a, rfl, cell_stays (h5 i (by omega)).1⟩⟩
end
end Go.Proofs.YthjolojpjajppaaGreat
set_option linter.unusedVariables false
set_option linter.unusedSimpArgs false
set_option linter.unnecessarySimpa false
namespace Go.Proofs.YthjolojpjajppaaGreat
open Go.RowKit

section
variable {P : Program}

/-- A caller that goes nowhere: the machine ends behind it. -/
def deadEnd (P : Program) : Frame := { fn := P.funcs.size, tmps := #[], todo := [], defers := [], mode := .returning, kind := .report }

theorem step_deadEnd (w : World) : ∃ o x, step P (lone (deadEnd P) [] w) = .ended o x := by
  have h : ∃ o x, (stepG P true { frame := deadEnd P, callers := [], status := .running, dying := none } w).bare = .ended o x := by
    simp [stepG, unwind, doReturn, deadEnd]
  obtain ⟨o, x, h⟩ := h
  exact ⟨o, x, step_lone_ended h⟩

theorem runN_add (n k : Nat) (m : Machine) : runN P (n + k) m = match runN P n m with | .next m' => runN P k m' | e => e := by
  induction n generalizing m with
  | zero => simp [runN]
  | succ n ih =>
    rw [Nat.add_right_comm]
    simp only [runN]
    cases step P m <;> simp [ih]

/-- One call, in one world, hands back one value. -/
theorem calls_det {f : FuncId} {args : Array Value} {w : World} {v v' : Value} {A B : World → Prop} (h : Calls P f args w fun e w' => e = .returned v ∧ A w') (h' : Calls P f args w fun e w' => e = .returned v' ∧ B w') : v = v' := by
  obtain ⟨e, w1, fr1, ⟨rfl, _⟩, ⟨n1, c1⟩, hf1, l1⟩ := h [deadEnd P]
  obtain ⟨e, w2, fr2, ⟨rfl, _⟩, ⟨n2, c2⟩, hf2, l2⟩ := h' [deadEnd P]
  have s1 := step_leave_returned (c := deadEnd P) (cs := []) l1
  have s2 := step_leave_returned (c := deadEnd P) (cs := []) l2
  have d1 : (deadEnd P).finish v = deadEnd P := rfl
  have d2 : (deadEnd P).finish v' = deadEnd P := rfl
  rw [d1] at s1
  rw [d2] at s2
  obtain ⟨o1, x1, t1⟩ := step_deadEnd (P := P) w1
  obtain ⟨o2, x2, t2⟩ := step_deadEnd (P := P) w2
  have key : ∀ (na nb : Nat) (fa fb : Frame) (wa wb : World) (o : Outcome) (x : World), runN P na (lone (Frame.enter P f args .normal) [deadEnd P] w) = .next (lone fa [deadEnd P] wa) →
      runN P nb (lone (Frame.enter P f args .normal) [deadEnd P] w) = .next (lone fb [deadEnd P] wb) → step P (lone fa [deadEnd P] wa) = .next (lone (deadEnd P) [] wa) → step P (lone (deadEnd P) [] wa) = .ended o x → nb ≤ na + 1 := by
    intro na nb fa fb wa wb o x ha hb hs ht
    rcases Nat.lt_or_ge (na + 1) nb with hlt | hge
    · obtain ⟨k, rfl⟩ := Nat.exists_eq_add_of_le (show na + 2 ≤ nb by omega)
      rw [show na + 2 + k = na + (2 + k) by omega, runN_add, ha, show 2 + k = k + 1 + 1 by omega] at hb
      simp [runN, hs, ht] at hb
    · exact hge
  have same : ∀ (na : Nat) (fa fb : Frame) (wa wb : World), runN P na (lone (Frame.enter P f args .normal) [deadEnd P] w) = .next (lone fa [deadEnd P] wa) →
      runN P (na + 1) (lone (Frame.enter P f args .normal) [deadEnd P] w) = .next (lone fb [deadEnd P] wb) → step P (lone fa [deadEnd P] wa) = .next (lone (deadEnd P) [] wa) → False := by
    intro na fa fb wa wb ha hb hs
    rw [runN_add, ha] at hb
    simp only [runN, hs] at hb
    simp [lone] at hb
  have e12 : n1 = n2 := by
    have k1 := key n1 n2 _ _ _ _ _ _ c1 c2 s1 t1
    have k2 := key n2 n1 _ _ _ _ _ _ c2 c1 s2 t2
    rcases Nat.lt_trichotomy n1 n2 with h | h | h
    · obtain rfl : n2 = n1 + 1 := by omega
      exact (same n1 _ _ _ _ c1 c2 s1).elim
    · exact h
    · obtain rfl : n1 = n2 + 1 := by omega
      exact (same n2 _ _ _ _ c2 c1 s2).elim
  subst e12
  rw [c1] at c2
  simp only [Stepped.next.injEq, lone, Machine.mk.injEq, Array.mk.injEq, List.cons.injEq, Goroutine.mk.injEq, and_true] at c2
  obtain ⟨rfl, rfl, _⟩ := c2
  obtain ⟨_, _, _, fn1, g1, r1⟩ := l1
  obtain ⟨_, _, _, fn2, g2, r2⟩ := l2
  rw [g1] at g2
  obtain rfl := Option.some.inj g2
  rw [r1] at r2
  injection r2

variable {ops : Array Oper} {md : Region.Mode}

theorem quietAt_det {C D : World → Prop} {o : Oper} {a : Act} {w : World} {v v' : Value} (h : o.quietAt P a C w v) (h' : o.quietAt P a D w v') : v = v' := by
  unfold Oper.quietAt at h h'
  generalize (execOp a.eval o).run P w = r at *
  cases r with
  | ok n w' =>
    cases n <;> simp only [Oper.quietUpon] at h h'
    case value u => exact h.2.symm.trans h'.2
    case skip => exact h.2.trans h'.2.symm
    case enter f args => exact calls_det (h.1 ▸ h.2) (h'.1 ▸ h'.2)
  | halt x w' => simp only [Oper.quietUpon] at h

/-- The class of the worlds that have new blocks alone over W. -/
def KinOf (W : World) : World → Prop := fun w' => ∃ k : Kin W, w' = k.it
theorem KinOf.self (W : World) : KinOf W W := ⟨⟨W, Below.refl _ _⟩, rfl⟩
theorem KinOf.of {W w' : World} (h : Below W.heap.size W w') : KinOf W w' := ⟨⟨w', h⟩, rfl⟩
theorem KinOf.below {W w' : World} (h : KinOf W w') : Below W.heap.size W w' := by obtain ⟨k, rfl⟩ := h; exact k.below

theorem yields_det {W W' : World} (hW : Below W.heap.size W W') {o : Oper} {a : Act} {v v' : Value} (h : YieldsIn P ops (KinOf W) o v a) (h' : YieldsIn P ops (KinOf W') o v' a) : v = v' := by
  rcases h with ⟨hw, hv⟩ | ⟨hw, rfl⟩ <;> rcases h' with ⟨hw', hv'⟩ | ⟨hw', rfl⟩
  · exact quietAt_det (hv W' (KinOf.of hW)) (hv' W' (KinOf.self W'))
  · rw [hw] at hw'; cases hw'
  · rw [hw] at hw'; cases hw'
  · rfl

/-! ### A stretch of operations in the order of the text -/
def setFrom : Nat → Nat → Array Bool → Array Bool
  | _, 0, L => L
  | k, c + 1, L => setFrom (k + 1) c (L.setIfInBounds k true)
def segB (md : Region.Mode) (ops : Array Oper) : Nat → Nat → Array Bool → Bool
  | _, 0, _ => true
  | k, c + 1, L => (Region.ready md ops L).contains k && Region.free md ops L k && segB md ops (k + 1) c (L.setIfInBounds k true)

theorem headAny_seg {C : World → Prop} {n : Nat} {L : Array Bool → Act → Prop} (hsel : Region.noSelect ops = true) (hs : Region.sinkB md ops n = true) (hc : Region.chainB md ops n = true) (hn : n < ops.size)
    (hdone : ∀ listed a, L listed a → ∀ j ∈ Region.ready md ops listed, n ≤ j) (f : Nat) :
    ∀ (l : List Oper) (k : Nat) (listed : Array Bool) (a : Act), (∀ j, j < l.length → l[j]? = ops[k + j]?) → k + l.length ≤ n → HeadInv md ops n listed → segB md ops k l.length listed = true →
    wpQuiet P ops C (fun a' => headAny P md ops C n L f (setFrom k l.length listed) a') l a → headAny P md ops C n L (l.length + f) listed a
  | [], k, listed, a, _, _, _, _, h => by simpa [setFrom, wpQuiet] using h
  | o :: l, k, listed, a, hl, hk, inv, hB, h => by
    have h0 : ops[k]? = some o := by simpa using (hl 0 (by simp)).symm
    simp only [List.length_cons, segB, Bool.and_eq_true] at hB
    obtain ⟨⟨hr, hf⟩, hB'⟩ := hB
    have hkn : k < n := by simp only [List.length_cons] at hk; omega
    have hr' : k ∈ Region.ready md ops listed := by simpa using hr
    have hst : qOp P ops C k (wpQuiet P ops C (fun a' => headAny P md ops C n L f (setFrom k (l.length + 1) listed) a') l) a := by unfold qOp; simp only [h0]; exact h
    obtain ⟨v, hy, hK⟩ := yieldsIn_of_qOp h0 hst
    rw [List.length_cons, Nat.add_right_comm]
    exact headAny_first h0 (Region.noSelect_spec hsel) hs hc hn hkn hdone (l.length + f) listed a inv (Region.free_spec h0 hf) hr' hy
      (headAny_seg hsel hs hc hn hdone f l (k + 1) _ _ (fun j hj => by have := hl (j + 1) (by simp; omega); simpa [Nat.add_assoc, Nat.add_comm 1 j] using this) (by simp only [List.length_cons] at hk; omega) (inv.set hr' hkn) hB' hK)

theorem wpQuiet_append {C : World → Prop} {Q : Act → Prop} : ∀ (l r : List Oper) (a : Act), wpQuiet P ops C Q (l ++ r) a → wpQuiet P ops C (fun a' => wpQuiet P ops C Q r a') l a
  | [], _, _, h => h
  | o :: l, r, a, h => by
    simp only [List.cons_append, wpQuiet] at h ⊢
    split
    · rename_i hw
      rw [if_pos hw] at h
      exact Oper.quiet_mono (fun a' h' => wpQuiet_append l r a' h') h
    · rename_i hw
      rw [if_neg hw] at h
      exact wpQuiet_append l r _ h

theorem wpQuiet_mono {C : World → Prop} {Q Q' : Act → Prop} (hq : ∀ a, Q a → Q' a) : ∀ (l : List Oper) (a : Act), wpQuiet P ops C Q l a → wpQuiet P ops C Q' l a
  | [], _, h => hq _ h
  | o :: l, a, h => by
    simp only [wpQuiet] at h ⊢
    split
    · rename_i hw
      rw [if_pos hw] at h
      exact Oper.quiet_mono (fun a' h' => wpQuiet_mono hq l a' h') h
    · rename_i hw
      rw [if_neg hw] at h
      exact wpQuiet_mono hq l _ h

/-! ### The new variable -/
/-- What the operations that are apart from it do behind it. -/
theorem headAny_put {C : World → Prop} {n m : Nat} {om : Oper} {p : Value} {L : Array Bool → Act → Prop} (hsel : ∀ (j : Nat) (o : Oper) cs b, ops[j]? = some o → o.op ≠ .select cs b)
    (hap : ∀ j oj, ops[j]? = some oj → j < n → j ≠ m → om.apart ops oj = true) :
    ∀ (f : Nat) (listed : Array Bool) (a : Act), listed.getD m true = true → headAny P md ops C n L f listed a →
      headAny P md ops C n (fun listed' a' => ∃ a0, a' = a0.put om.dst p ∧ L listed' a0) f listed (a.put om.dst p)
  | 0, _, a, _, h => ⟨a, rfl, h⟩
  | f + 1, listed, a, hm, h => by
    refine ⟨h.1, fun i hi => ?_⟩
    obtain ⟨hin, hq⟩ := h.2 i hi
    refine ⟨hin, ?_⟩
    obtain ⟨hun, oj, hoj, _⟩ := mem_ready.1 hi
    have him : i ≠ m := fun e => by rw [e, hm] at hun; cases hun
    obtain ⟨h1, h2, _⟩ := Oper.apart_spec (hap i oj hoj hin him)
    have hm' : (listed.setIfInBounds i true).getD m true = true := by rw [getD_set_ne true him]; exact hm
    unfold qOp at hq ⊢
    simp only [hoj] at hq ⊢
    rw [wanted_put oj a om.dst p h1]
    split
    · rename_i hw
      rw [if_pos hw] at hq
      obtain ⟨u, hu, hk⟩ := hq
      refine ⟨u, fun w hw' => ?_, ?_⟩
      · have := hu w hw'
        unfold Oper.quietAt at *
        rwa [execOp_put oj (fun cs b => hsel i oj cs b hoj) a om.dst p h1]
      · rw [Act.put_comm a p u h2]
        exact headAny_put hsel hap f _ _ hm' hk
    · rename_i hw
      rw [if_neg hw] at hq
      rw [Act.put_comm a p undef h2]
      exact headAny_put hsel hap f _ _ hm' hq

theorem floatAny {n m g : Nat} {om : Oper} {O : Obj} {w : World} {L : Array Bool → Act → Prop} {Q' : Exit → Act → World → Prop} (hom : ops[m]? = some om) (hguard : om.guard = none)
    (hal : ∀ (ρ : Operand → Value) (w1 : World), (execOp ρ om).run P w1 = .ok (.value (.pointer (some ⟨w1.heap.size, 0, none⟩))) (w1.alloc O))
    (hsel : ∀ (j : Nat) (o : Oper) cs b, ops[j]? = some o → o.op ≠ .select cs b)
    (hap : ∀ j oj, ops[j]? = some oj → j < n → j ≠ m → om.apart ops oj = true) (hs : Region.sinkB md ops n = true) (hc : Region.chainB md ops n = true) (hn : n < ops.size) (hmn : m < n)
    (hdone : ∀ listed a, L listed a → ∀ j ∈ Region.ready md ops listed, n ≤ j)
    (hL : ∀ listed a0 w' b, L listed a0 → Below w.heap.size w w' → w.heap.size ≤ b → w'.heap[b]? = some O → wpAny P md ops Q' g listed (a0.put om.dst (.pointer (some ⟨b, 0, none⟩))) w') :
    ∀ (f : Nat) (listed : Array Bool) (a : Act) (w1 : World), Below w.heap.size w w1 → HeadInv md ops n listed → m ∈ Region.ready md ops listed →
      (∀ W, Below w1.heap.size w1 W → headAny P md ops (KinOf W) n L f (listed.setIfInBounds m true) a) → wpAny P md ops Q' (f + 1 + g) listed a w1 := by
  intro f
  induction f with
  | zero =>
    intro listed a w1 hb inv hr H
    rw [show 0 + 1 + g = g + 1 by omega]
    refine ⟨fun h => (by rw [h] at hr; cases hr), fun i hi => ?_⟩
    by_cases him : i = m
    · subst him
      unfold wpOp
      simp only [hom]
      have hw : Region.wanted om (yielded ops a.tmps) = true := by simp [Region.wanted, hguard]
      rw [if_pos hw]
      refine .inl ?_
      unfold Oper.wp
      rw [hal]
      exact hL _ a _ _ (H w1 (Below.refl _ _)) (hb.alloc hb.size _) hb.size (by show (w1.heap.push O)[w1.heap.size]? = some O; simp)
    · have hun := (mem_ready.1 hr).1
      have h1 := hdone _ _ (H w1 (Below.refl _ _)) i (ready_mono hi him)
      exact absurd hi (tail_waits hs hc hn inv _ m rfl hmn hun i h1)
  | succ f ih =>
    intro listed a w1 hb inv hr H
    have hun := (mem_ready.1 hr).1
    have hm_in : m < listed.size := by rw [inv.size]; omega
    rw [show f + 1 + 1 + g = (f + 1 + g) + 1 by omega]
    refine ⟨fun h => (by rw [h] at hr; cases hr), fun i hi => ?_⟩
    by_cases him : i = m
    · subst him
      unfold wpOp
      simp only [hom]
      have hw : Region.wanted om (yielded ops a.tmps) = true := by simp [Region.wanted, hguard]
      rw [if_pos hw]
      refine .inl ?_
      unfold Oper.wp
      rw [hal]
      have hb1 : Below w1.heap.size w1 (w1.alloc O) := (Below.refl _ _).alloc (Nat.le_refl _) _
      have h2 := headAny_put (p := .pointer (some ⟨w1.heap.size, 0, none⟩)) hsel hap (f + 1) _ a (by simp [hm_in]) (H (w1.alloc O) hb1)
      refine wpAny_of_headAny (fun listed' a' w' hw' hL' => ?_) (f + 1) _ _ _ (KinOf.self _) h2
      obtain ⟨a0, rfl, hl⟩ := hL'
      have hk := hw'.below
      exact hL _ a0 _ _ hl (((hb.alloc hb.size _)).trans (hk.mono (by have := hb.size; simp; omega))) hb.size (by
        rw [hk.block w1.heap.size (by simp)]; show (w1.heap.push O)[w1.heap.size]? = some O; simp)
    · obtain ⟨hin, hq⟩ := (H w1 (Below.refl _ _)).2 i (ready_mono hi him)
      obtain ⟨_, oj, hoj, _⟩ := mem_ready.1 hi
      obtain ⟨v, hy, _⟩ := yieldsIn_of_qOp hoj hq
      refine wpOp_of_qOp (C := KinOf w1) (KinOf.self w1) ?_ (hy.qOp hoj (K := fun a' => a' = a.put oj.dst v) rfl)
      rintro a' w2 hw2 rfl
      have hb2 := hw2.below
      refine ih _ _ w2 (hb.trans (hb2.mono hb.size)) (inv.set hi hin) (ready_mono hr (Ne.symm him)) (fun W hW => ?_)
      have hW1 : Below w1.heap.size w1 W := hb2.trans (hW.mono hb2.size)
      obtain ⟨_, hqW⟩ := (H W hW1).2 i (ready_mono hi him)
      obtain ⟨v', hy', hK⟩ := yieldsIn_of_qOp hoj hqW
      obtain rfl := yields_det hW1 hy hy'
      rw [Array.setIfInBounds_comm _ _ him]
      exact hK

/-- Which regions it serves: 'm' makes the variable, 'n' is the first of the stores. -/
def floatB (ops : Array Oper) (m n : Nat) : Bool :=
  Region.noSelect ops && decide (n < ops.size) && decide (m < n) && Region.sinkB .any ops n && Region.chainB .any ops n &&
  (Region.ready .any ops (Array.replicate ops.size false)).contains m &&
  ((List.range n).all fun j => j == m || match ops[m]?, ops[j]? with | some om, some oj => om.apart ops oj | _, _ => false) &&
  segB .any ops 0 m ((Array.replicate ops.size false).setIfInBounds m true) &&
  segB .any ops (m + 1) (n - m - 1) (setFrom 0 m ((Array.replicate ops.size false).setIfInBounds m true)) &&
  Region.seqB .any ops (ops.size - n) n (setFrom (m + 1) (n - m - 1) (setFrom 0 m ((Array.replicate ops.size false).setIfInBounds m true)))

theorem headInv_setFrom {n : Nat} : ∀ (c k : Nat) (listed : Array Bool), k + c ≤ n → HeadInv md ops n listed → segB md ops k c listed = true → HeadInv md ops n (setFrom k c listed)
  | 0, _, _, _, inv, _ => inv
  | c + 1, k, listed, hk, inv, hB => by
    simp only [segB, Bool.and_eq_true] at hB
    exact headInv_setFrom c (k + 1) _ (by omega) (inv.set (by simpa using hB.1.1) (by omega)) hB.2

theorem any_float {Q : Exit → Act → World → Prop} {a : Act} {w : World} {l : List Oper} (m n : Nat) (om : Oper) (O : Obj) (hB : floatB l.toArray m n = true) (hom : l[m]? = some om) (hguard : om.guard = none)
    (hal : ∀ (ρ : Operand → Value) (w1 : World), (execOp ρ om).run P w1 = .ok (.value (.pointer (some ⟨w1.heap.size, 0, none⟩))) (w1.alloc O)) (B K : Nat) (hK : B + K ≤ w.heap.size)
    (h : ∀ W, (∀ (k : Kin W) (b o : Nat), b < B + K → k.it.cell? ⟨b, o, none⟩ = w.cell? ⟨b, o, none⟩) → Below w.heap.size w W →
      wpQuiet P l.toArray (fun w' => ∃ k : Kin W, w' = k.it) (fun a' => ∀ w' b, Below w.heap.size w w' → w.heap.size ≤ b → w'.heap[b]? = some O →
        wpList P l.toArray Q (l.drop n) (a'.put om.dst (.pointer (some ⟨b, 0, none⟩))) w') (l.take m ++ (l.take n).drop (m + 1)) a) : wpAny P .any l.toArray Q l.toArray.size (Array.replicate l.toArray.size false) a { w with drawn := w.drawn + 1 } := by
  simp only [floatB, Bool.and_eq_true, decide_eq_true_eq] at hB
  obtain ⟨⟨⟨⟨⟨⟨⟨⟨⟨hsel, hn⟩, hmn⟩, hs⟩, hc⟩, hr⟩, hap⟩, hsg1⟩, hsg2⟩, hseq⟩ := hB
  have hr' : m ∈ Region.ready .any l.toArray (Array.replicate l.toArray.size false) := by simpa using hr
  have hn' : n < l.length := by simpa using hn
  have inv0 : HeadInv .any l.toArray n (Array.replicate l.toArray.size false) :=
    ⟨by simp, fun j oj _ hl => (by rw [getD_replicate_false] at hl; cases hl), fun t _ ht => getD_in (by simpa using ht) (getD_replicate_false _ _)⟩
  have inv1 := inv0.set hr' hmn
  have inv2 := headInv_setFrom m 0 _ (by omega) inv1 hsg1
  have hap' : ∀ j oj, l.toArray[j]? = some oj → j < n → j ≠ m → om.apart l.toArray oj = true := fun j oj hj hjn hjm => by
    have h1 := List.all_eq_true.1 hap j (List.mem_range.2 hjn)
    simp only [Bool.or_eq_true, beq_iff_eq, hjm, false_or] at h1
    rw [show l.toArray[m]? = some om by simpa using hom, hj] at h1
    exact h1
  have hdl : (l.drop n).length = l.toArray.size - n := by simp
  have l1 : (l.take m).length = m := by simp; omega
  have l2 : ((l.take n).drop (m + 1)).length = n - m - 1 := by simp; omega
  have main := floatAny (P := P) (md := .any) (Q' := Q) (g := l.toArray.size - n) (n := n) (m := m) (O := O) (w := w)
    (L := fun listed' a' => Region.seqB .any l.toArray (l.toArray.size - n) n listed' = true ∧ ∀ w' b, Below w.heap.size w w' → w.heap.size ≤ b → w'.heap[b]? = some O → wpList P l.toArray Q (l.drop n) (a'.put om.dst (.pointer (some ⟨b, 0, none⟩))) w')
    (show l.toArray[m]? = some om by simpa using hom) hguard hal (Region.noSelect_spec hsel) hap' hs hc hn hmn (fun listed' a' hL => seqB_ready hL.1)
    (fun listed a0 w' b hL hb hbb ho => by
      have := wpAny_of_seq (md := .any) (Q' := Q) (l.drop n) n listed (a0.put om.dst (.pointer (some ⟨b, 0, none⟩))) w' (fun j => by simp [List.getElem?_drop]) (by rw [hdl]; exact hL.1) (hL.2 w' b hb hbb ho)
      rwa [hdl] at this)
    (n - 1) (Array.replicate l.toArray.size false) a { w with drawn := w.drawn + 1 } (Below.refl _ w).drew inv0 hr' (fun W hW => by
      have hW' : Below w.heap.size w W := (Below.refl w.heap.size w).drew.trans hW
      have hq := wpQuiet_append _ _ _ (h W (fun k b o hbo => (k.below.cell (p := ⟨b, o, none⟩) (Nat.lt_of_lt_of_le hbo (Nat.le_trans hK hW'.size))).trans (hW'.cell (p := ⟨b, o, none⟩) (Nat.lt_of_lt_of_le hbo hK))) hW')
      have seg := headAny_seg (C := KinOf W) hsel hs hc hn (fun listed' a' hL => seqB_ready hL.1) (n - m - 1 + 0) (l.take m) 0 ((Array.replicate l.toArray.size false).setIfInBounds m true) a
        (L := fun listed' a' => Region.seqB .any l.toArray (l.toArray.size - n) n listed' = true ∧ ∀ w' b, Below w.heap.size w w' → w.heap.size ≤ b → w'.heap[b]? = some O → wpList P l.toArray Q (l.drop n) (a'.put om.dst (.pointer (some ⟨b, 0, none⟩))) w')
        (fun j hj => by rw [l1] at hj; simp [hj]) (by rw [l1]; omega) inv1 (by rw [l1]; exact hsg1)
        (wpQuiet_mono (fun a' h2 => by
          rw [l1]
          have seg2 := headAny_seg (C := KinOf W) hsel hs hc hn (fun listed' a' hL => seqB_ready hL.1) 0 ((l.take n).drop (m + 1)) (m + 1) (setFrom 0 m ((Array.replicate l.toArray.size false).setIfInBounds m true)) a'
            (L := fun listed' a' => Region.seqB .any l.toArray (l.toArray.size - n) n listed' = true ∧ ∀ w' b, Below w.heap.size w w' → w.heap.size ≤ b → w'.heap[b]? = some O → wpList P l.toArray Q (l.drop n) (a'.put om.dst (.pointer (some ⟨b, 0, none⟩))) w')
            (fun j hj => by
              rw [l2] at hj
              simp only [List.getElem?_drop, List.getElem?_take, List.getElem?_toArray]
              rw [if_pos (by omega)]) (by rw [l2]; omega) inv2 (by rw [l2]; exact hsg2)
            (wpQuiet_mono (fun a'' h3 => ⟨by rw [l2]; exact hseq, h3⟩) _ _ h2)
          rw [l2] at seg2
          exact seg2) _ _ hq)
      rw [l1, show m + (n - m - 1 + 0) = n - 1 by omega] at seg
      exact seg)
  rw [show n - 1 + 1 + (l.toArray.size - n) = l.toArray.size by omega] at main
  exact main
theorem wp_region_float {id : Nat} {Q : Exit → Act → World → Prop} {a : Act} {w : World} {l : List Oper} (m n : Nat) (om : Oper) (O : Obj) (hmo : P.follows .mixedOrders = true) (hB : floatB l.toArray m n = true) (hom : l[m]? = some om) (hguard : om.guard = none)
    (hal : ∀ (ρ : Operand → Value) (w1 : World), (execOp ρ om).run P w1 = .ok (.value (.pointer (some ⟨w1.heap.size, 0, none⟩))) (w1.alloc O)) (B K : Nat) (hK : B + K ≤ w.heap.size)
    (h : ∀ W, (∀ (k : Kin W) (b o : Nat), b < B + K → k.it.cell? ⟨b, o, none⟩ = w.cell? ⟨b, o, none⟩) → Below w.heap.size w W →
      wpQuiet P l.toArray (fun w' => ∃ k : Kin W, w' = k.it) (fun a' => ∀ w' b, Below w.heap.size w w' → w.heap.size ≤ b → w'.heap[b]? = some O →
        wpList P l.toArray Q (l.drop n) (a'.put om.dst (.pointer (some ⟨b, 0, none⟩))) w') (l.take m ++ (l.take n).drop (m + 1)) a) : (Code.region id l.toArray true).wp P Q a w :=
  wp_region_any hmo (any_float m n om O hB hom hguard hal B K hK h)
end

theorem block_cells {w : World} {b : Nat} {c : Array Value} {t : TypeId} (h : w.heap[b]? = some (.cells c t)) : (∀ o, w.cell? ⟨b, o, none⟩ = c[o]?) ∧ (∀ o, w.frozen? ⟨b, o, none⟩ = false) :=
  ⟨fun o => by simp [World.cell?, h], fun o => by simp [World.frozen?, h]⟩
end Go.Proofs.YthjolojpjajppaaGreat
set_option linter.unusedVariables false
set_option linter.unusedSimpArgs false
set_option linter.unnecessarySimpa false
namespace Go.Proofs.YthjolojpjajppaaGreat
open Go.RowKit

section
variable {P : Program} {md : Region.Mode} {Q : Exit → Act → World → Prop}

/-- The operations j of a list are also to wait for q. -/
def lateFrom (q : Nat) (js : List Nat) : Nat → List Oper → List Oper
  | _, [] => []
  | i, o :: l => (if js.contains i then { o with after := o.after.push ⟨q, .data⟩ } else o) :: lateFrom q js (i + 1) l
abbrev late (q : Nat) (js : List Nat) (l : List Oper) : List Oper := lateFrom q js 0 l

theorem lateFrom_get (q : Nat) (js : List Nat) : ∀ (l : List Oper) (k i : Nat), (lateFrom q js k l)[i]? = (l[i]?).map fun o => if js.contains (k + i) then { o with after := o.after.push ⟨q, .data⟩ } else o := by
  intro l
  induction l with
  | nil => intro k i; simp [lateFrom]
  | cons o l ih =>
    intro k i
    cases i with
    | zero => simp [lateFrom]
    | succ i => simp only [lateFrom, List.getElem?_cons_succ, ih]; congr 2; funext o; rw [show k + 1 + i = k + (i + 1) by omega]
theorem late_get (q : Nat) (js : List Nat) (l : List Oper) (i : Nat) : (late q js l)[i]? = (l[i]?).map fun o => if js.contains i then { o with after := o.after.push ⟨q, .data⟩ } else o := by
  have := lateFrom_get q js l 0 i
  simpa using this
theorem lateFrom_len (q : Nat) (js : List Nat) : ∀ (l : List Oper) (k : Nat), (lateFrom q js k l).length = l.length
  | [], _ => rfl
  | _ :: l, k => by simp [lateFrom, lateFrom_len q js l]

/-- Two lists of operations that differ in what is waited for alone. -/
inductive AlikeBut : List Oper → List Oper → Prop
  | nil : AlikeBut [] []
  | cons (o : Oper) (es : Array Edge) {l l' : List Oper} (h : AlikeBut l l') : AlikeBut (o :: l) ({ o with after := es } :: l')
theorem alikeBut_late (q : Nat) (js : List Nat) : ∀ (l : List Oper) (k : Nat), AlikeBut l (lateFrom q js k l) := by
  intro l
  induction l with
  | nil => intro k; exact .nil
  | cons o l ih =>
    intro k
    by_cases h : js.contains k = true
    · simp only [lateFrom, h, if_true]; exact .cons o _ (ih _)
    · simp only [lateFrom, h]; exact .cons o o.after (ih _)
theorem alikeBut_get {l l' : List Oper} (h : AlikeBut l l') : ∀ i : Nat, (l'[i]?).bind (fun o => o.dst) = (l[i]?).bind (fun o => o.dst) := by
  induction h with
  | nil => intro i; rfl
  | cons o es _ ih =>
    intro i
    cases i with
    | zero => rfl
    | succ i => simpa using ih i
theorem alikeBut_take {l l' : List Oper} (h : AlikeBut l l') : ∀ n, AlikeBut (l.take n) (l'.take n) := by
  induction h with
  | nil => intro n; simpa using AlikeBut.nil
  | cons o es _ ih =>
    intro n
    cases n with
    | zero => exact .nil
    | succ n => exact .cons o es (ih n)
theorem alikeBut_drop {l l' : List Oper} (h : AlikeBut l l') : ∀ n, AlikeBut (l.drop n) (l'.drop n) := by
  induction h with
  | nil => intro n; simpa using AlikeBut.nil
  | cons o es h ih =>
    intro n
    cases n with
    | zero => exact .cons o es h
    | succ n => exact ih n
theorem alikeBut_app {l l' r r' : List Oper} (h : AlikeBut l l') (k : AlikeBut r r') : AlikeBut (l ++ r) (l' ++ r') := by
  induction h with
  | nil => exact k
  | cons o es _ ih => exact .cons o es ih

theorem yielded_late {ops ops' : Array Oper} (h : ∀ i : Nat, (ops'[i]?).bind (fun o => o.dst) = (ops[i]?).bind (fun o => o.dst)) (tmps : Array Value) : yielded ops' tmps = yielded ops tmps := by
  funext j
  unfold yielded
  rw [h j]

theorem wpQuiet_late {ops ops' : Array Oper} {C : World → Prop} (hy : ∀ i : Nat, (ops'[i]?).bind (fun o => o.dst) = (ops[i]?).bind (fun o => o.dst)) {Lq : Act → Prop} {l l' : List Oper} (h : AlikeBut l l') :
    ∀ a : Act, wpQuiet P ops C Lq l a → wpQuiet P ops' C Lq l' a := by
  induction h with
  | nil => intro a h; exact h
  | cons o es _ ih =>
    intro a h
    simp only [wpQuiet] at h ⊢
    rw [yielded_late hy]
    have e : Region.wanted { o with after := es } (yielded ops a.tmps) = Region.wanted o (yielded ops a.tmps) := rfl
    rw [e]
    split
    · rename_i hw
      rw [if_pos hw] at h
      obtain ⟨v, h1, h2⟩ := h
      exact ⟨v, h1, ih _ h2⟩
    · rename_i hw
      rw [if_neg hw] at h
      exact ih _ h

theorem wpList_late {ops ops' : Array Oper} (hy : ∀ i : Nat, (ops'[i]?).bind (fun o => o.dst) = (ops[i]?).bind (fun o => o.dst)) {l l' : List Oper} (h : AlikeBut l l') :
    ∀ (a : Act) (w : World), wpList P ops Q l a w → wpList P ops' Q l' a w := by
  induction h with
  | nil => intro a w h; exact h
  | cons o es _ ih =>
    intro a w h
    simp only [wpList] at h ⊢
    rw [yielded_late hy]
    have e : Region.wanted { o with after := es } (yielded ops a.tmps) = Region.wanted o (yielded ops a.tmps) := rfl
    rw [e]
    split
    · rename_i hw
      rw [if_pos hw] at h
      exact h.imp (fun h => Oper.wp_mono (o := o) (fun a w => ih a w) h) id
    · rename_i hw
      rw [if_neg hw] at h
      exact ih _ _ h

/-- Which operations only hand on. -/
def handsOn (o : Oper) : Bool := o.guard.isNone && match o.op with | .extract .. | .move _ | .assign _ => true | _ => false

theorem handsOn_yields {ops : Array Oper} {q : Nat} {oq : Oper} (hq : ops[q]? = some oq) (hp : handsOn oq = true) {K : Act → World → Prop} {a : Act} {w : World} (h : wpOp P ops Q q K a w) :
    ∃ v, Yields P ops oq v a ∧ K (a.put oq.dst v) w := by
  unfold wpOp at h
  simp only [hq] at h
  obtain ⟨dst, op, type, pos, after, guard⟩ := oq
  cases guard with
  | some g => simp [handsOn] at hp
  | none =>
  have hw : Region.wanted ⟨dst, op, type, pos, after, none⟩ (yielded ops a.tmps) = true := rfl
  rw [if_pos hw] at h
  have key : ∀ v : Value, execOp a.eval ⟨dst, op, type, pos, after, none⟩ = Sem.pure (.value v) → ∃ v, Yields P ops ⟨dst, op, type, pos, after, none⟩ v a ∧ K (a.put dst v) w := by
    intro v e
    refine ⟨v, .inl ⟨hw, fun w => by rw [e]; rfl⟩, ?_⟩
    rcases h with h | ⟨h, _⟩
    · unfold Oper.wp at h
      rw [e] at h
      exact h
    · unfold Oper.asks at h
      rw [e] at h
      simp [Sem.runT] at h
  have keyh : ∀ s, execOp a.eval ⟨dst, op, type, pos, after, none⟩ = Sem.halt (.stuck s) → ∃ v, Yields P ops ⟨dst, op, type, pos, after, none⟩ v a ∧ K (a.put dst v) w := by
    intro s e
    exfalso
    rcases h with h | ⟨h, _⟩
    · unfold Oper.wp at h
      rw [e] at h
      exact h
    · unfold Oper.asks at h
      rw [e] at h
      simp [Sem.runT] at h
  cases op <;> first | (simp [handsOn] at hp; done) | skip
  case move x => exact key (a.eval x) rfl
  case assign x => exact key (a.eval x) rfl
  case extract t ix =>
    cases ht : a.eval t with
    | tuple vs =>
      cases hv : vs[ix]? with
      | some v => exact key v (by simp [execOp, Instr.extract, ht, hv]; rfl)
      | none => exact keyh _ (by simp [execOp, Instr.extract, ht, hv]; rfl)
    | _ => exact keyh _ (by simp [execOp, Instr.extract, ht]; rfl)

/-- Whoever of js is ready has q's forerunners done: j waits, over at most three steps, for each of them. -/
def reachB (md : Region.Mode) (ops : Array Oper) : Nat → Nat → Nat → Bool
  | 0, _, _ => false
  | n + 1, j, d => Region.waitsFor md ops j d || (List.range ops.size).any fun m => Region.waitsFor md ops j m && reachB md ops n m d

theorem reach_listed {ops : Array Oper} {listed : Array Bool} (closed : ∀ j oj, ops[j]? = some oj → listed.getD j false = true → ∀ e ∈ oj.after, Region.binds md e = true → listed.getD e.on false = true) :
    ∀ (n j d : Nat), reachB md ops n j d = true → (∀ oj, ops[j]? = some oj → ∀ e ∈ oj.after, Region.binds md e = true → listed.getD e.on false = true) → listed.getD d false = true
  | 0, _, _, h, _ => by cases h
  | n + 1, j, d, h, hj => by
    simp only [reachB, Bool.or_eq_true, List.any_eq_true, Bool.and_eq_true] at h
    rcases h with h | ⟨m, _, hm, hd⟩
    · obtain ⟨oj, hoj, e, he, hb, rfl⟩ := Region.waitsFor_spec h
      exact hj oj hoj e he hb
    · obtain ⟨oj, hoj, e, he, hb, rfl⟩ := Region.waitsFor_spec hm
      have hl := hj oj hoj e he hb
      exact reach_listed closed n e.on d hd (fun om hom => closed _ om hom hl)

def lateB (md : Region.Mode) (l : List Oper) (q : Nat) (js : List Nat) : Bool :=
  Region.noSelect l.toArray && !js.contains q && js.all (fun j => decide (j < l.length)) &&
  (match l[q]? with
   | some oq => handsOn oq && (oq.after.toList.all fun e => !Region.binds md e || js.all fun j => reachB md l.toArray 4 j e.on) &&
     (List.range l.length).all fun j => j == q || Region.waitsFor md l.toArray q j || match l[j]? with
      | some oj => oj.after.any (fun e => Region.binds md e && e.on == q) || oq.apart l.toArray oj
      | none => true
   | none => false)

theorem wpAny_late {l : List Oper} {q : Nat} {js : List Nat} (hB : lateB md l q js = true) (hQ : ∀ (dst : Option Tmp) (v : Value) c a w, Q (.panic c) (Act.put a dst v) w → Q (.panic c) a w) :
    ∀ (fuel : Nat) (listed : Array Bool) (a : Act) (w : World), listed.size = l.length → (∀ j oj, l.toArray[j]? = some oj → listed.getD j false = true → ∀ e ∈ oj.after, Region.binds md e = true → listed.getD e.on false = true) →
      wpAny P md (late q js l).toArray Q fuel listed a w → wpAny P md l.toArray Q fuel listed a w := by
  simp only [lateB, Bool.and_eq_true, Bool.not_eq_true'] at hB
  obtain ⟨⟨⟨hsel, hqj⟩, hjs⟩, hq0⟩ := hB
  cases hoq : l[q]? with
  | none => rw [hoq] at hq0; cases hq0
  | some oq =>
  rw [hoq] at hq0
  simp only [Bool.and_eq_true] at hq0
  obtain ⟨⟨hp, hdeps⟩, hfree⟩ := hq0
  have hoq' : l.toArray[q]? = some oq := by simpa using hoq
  have get2 : ∀ i : Nat, (late q js l).toArray[i]? = (l.toArray[i]?).map fun o => if js.contains i then { o with after := o.after.push ⟨q, .data⟩ } else o := fun i => by
    simpa using late_get q js l i
  have hyd : ∀ i : Nat, ((late q js l).toArray[i]?).bind (fun o => o.dst) = (l.toArray[i]?).bind (fun o => o.dst) := fun i => by
    simpa using alikeBut_get (alikeBut_late q js l 0) i
  have hq2 : (late q js l).toArray[q]? = some oq := by rw [get2, hoq']; simp only [Option.map_some, hqj, Bool.false_eq_true, if_false]
  -- ready in the one and in the other
  have r2 : ∀ listed j, j ∈ Region.ready md (late q js l).toArray listed → j ∈ Region.ready md l.toArray listed := by
    intro listed j hj
    obtain ⟨h0, o, ho, hall⟩ := mem_ready.1 hj
    rw [get2] at ho
    obtain ⟨o1, ho1, rfl⟩ := Option.map_eq_some_iff.1 ho
    refine mem_ready.2 ⟨h0, o1, ho1, fun e he hb => hall e ?_ hb⟩
    split
    · simp [he]
    · exact he
  have r1 : ∀ listed j, j ∈ Region.ready md l.toArray listed → (js.contains j = true → listed.getD q false = true) → j ∈ Region.ready md (late q js l).toArray listed := by
    intro listed j hj hjq
    obtain ⟨h0, o, ho, hall⟩ := mem_ready.1 hj
    refine mem_ready.2 ⟨h0, if js.contains j then { o with after := o.after.push ⟨q, .data⟩ } else o, by rw [get2, ho]; rfl, fun e he hb => ?_⟩
    split at he
    · rename_i hc
      simp only [Array.mem_push] at he
      rcases he with he | rfl
      · exact hall e he hb
      · exact hjq hc
    · exact hall e he hb
  have rq : ∀ listed j, listed.size = l.length → (∀ j oj, l.toArray[j]? = some oj → listed.getD j false = true → ∀ e ∈ oj.after, Region.binds md e = true → listed.getD e.on false = true) →
      j ∈ Region.ready md l.toArray listed → js.contains j = true → listed.getD q false = false → q ∈ Region.ready md (late q js l).toArray listed := by
    intro listed j hsz closed hj hjc hun
    obtain ⟨_, oj, hoj, hall⟩ := mem_ready.1 hj
    have hql : q < l.length := (List.getElem?_eq_some_iff.1 hoq).1
    refine r1 listed q (mem_ready.2 ⟨getD_in (by omega) hun, oq, hoq', fun e he hb => ?_⟩) (fun h => by rw [hqj] at h; cases h)
    have h1 := List.all_eq_true.1 hdeps e (by simpa using he)
    simp only [hb, Bool.not_true, Bool.false_or] at h1
    have h2 := List.all_eq_true.1 h1 j (by simpa using hjc)
    exact reach_listed closed 4 j e.on h2 (fun oj' hoj' => by rw [hoj] at hoj'; obtain rfl := Option.some.inj hoj'; exact hall)
  have wp2 : ∀ i K a w, wpOp P (late q js l).toArray Q i K a w → wpOp P l.toArray Q i K a w := by
    intro i K a w h
    unfold wpOp at h ⊢
    rw [get2, yielded_late hyd] at h
    cases hi : l.toArray[i]? with
    | none => rw [hi] at h; exact h
    | some o =>
      rw [hi] at h
      simp only [Option.map_some] at h
      split at h
      · exact h
      · exact h
  intro fuel
  induction fuel with
  | zero =>
    intro listed a w hsz closed h
    refine ⟨?_, h.2⟩
    apply List.eq_nil_iff_forall_not_mem.2
    intro j hj
    have h2 := h.1
    by_cases hc : js.contains j = true ∧ listed.getD q false = false
    · have := rq listed j hsz closed hj hc.1 hc.2
      rw [h2] at this
      cases this
    · have := r1 listed j hj (fun h1 => by
        cases h3 : listed.getD q false with
        | true => rfl
        | false => exact absurd ⟨h1, h3⟩ hc)
      rw [h2] at this
      cases this
  | succ fuel ih =>
    intro listed a w hsz closed h
    have closed' : ∀ j, j ∈ Region.ready md l.toArray listed → ∀ k ok, l.toArray[k]? = some ok → (listed.setIfInBounds j true).getD k false = true → ∀ e ∈ ok.after, Region.binds md e = true → (listed.setIfInBounds j true).getD e.on false = true := by
      intro j hj k ok hk hl e he hb
      by_cases hkj : j = k
      · subst hkj
        obtain ⟨_, o, ho, hall⟩ := mem_ready.1 hj
        rw [hk] at ho
        obtain rfl := Option.some.inj ho
        exact getD_set_true (hall e he hb)
      · rw [getD_set_ne false hkj] at hl
        exact getD_set_true (closed k ok hk hl e he hb)
    by_cases hqr : q ∈ Region.ready md (late q js l).toArray listed
    · obtain ⟨v, hy, hK⟩ := handsOn_yields hq2 hp (h.2 q hqr)
      have hr := r2 _ _ hqr
      have h1 := ih _ _ _ (by simpa using hsz) (closed' q hr) hK
      have hy' : Yields P l.toArray oq v a := by
        unfold Yields at hy ⊢
        rwa [yielded_late hyd] at hy
      refine wpAny_first hoq' (Region.noSelect_spec hsel) (hQ oq.dst v) fuel listed a w (fun j oj hj hjq hun hno => ?_) hr hy' h1
      have h2 := List.all_eq_true.1 hfree j (List.mem_range.2 (by simpa using (Array.getElem?_eq_some_iff.1 hj).1))
      have hj' : l[j]? = some oj := by simpa using hj
      simp only [hj', Bool.or_eq_true, beq_iff_eq, hjq, false_or] at h2
      rcases h2 with h2 | h2 | h2
      · obtain ⟨ok, hok, e, he, hb, rfl⟩ := Region.waitsFor_spec h2
        obtain ⟨_, or, hor, hall⟩ := mem_ready.1 hr
        rw [hor] at hok
        obtain rfl := Option.some.inj hok
        have h3 := hall e he hb
        rw [getD_both hun] at h3
        cases h3
      · obtain ⟨e, he, hb⟩ := Array.any_eq_true'.1 h2
        simp only [Bool.and_eq_true, beq_iff_eq] at hb
        exact absurd hb.2 (hno e he hb.1)
      · exact h2
    · have same : ∀ j, j ∈ Region.ready md l.toArray listed → j ∈ Region.ready md (late q js l).toArray listed := fun j hj => by
        refine r1 listed j hj (fun h1 => ?_)
        cases h3 : listed.getD q false with
        | true => rfl
        | false => exact absurd (rq listed j hsz closed hj h1 h3) hqr
      refine ⟨fun h0 => h.1 (List.eq_nil_iff_forall_not_mem.2 fun j hj => ?_), fun i hi => ?_⟩
      · have := r2 _ _ hj
        rw [h0] at this
        cases this
      · exact wpOp_mono (fun a' w' h3 => ih _ a' w' (by simpa using hsz) (closed' i hi) h3) (wp2 i _ a w (h.2 i (same i hi)))

theorem wp_region_late {id : Nat} {a : Act} {w : World} {l : List Oper} (q : Nat) (js : List Nat) (hmo : P.follows .mixedOrders = true) (hB : lateB .any l q js = true)
    (hQ : ∀ (dst : Option Tmp) (v : Value) c a w, Q (.panic c) (Act.put a dst v) w → Q (.panic c) a w)
    (h : wpAny P .any (late q js l).toArray Q l.length (Array.replicate l.length false) a { w with drawn := w.drawn + 1 }) : (Code.region id l.toArray true).wp P Q a w := by
  refine wp_region_any hmo ?_
  have := wpAny_late (P := P) (Q := Q) hB hQ l.length (Array.replicate l.length false) a { w with drawn := w.drawn + 1 } (by simp) (fun j oj _ hl => by rw [getD_replicate_false] at hl; cases hl) h
  simpa using this

/-- .. with one new variable: 'wp_region_float', with q put ahead of js. -/
theorem wp_region_late_float {id : Nat} {a : Act} {w : World} {l : List Oper} (q : Nat) (js : List Nat) (m n : Nat) (om : Oper) (O : Obj) (hmo : P.follows .mixedOrders = true) (hL : lateB .any l q js = true)
    (hQ : ∀ (dst : Option Tmp) (v : Value) c a w, Q (.panic c) (Act.put a dst v) w → Q (.panic c) a w) (hjm : js.contains m = false) (hB : floatB (late q js l).toArray m n = true) (hom : l[m]? = some om) (hguard : om.guard = none)
    (hal : ∀ (ρ : Operand → Value) (w1 : World), (execOp ρ om).run P w1 = .ok (.value (.pointer (some ⟨w1.heap.size, 0, none⟩))) (w1.alloc O)) (B K : Nat) (hK : B + K ≤ w.heap.size)
    (h : ∀ W, (∀ (k : Kin W) (b o : Nat), b < B + K → k.it.cell? ⟨b, o, none⟩ = w.cell? ⟨b, o, none⟩) → Below w.heap.size w W →
      wpQuiet P l.toArray (fun w' => ∃ k : Kin W, w' = k.it) (fun a' => ∀ w' b, Below w.heap.size w w' → w.heap.size ≤ b → w'.heap[b]? = some O →
        wpList P l.toArray Q (l.drop n) (a'.put om.dst (.pointer (some ⟨b, 0, none⟩))) w') (l.take m ++ (l.take n).drop (m + 1)) a) : (Code.region id l.toArray true).wp P Q a w := by
  refine wp_region_late q js hmo hL hQ ?_
  have hal' := alikeBut_late q js l 0
  have hyd : ∀ i : Nat, ((late q js l).toArray[i]?).bind (fun o => o.dst) = (l.toArray[i]?).bind (fun o => o.dst) := fun i => by
    simpa using alikeBut_get hal' i
  have hom2 : (late q js l)[m]? = some om := by rw [late_get, hom]; simp only [Option.map_some, hjm, Bool.false_eq_true, if_false]
  have := any_float (P := P) (Q := Q) (a := a) (w := w) (l := late q js l) m n om O hB hom2 hguard hal B K hK (fun W hk hW => by
    have h1 := h W hk hW
    refine wpQuiet_late hyd (alikeBut_app (alikeBut_take hal' m) (alikeBut_drop (alikeBut_take hal' n) (m + 1))) a (wpQuiet_mono (fun a' h2 w' b h3 h4 h5 => ?_) _ _ h1)
    exact wpList_late hyd (alikeBut_drop hal' n) _ _ (h2 w' b h3 h4 h5))
  have e : (late q js l).length = l.length := lateFrom_len q js l 0
  rw [show (late q js l).toArray.size = l.length by simpa using e] at this
  exact this

/-- .. with no new variable: the first n operations quiet, the others behind them in their one order. -/
theorem wp_region_late_tail {id : Nat} {a : Act} {w : World} {l : List Oper} (q : Nat) (js : List Nat) (n : Nat) (hmo : P.follows .mixedOrders = true) (hL : lateB .any l q js = true)
    (hQ : ∀ (dst : Option Tmp) (v : Value) c a w, Q (.panic c) (Act.put a dst v) w → Q (.panic c) a w) (hB : Region.lexTailB .any (late q js l).toArray n = true) (B K : Nat) (hK : B + K ≤ w.heap.size)
    (h : (∀ (k : Kin w) (b o : Nat), b < B + K → k.it.cell? ⟨b, o, none⟩ = w.cell? ⟨b, o, none⟩) →
      wpQuiet P l.toArray (fun w' => ∃ k : Kin w, w' = k.it) (fun a' => ∀ w', Below w.heap.size w w' → wpList P l.toArray Q (l.drop n) a' w') (l.take n) a) : (Code.region id l.toArray true).wp P Q a w := by
  refine wp_region_late q js hmo hL hQ ?_
  have hal' := alikeBut_late q js l 0
  have hyd : ∀ i : Nat, ((late q js l).toArray[i]?).bind (fun o => o.dst) = (l.toArray[i]?).bind (fun o => o.dst) := fun i => by
    simpa using alikeBut_get hal' i
  have := any_kin_tail (P := P) (Q := Q) (a := a) (w := w) (l := late q js l) n hB B K hK (fun hk =>
    wpQuiet_late hyd (alikeBut_take hal' n) a (wpQuiet_mono (fun a' h2 w' h3 => wpList_late hyd (alikeBut_drop hal' n) _ _ (h2 w' h3)) _ _ (h hk)))
  have e : (late q js l).length = l.length := lateFrom_len q js l 0
  rw [show (late q js l).toArray.size = l.length by simpa using e] at this
  exact this
end
end Go.Proofs.YthjolojpjajppaaGreat
set_option linter.unusedVariables false
set_option linter.unusedSimpArgs false
set_option linter.unnecessarySimpa false
namespace Go.Proofs.YthjolojpjajppaaGreat
open Go.RowKit

abbrev Has1 (w : World) (b : Nat) (v0 : Value) : Prop := b < w.heap.size ∧ w.cell? ⟨b, 0, none⟩ = some v0
abbrev Has2 (w : World) (b : Nat) (v0 v1 : Value) : Prop := b < w.heap.size ∧ w.cell? ⟨b, 0, none⟩ = some v0 ∧ w.cell? ⟨b, 1, none⟩ = some v1
abbrev Has3 (w : World) (b : Nat) (v0 v1 v2 : Value) : Prop := b < w.heap.size ∧ w.cell? ⟨b, 0, none⟩ = some v0 ∧ w.cell? ⟨b, 1, none⟩ = some v1 ∧ w.cell? ⟨b, 2, none⟩ = some v2
abbrev Has6 (w : World) (b : Nat) (v0 v1 v2 v3 v4 v5 : Value) : Prop := b < w.heap.size ∧ w.cell? ⟨b, 0, none⟩ = some v0 ∧ w.cell? ⟨b, 1, none⟩ = some v1 ∧ w.cell? ⟨b, 2, none⟩ = some v2 ∧ w.cell? ⟨b, 3, none⟩ = some v3 ∧ w.cell? ⟨b, 4, none⟩ = some v4 ∧ w.cell? ⟨b, 5, none⟩ = some v5

section
variable {w w' : World} {b : Nat} {v0 v1 v2 v3 v4 v5 : Value}
theorem cell_next {o : Nat} {v : Value} (hl : b < w.heap.size) (h : w.cell? ⟨b, o, none⟩ = some v) (hb : Below w.heap.size w w') : w'.cell? ⟨b, o, none⟩ = some v := (hb.cell (p := ⟨b, o, none⟩) hl).trans h
theorem has1 (h : Has1 w b v0) (hb : Below w.heap.size w w') : Has1 w' b v0 := ⟨Nat.lt_of_lt_of_le h.1 hb.size, cell_next h.1 h.2 hb⟩
theorem has2 (h : Has2 w b v0 v1) (hb : Below w.heap.size w w') : Has2 w' b v0 v1 := ⟨Nat.lt_of_lt_of_le h.1 hb.size, cell_next h.1 h.2.1 hb, cell_next h.1 h.2.2 hb⟩
theorem has3 (h : Has3 w b v0 v1 v2) (hb : Below w.heap.size w w') : Has3 w' b v0 v1 v2 := ⟨Nat.lt_of_lt_of_le h.1 hb.size, cell_next h.1 h.2.1 hb, cell_next h.1 h.2.2.1 hb, cell_next h.1 h.2.2.2 hb⟩
theorem has6 (h : Has6 w b v0 v1 v2 v3 v4 v5) (hb : Below w.heap.size w w') : Has6 w' b v0 v1 v2 v3 v4 v5 := ⟨Nat.lt_of_lt_of_le h.1 hb.size, cell_next h.1 h.2.1 hb, cell_next h.1 h.2.2.1 hb, cell_next h.1 h.2.2.2.1 hb, cell_next h.1 h.2.2.2.2.1 hb, cell_next h.1 h.2.2.2.2.2.1 hb, cell_next h.1 h.2.2.2.2.2.2 hb⟩
end
end Go.Proofs.YthjolojpjajppaaGreat
set_option linter.unusedVariables false
set_option linter.unusedSimpArgs false
set_option linter.unnecessarySimpa false
namespace Go.Proofs.YthjolojpjajppaaGreat
open Go.RowKit
namespace Sq
theorem retv {v v' : Value} (h : v = v') : Ending.returned v = .returned v' := by rw [h]
theorem vint {k : IntKind} {a b : Int} (h : a = b) : Value.int k a = .int k b := by rw [h]
theorem vbool {a b : Bool} (h : a = b) : Value.bool a = .bool b := by rw [h]
/-- new blocks alone since v -/
def Since (v w : World) : Prop := Below v.heap.size v w
theorem Since.next {v w w' : World} (h : Since v w) (hb : Below w.heap.size w w') : Since v w' := Below.andThen h hb
/-- an element's cells -/
structure El (α : Type) where
  k : Nat
  f : α → List Value
  pos : 0 < k
  len : ∀ x, (f x).length = k
  one : ∀ x, ∀ u ∈ f x, u.oneCell' = true
section
variable {α : Type} {E : El α}
theorem flat_len (E : El α) (l : List α) : (l.flatMap E.f).length = l.length * E.k := by
  induction l with
  | nil => simp
  | cons a l ih => rw [List.flatMap_cons, List.length_append, ih, E.len, List.length_cons, Nat.succ_mul, Nat.add_comm]
theorem flat_at (E : El α) : ∀ (l : List α) (j : Nat) (x : α) (i : Nat), l[j]? = some x → i < E.k → (l.flatMap E.f)[j * E.k + i]? = (E.f x)[i]?
  | [], j, x, i, h, _ => by simp at h
  | a :: l, 0, x, i, h, hi => by
    simp only [List.getElem?_cons_zero, Option.some.injEq] at h
    subst h
    rw [List.flatMap_cons, Nat.zero_mul, Nat.zero_add, List.getElem?_append_left (by rw [E.len]; exact hi)]
  | a :: l, j + 1, x, i, h, hi => by
    rw [List.getElem?_cons_succ] at h
    rw [List.flatMap_cons, Nat.succ_mul, List.getElem?_append_right (by rw [E.len]; omega), E.len, show j * E.k + E.k + i - E.k = j * E.k + i by omega]
    exact flat_at E l j x i h hi
theorem flat_of (E : El α) {l : List α} {n : Nat} {u : Value} (h : (l.flatMap E.f)[n]? = some u) : ∃ x, l[n / E.k]? = some x ∧ (E.f x)[n % E.k]? = some u := by
  have hlt : n < l.length * E.k := by rw [← flat_len]; exact (List.getElem?_eq_some_iff.1 h).1
  have hj : n / E.k < l.length := Nat.div_lt_of_lt_mul (by rw [Nat.mul_comm]; exact hlt)
  refine ⟨l[n / E.k], List.getElem?_eq_getElem hj, ?_⟩
  have h2 := flat_at E l (n / E.k) _ (n % E.k) (List.getElem?_eq_getElem hj) (Nat.mod_lt _ E.pos)
  rw [Nat.mul_comm, Nat.div_add_mod, h] at h2
  exact h2.symm
theorem flat_one (E : El α) (l : List α) : ∀ u ∈ l.flatMap E.f, u.oneCell' = true := by
  intro u hu
  obtain ⟨x, _, h⟩ := List.mem_flatMap.1 hu
  exact E.one x u h
theorem add_lit (b off n : Nat) : Addr.add ⟨b, off, none⟩ n = ⟨b, off + n, none⟩ := by unfold Addr.add; split <;> simp_all
/-- the elements of a slice -/
def Sl (E : El α) (w : World) (o : Option Addr) (l : List α) : Prop := l = [] ∨ ∃ b off, o = some ⟨b, off, none⟩ ∧ b < w.heap.size ∧ ∀ (j : Nat) x, l[j]? = some x → ∀ (i : Nat) v, (E.f x)[i]? = some v → w.cell? ⟨b, off + j * E.k + i, none⟩ = some v
theorem Sl.next {w w' : World} {o : Option Addr} {l : List α} (h : Sl E w o l) (hb : Below w.heap.size w w') : Sl E w' o l := by
  rcases h with rfl | ⟨b, off, e, hl, hc⟩
  · exact .inl rfl
  · exact .inr ⟨b, off, e, Nat.lt_of_lt_of_le hl hb.size, fun j x hx i v hv => (hb.cell (p := ⟨b, off + j * E.k + i, none⟩) hl).trans (hc j x hx i v hv)⟩
theorem Sl.nil (w : World) (o : Option Addr) : Sl E w o [] := .inl rfl
theorem Sl.take {w : World} {o : Option Addr} {l : List α} (k : Nat) (h : Sl E w o l) : Sl E w o (l.take k) := by
  rcases h with rfl | ⟨b, off, e, hl, hc⟩
  · exact .inl (by simp)
  · exact .inr ⟨b, off, e, hl, fun j x hx => hc j x (by
      rw [List.getElem?_take] at hx
      split at hx
      · exact hx
      · cases hx)⟩
theorem Sl.drop {w : World} {b off : Nat} {l : List α} (k : Nat) (h : Sl E w (some ⟨b, off, none⟩) l) : Sl E w (some ⟨b, off + k * E.k, none⟩) (l.drop k) := by
  rcases h with rfl | ⟨b', off', e, hl, hc⟩
  · exact .inl (by simp)
  · cases e
    exact .inr ⟨b, off + k * E.k, rfl, hl, fun j x hx i v hv => by
      rw [List.getElem?_drop] at hx
      have := hc _ x hx i v hv
      rw [Nat.add_mul] at this
      rw [← this]
      congr 2
      omega⟩
theorem Sl.cells {w : World} {o : Option Addr} {l : List α} (h : Sl E w o l) (h0 : l ≠ []) : ∃ b off, o = some ⟨b, off, none⟩ ∧ b < w.heap.size ∧ ∀ (j : Nat) x, l[j]? = some x → ∀ (i : Nat) v, (E.f x)[i]? = some v → w.cell? ⟨b, off + j * E.k + i, none⟩ = some v := by
  rcases h with rfl | h
  · exact absurd rfl h0
  · exact h
theorem Sl.holds {w : World} {a : Addr} {l : List α} (h : Sl E w (some a) l) : ∀ (n : Nat) u, (l.flatMap E.f)[n]? = some u → w.cell? (a.add n) = some u := by
  intro n u hu
  obtain ⟨x, hx, hv⟩ := flat_of E hu
  rcases h with rfl | ⟨b, off, e, _, hc⟩
  · simp at hx
  · cases e
    rw [add_lit]
    have := hc _ x hx _ u hv
    rwa [Nat.add_assoc, Nat.mul_comm, Nat.div_add_mod] at this
theorem sl_of {w : World} {b off : Nat} {l : List α} (hb : b < w.heap.size) (h : ∀ (n : Nat) u, (l.flatMap E.f)[n]? = some u → w.cell? ⟨b, off + n, none⟩ = some u) : Sl E w (some ⟨b, off, none⟩) l :=
  .inr ⟨b, off, rfl, hb, fun j x hx i v hv => by
    rw [Nat.add_assoc]
    refine h _ v ?_
    rw [flat_at E l j x i hx (by have := (List.getElem?_eq_some_iff.1 hv).1; rwa [E.len] at this)]
    exact hv⟩
theorem row_sl {w : World} {b : Nat} {t : TypeId} {l : List α} (h : Row w b t (l.flatMap E.f)) : Sl E w (some ⟨b, 0, none⟩) l :=
  sl_of h.lt fun n u hu => by rw [Nat.zero_add, h.cell]; exact hu
theorem sl_new (E : El α) (w : World) (t : TypeId) (l : List α) : Sl E (w.alloc (.cells (l.flatMap E.f).toArray t)) (some ⟨w.heap.size, 0, none⟩) l := row_sl (Row.new w t _)
/-- a slice, as a value -/
def Vw (E : El α) (w : World) (v : Value) (l : List α) : Prop := ∃ o c, v = .slice o l.length c ∧ l.length ≤ c ∧ c ≤ 9223372036854775807 ∧ (o = none → c = 0) ∧ Sl E w o l
theorem Vw.next {w w' : World} {v : Value} {l : List α} (h : Vw E w v l) (hb : Below w.heap.size w w') : Vw E w' v l := by
  obtain ⟨o, c, h1, h2, h3, h4, h5⟩ := h
  exact ⟨o, c, h1, h2, h3, h4, h5.next hb⟩
theorem vw_nil (w : World) : Vw E w (.slice none 0 0) [] := ⟨none, 0, rfl, Nat.le_refl _, by decide, fun _ => rfl, .inl rfl⟩
/-- an own row -/
def Own (E : El α) (e : TypeId) (w : World) (B0 : Nat) (v : Value) (l : List α) : Prop := w.ownsRow B0 e E.k v l.length (l.flatMap E.f)
theorem info_parts {P : Program} {t : TypeId} {z : Value} {s b : Nat} (h : (P.info? t).map (fun i => (i.zero, i.size, i.bytes)) = some (some z, s, b)) : ∃ i, P.info? t = some i ∧ i.zero = some z ∧ i.size = s ∧ i.bytes = b := by
  cases hq : P.info? t with
  | none => simp [hq] at h
  | some i =>
    simp [hq] at h
    exact ⟨i, rfl, h.1, h.2.1, h.2.2⟩
theorem own_block {W : World} {b k : Nat} {e : TypeId} {size : Nat} {v : Value} {xs : List Value} (h : W.ownsRow b e size v k xs) : ∀ j, v.ownBlock = some j → b ≤ j := by
  intro j hj
  rcases h.2 with ⟨rfl, _⟩ | ⟨g, cap, cur, rfl, hgb, _⟩
  · cases hj
  · simp [Value.ownBlock] at hj
    omega
theorem Own.block {e : TypeId} {w : World} {B0 : Nat} {v : Value} {l : List α} (h : Own E e w B0 v l) : ∀ j, v.ownBlock = some j → B0 ≤ j := own_block h
theorem Own.sl {e : TypeId} {w : World} {B0 : Nat} {o : Option Addr} {n c : Nat} {l : List α} (h : Own E e w B0 (.slice o n c) l) : Sl E w o l := by
  rcases h.2 with ⟨h1, h0⟩ | ⟨g, cap, cur, h1, hg, hb, _⟩
  · exact .inl (List.eq_nil_of_length_eq_zero h0)
  · cases h1
    refine sl_of (Array.getElem?_eq_some_iff.1 hb).1 fun n u hu => ?_
    have := h.cells (g := g) rfl n u hu
    rwa [add_lit] at this
theorem Own.vw {e : TypeId} {w : World} {B0 : Nat} {v : Value} {l : List α} (h : Own E e w B0 v l) : Vw E w v l := by
  have hx := h
  rcases h.2 with ⟨rfl, h0⟩ | ⟨g, cap, cur, rfl, _, _, h1, h2, _⟩
  · exact ⟨none, 0, by rw [h0], by omega, by decide, fun _ => rfl, hx.sl⟩
  · exact ⟨some ⟨g, 0, none⟩, cap, rfl, h1, h2, fun h => (by cases h), hx.sl⟩
theorem Own.next {e : TypeId} {w w' : World} {B0 : Nat} {v : Value} {l : List α} (h : Own E e w B0 v l) (hb : Below w.heap.size w w') : Own E e w' B0 v l :=
  World.ownsRow.kept (row := none) h ⟨hb.os, hb.tape, hb.output, hb.size, fun k hk _ => hb.block k hk⟩ (by cases v.ownBlock with | none => exact .inl rfl | some b => exact .inr (by simp))
theorem Own.lower {e : TypeId} {w : World} {B0 C : Nat} {v : Value} {l : List α} (h : Own E e w B0 v l) (hC : C ≤ B0) : Own E e w C v l := by
  refine ⟨h.1, ?_⟩
  rcases h.2 with h1 | ⟨g, cap, cur, e, hg, h2⟩
  · exact .inl h1
  · exact .inr ⟨g, cap, cur, e, Nat.le_trans hC hg, h2⟩
theorem own_nil (e : TypeId) (w : World) (B0 : Nat) : Own E e w B0 (.slice none 0 0) [] := World.ownsRow_nil _ _ _ _
theorem Own.cell {e : TypeId} {w : World} {B0 g n c : Nat} {l : List α} (h : Own E e w B0 (.slice (some ⟨g, 0, none⟩) n c) l) : ∃ cur : List Value, Row w g e cur ∧ cur.take (n * E.k) = l.flatMap E.f ∧ l.length = n ∧ cur.length = c * E.k ∧ n ≤ c ∧ B0 ≤ g := by
  rcases h.2 with ⟨h1, _⟩ | ⟨g', cap, cur, h1, hg, hb, hn, _, hc, ht⟩
  · cases h1
  · cases h1
    exact ⟨cur.toList, hb, ht, rfl, by simpa using hc, hn, hg⟩
theorem own_is_some {e : TypeId} {w : World} {B0 k : Nat} {v : Value} {l : List α} (h : Own E e w B0 v l) (hk : l.length = k + 1) : ∃ g c, v = .slice (some ⟨g, 0, none⟩) (k + 1) c ∧ B0 ≤ g ∧ g < w.heap.size ∧ k + 1 ≤ c ∧ c ≤ 9223372036854775807 := by
  rcases h.2 with ⟨_, h1⟩ | ⟨g, cap, cur, rfl, h2, h3, h4, h5, _⟩
  · omega
  · exact ⟨g, cap, by rw [hk], h2, (Array.getElem?_eq_some_iff.1 h3).1, by omega, h5⟩
/-- an own row's block is no row of another type -/
theorem own_apart {e t : TypeId} {w : World} {B0 b : Nat} {v : Value} {l : List α} {C : List Value} (h : Own E e w B0 v l) (hr : Row w b t C) (ht : e ≠ t) : v.ownBlock ≠ some b := by
  intro hb
  rcases h.2 with ⟨rfl, _⟩ | ⟨g, cap, cur, rfl, _, h3, _⟩
  · cases hb
  · simp [Value.ownBlock] at hb
    subst hb
    rw [show w.heap[g]? = _ from hr] at h3
    cases h3
    exact ht rfl
theorem own_lt {e : TypeId} {w : World} {B0 : Nat} {v : Value} {l : List α} (h : Own E e w B0 v l) : ∀ j, v.ownBlock = some j → j < w.heap.size := fun j hj => (World.ownsRow.lt h j hj).2
/-- a slice literal's row is its maker's -/
theorem made_own (E : El α) (e : TypeId) (w : World) (l : List α) {B0 n N : Nat} (hB : B0 ≤ w.heap.size) (hn : w.heap.size = n) (hl : l.length = N) (hN : N ≤ 1000) : Own E e (w.alloc (.cells (l.flatMap E.f).toArray e)) B0 (.slice (some ⟨n, 0, none⟩) N N) l := by
  subst hn
  subst hl
  refine ⟨flat_len E l, .inr ⟨w.heap.size, l.length, (l.flatMap E.f).toArray, rfl, hB, Row.new w _ _, Nat.le_refl _, by unfold maxLen; omega, by rw [List.size_toArray, flat_len], ?_⟩⟩
  apply List.take_of_length_le
  rw [List.toList_toArray, flat_len]
  exact Nat.le_refl _
/-- what the program says of a slice's type and its elements' -/
structure Ty (E : El α) (t e : TypeId) : Prop where
  und : Tryz.prog.underlying t = some (.slice e)
  info : ∃ i z, Tryz.prog.info? e = some i ∧ i.zero = some z ∧ i.size = E.k ∧ i.bytes ≤ 1024 ∧ z.cells.size = E.k
theorem ty_mk {t e : TypeId} {z : Value} {b : Nat} (h1 : Tryz.prog.underlying t = some (.slice e)) (h2 : (Tryz.prog.info? e).map (fun i => (i.zero, i.size, i.bytes)) = some (some z, E.k, b)) (h3 : b ≤ 1024) (h4 : z.cells.size = E.k) : Ty E t e := by
  obtain ⟨i, q1, q2, q3, q4⟩ := info_parts h2
  exact ⟨h1, i, z, q1, q2, q3, by omega, h4⟩
variable {t e : TypeId}
theorem run_append (T : Ty E t e) (ty : TypeId) (w : World) (B0 : Nat) (v : Value) (xs : List α) (hown : Own E e w B0 v xs) (po : Option Addr) (m c : Nat) (ns : List α) (hm : ns.length = m) (hnil : po = none → c = 0) (hS : Sl E w po ns)
    (hl : xs.length + m ≤ 2 ^ 36) (hB : B0 ≤ w.heap.size) :
    ∃ v' w', (Builtin.append_ #[t, t] ty #[v, .slice po m c]).run Tryz.prog w = .ok v' w' ∧ Own E e w' B0 v' (xs ++ ns) ∧ w.grownBy w' v.ownBlock := by
  obtain ⟨i0, z, hi0, hz0, hz1, hz2, hz3⟩ := T.info
  have ht := T.und
  cases po with
  | none =>
    have hn : ns = [] := by
      rcases hS with h | ⟨b, off, h, _⟩
      · exact h
      · cases h
    subst hn
    obtain rfl : m = 0 := hm.symm
    obtain rfl := hnil rfl
    refine ⟨v, w, ?_, by simpa using hown, World.grownBy.refl _ _⟩
    rcases hown.2 with ⟨rfl, h0⟩ | ⟨g, cap, cur, rfl, _, _, hnc, _⟩
    · simp [Builtin.append_, run_underlying ht, sizeOf, typeInfo, hi0, Builtin.lenOf, Builtin.firstCells, loadCells, loadCellsFrom]
    · simp [Builtin.append_, run_underlying ht, sizeOf, typeInfo, hi0, Builtin.lenOf, Builtin.firstCells, loadCells, loadCellsFrom, hnc, storeCells]
  | some a =>
    have hbytes : (xs.length + m) * i0.bytes ≤ 140737488355328 := by
      have h1 : (xs.length + m) * i0.bytes ≤ 2 ^ 36 * 1024 := Nat.mul_le_mul hl hz2
      omega
    obtain ⟨v', w', hr, h2, h3, _⟩ := run_append_own (P := Tryz.prog) w B0 t ty e i0 z E.k i0.bytes ht hi0 hz0 hz1 rfl hz3 E.pos v xs.length (xs.flatMap E.f) hown a m c (ns.flatMap E.f) (by rw [flat_len, hm]) hS.holds (flat_one E ns) (by unfold maxLen; omega) hbytes hB
    refine ⟨v', w', hr, ?_, h3⟩
    unfold Own
    rw [List.length_append, List.flatMap_append, hm]
    exact h2
theorem wpList_append (T : Ty E t e) {ops : Array Oper} {rest : List Oper} {o : Oper} {a : Act} {w : World} {Q : Exit → Act → World → Prop} (hgd : o.guard = none) (s x : Operand)
    (ho : o.op = .call { callee := .builtin .append, args := #[s, x], argTypes := #[t, t] })
    (B0 : Nat) (v : Value) (xs : List α) (hs : a.eval s = v) (hown : Own E e w B0 v xs) (po : Option Addr) (m c : Nat) (ns : List α) (hx : a.eval x = .slice po m c) (hm : ns.length = m) (hnil : po = none → c = 0) (hS : Sl E w po ns)
    (hl : xs.length + m ≤ 2 ^ 36) (hB : B0 ≤ w.heap.size) (h : ∀ v' w', Own E e w' B0 v' (xs ++ ns) → w.grownBy w' v.ownBlock → wpList Tryz.prog ops Q rest (a.put o.dst v') w') : wpList Tryz.prog ops Q (o :: rest) a w :=
  wpList_plain hgd fun _ hK => by
    obtain ⟨v', w', hr, h2, h3⟩ := run_append T o.type w B0 v xs hown po m c ns hm hnil hS hl hB
    unfold Oper.wp execOp
    simp only [ho, resolve, invoke, builtin, Sem.run_bind, Sem.run_pure, Result.andThen_ok, List.map_toArray, List.map_cons, List.map_nil, hs, hx, hr]
    exact hK _ _ (h v' w' h2 h3)
theorem step_append (T : Ty E t e) {ops : Array Oper} {o : Oper} {a : Act} {w : World} {K : Act → World → Prop} {Q : Exit → Act → World → Prop} {Z : Prop} (hgd : o.guard = none) (s x : Operand)
    (ho : o.op = .call { callee := .builtin .append, args := #[s, x], argTypes := #[t, t] })
    (B0 : Nat) (v : Value) (xs : List α) (hs : a.eval s = v) (hown : Own E e w B0 v xs) (po : Option Addr) (m c : Nat) (ns : List α) (hx : a.eval x = .slice po m c) (hm : ns.length = m) (hnil : po = none → c = 0) (hS : Sl E w po ns)
    (hl : xs.length + m ≤ 2 ^ 36) (hB : B0 ≤ w.heap.size) (h : ∀ v' w', Own E e w' B0 v' (xs ++ ns) → w.grownBy w' v.ownBlock → K (a.put o.dst v') w') :
    if Region.wanted o (yielded ops a.tmps) = true then Oper.wp Tryz.prog o a w K Q else Z := by
  rw [if_pos (by simp [Region.wanted, hgd])]
  obtain ⟨v', w', hr, h2, h3⟩ := run_append T o.type w B0 v xs hown po m c ns hm hnil hS hl hB
  unfold Oper.wp execOp
  simp only [ho, resolve, invoke, builtin, Sem.run_bind, Sem.run_pure, Result.andThen_ok, List.map_toArray, List.map_cons, List.map_nil, hs, hx, hr]
  exact h v' w' h2 h3
/-- append to a slice that is full: a row of one's own, or the slice as it was -/
theorem run_append_clip (T : Ty E t e) (ty : TypeId) (w : World) (o1 : Option Addr) (n : Nat) (xs : List α) (hx : xs.length = n) (hS : Sl E w o1 xs) (po : Option Addr) (m c : Nat) (ns : List α) (hm : ns.length = m) (hT : Sl E w po ns) (hl : n + m ≤ 1000000) :
    ∃ v' w', (Builtin.append_ #[t, t] ty #[.slice o1 n n, .slice po m c]).run Tryz.prog w = .ok v' w' ∧ Vw E w' v' (xs ++ ns) ∧ Below w.heap.size w w' ∧ (0 < m → Own E e w' w.heap.size v' (xs ++ ns)) := by
  obtain ⟨i0, z, hi0, hz0, hz1, hz2, hz3⟩ := T.info
  have ht := T.und
  by_cases h0 : m = 0
  · subst h0
    have hn : ns = [] := List.eq_nil_of_length_eq_zero hm
    subst hn
    rw [List.append_nil]
    have hnone : o1 = none → n = 0 := fun h => by
      rcases hS with rfl | ⟨b, off, h2, _⟩
      · exact hx.symm
      · rw [h] at h2; cases h2
    refine ⟨.slice o1 n n, w, ?_, ⟨o1, n, by rw [hx], by omega, by omega, hnone, hS⟩, Below.refl _ _, fun h => absurd h (Nat.lt_irrefl _)⟩
    cases po <;> cases o1 <;> simp [Builtin.append_, run_underlying ht, sizeOf, typeInfo, hi0, Builtin.lenOf, Builtin.firstCells, loadCells, loadCellsFrom, storeCells]
  · cases po with
    | none =>
      rcases hT with rfl | ⟨b, off, h, _⟩
      · exact absurd hm.symm h0
      · cases h
    | some a =>
      have hbytes : (n + m) * i0.bytes ≤ 140737488355328 := by
        have h1 : (n + m) * i0.bytes ≤ 1000000 * 1024 := Nat.mul_le_mul hl hz2
        omega
      have hB : Below w.heap.size w (w.drew.alloc (.cells ((xs.flatMap E.f).toArray ++ (ns.flatMap E.f).toArray ++ Builtin.zeroCells z.cells (grownCap w (n + m) n e - (n + m))) e)) := ((Below.refl _ _).drew).alloc (Nat.le_refl _) _
      have hr : (Builtin.append_ #[t, t] ty #[.slice o1 n n, .slice (some a) m c]).run Tryz.prog w = .ok (.slice (some ⟨w.heap.size, 0, none⟩) (n + m) (grownCap w (n + m) n e)) (w.drew.alloc (.cells ((xs.flatMap E.f).toArray ++ (ns.flatMap E.f).toArray ++ Builtin.zeroCells z.cells (grownCap w (n + m) n e - (n + m))) e)) := by
        cases o1 with
        | none =>
          have hn : xs = [] := by
            rcases hS with h | ⟨b, off, h, _⟩
            · exact h
            · cases h
          subst hn
          obtain rfl : n = 0 := hx.symm
          have := run_append_nil (P := Tryz.prog) w t ty e i0 z ht hi0 hz0 a m c (ns.flatMap E.f) (by rw [flat_len, hm, hz1]) hT.holds (by omega) (by omega) (by rw [Nat.zero_add] at hbytes; omega)
          simpa using this
        | some b =>
          exact run_append_grow (P := Tryz.prog) w t ty e i0 z ht hi0 hz0 b n n (xs.flatMap E.f) (by rw [flat_len, hx, hz1]) hS.holds a m c (ns.flatMap E.f) (by rw [flat_len, hm, hz1]) hT.holds (by omega) (by omega) (growslice_fits (by omega) hbytes)
      have hcap := grownCap_ge w (n + m) n e
      have hown : Own E e (w.drew.alloc (.cells ((xs.flatMap E.f).toArray ++ (ns.flatMap E.f).toArray ++ Builtin.zeroCells z.cells (grownCap w (n + m) n e - (n + m))) e)) w.heap.size (.slice (some ⟨w.heap.size, 0, none⟩) (n + m) (grownCap w (n + m) n e)) (xs ++ ns) := by
        refine ⟨by rw [flat_len], .inr ⟨w.heap.size, _, _, by rw [List.length_append, hx, hm], Nat.le_refl _, heap_alloc_new w.drew _, by rw [List.length_append, hx, hm]; exact hcap, grownCap_le_maxLen w (n + m) n e (by unfold maxLen; omega), ?_, ?_⟩⟩
        · simp only [Array.size_append, List.size_toArray, size_zeroCells, flat_len, hz3, ← Nat.add_mul, hx, hm]
          exact congrArg (· * E.k) (by omega)
        · have hl2 : (xs ++ ns).length * E.k = ((xs.flatMap E.f) ++ (ns.flatMap E.f)).length := by rw [← List.flatMap_append, flat_len]
          rw [hl2, List.flatMap_append]
          simp only [Array.toList_append, List.toList_toArray]
          exact List.take_left
      exact ⟨_, _, hr, hown.vw, hB, fun _ => hown⟩
theorem wpList_append_clip (T : Ty E t e) {ops : Array Oper} {rest : List Oper} {o : Oper} {a : Act} {w : World} {Q : Exit → Act → World → Prop} (hgd : o.guard = none) (s x : Operand)
    (ho : o.op = .call { callee := .builtin .append, args := #[s, x], argTypes := #[t, t] })
    (o1 : Option Addr) (n : Nat) (xs : List α) (hs : a.eval s = .slice o1 n n) (hxl : xs.length = n) (hS : Sl E w o1 xs) (po : Option Addr) (m c : Nat) (ns : List α) (hx : a.eval x = .slice po m c) (hm : ns.length = m) (hT : Sl E w po ns)
    (hl : n + m ≤ 1000000) (h : ∀ v' w', Vw E w' v' (xs ++ ns) → Below w.heap.size w w' → (0 < m → Own E e w' w.heap.size v' (xs ++ ns)) → wpList Tryz.prog ops Q rest (a.put o.dst v') w') : wpList Tryz.prog ops Q (o :: rest) a w :=
  wpList_plain hgd fun _ hK => by
    obtain ⟨v', w', hr, h2, h3, h4⟩ := run_append_clip T o.type w o1 n xs hxl hS po m c ns hm hT hl
    unfold Oper.wp execOp
    simp only [ho, resolve, invoke, builtin, Sem.run_bind, Sem.run_pure, Result.andThen_ok, List.map_toArray, List.map_cons, List.map_nil, hs, hx, hr]
    exact hK _ _ (h v' w' h2 h3 h4)
end
end Sq
end Go.Proofs.YthjolojpjajppaaGreat
