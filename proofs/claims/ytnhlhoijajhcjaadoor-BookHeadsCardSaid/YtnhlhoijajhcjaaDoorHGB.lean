/- Parameters that are slices of flat structs, and of bools. -/
/- What the listed package-level variables hold when the call begins, cell by cell. -/
/- The reference's Made. -/
/- The reference's Balance. -/
/- The reference's Statement. -/
/- The reference's Owed. -/
/- The fixed examples. -/
/- What the statements on books share: parameters that are books and slices of five numbers. -/
/- What posts do to statements and to what is owed: mathematics. -/
/- Worlds that differ in some blocks alone; bounds of sums. -/
/- Disputes and posts: mathematics of the laws BookDisputes and BookKeeps; stores into a slice of one's own. -/
/- What BookMatchesReference asks of both, in forms without cases. -/
import Derived.Test.YtnhlhoijajhcjaaDoorSlices
import Derived.Deep.Slices
import Derived.Test.YtnhlhoijajhcjaaDoorBase
import Derived.Lib.LaidTab
import Derived.Test.YtnhlhoijajhcjaaDoorBkRF
import Derived.Test.YtnhlhoijajhcjaaDoorBkRG
import Derived.Test.YtnhlhoijajhcjaaDoorBkRE
import Derived.Deep.DeepCutAuto
set_option linter.unusedVariables false
set_option linter.unusedSimpArgs false
set_option linter.unnecessarySimpa false
namespace Go.Proofs.YtnhlhoijajhcjaaDoor
open Go.RowKit Go.ChangeShapes Go.WideShapes

section
variable {H : Type} {enc : TypeId × Value → H} {P : Program} {W : World} {base b0 : Nat} {spare : Nat → Bool} {held : Bool}
theorem addr_add_add (a : Addr) (i j : Nat) : (a.add i).add j = a.add (i + j) := by
  unfold Addr.add
  by_cases hi : i = 0 <;> by_cases hj : j = 0 <;> simp [hi, hj, Nat.add_assoc]
theorem open_rowsS {r : Reach} {t e : TypeId} {l : List Leaf} {v : Value} {d : DataW H} {ps : List MemPlace} (n : Nat) (ht : P.underlying t = some (.slice e)) (hl : leafsOf P n e = some l) (hc : P.cellsOf e = l.length)
    (hval : Value.okWide P W r b0 t v) (hd : DataW.Trod enc P W base spare held t v d ps) :
    ∃ (o : Option Addr) (len cap : Nat) (C : Nat → List Value), v = .slice o len cap ∧ len ≤ maxLen ∧ (∀ i, i < len → Fits l (C i)) ∧
      ∀ i, i < len → ∃ a, o = some a ∧ ∀ w', Below W.heap.size W w' → ∀ j, j < l.length → w'.cell? (a.add (i * l.length + j)) = (C i)[j]? := by
  obtain ⟨o, len, cap, rfl⟩ := okWide_slice ht hval
  obtain ⟨fuel, hf⟩ := hd
  rcases Go.Deep.open_slice ht hf with ⟨h1, _⟩ | ⟨a, l', c, m, k, D, Pl, h1, _, h2, h3, h4, _, h5⟩
  · simp [Value.cells] at h1
    obtain ⟨rfl, rfl, rfl⟩ := h1
    exact ⟨none, 0, 0, fun _ => [], rfl, Nat.zero_le _, fun i hi => absurd hi (Nat.not_lt_zero _), fun i hi => absurd hi (Nat.not_lt_zero _)⟩
  · simp [Value.cells] at h1
    obtain ⟨rfl, rfl, rfl⟩ := h1
    have hlm : len ≤ m := by rw [h4]; split <;> omega
    have h6 : ∀ i, ∃ cs', i < m → W.cells? base (a.add (i * P.cellsOf e)) (P.cellsOf e) = some cs' ∧ Fits l cs' := fun i => by
      by_cases hi : i < m
      · obtain ⟨cs', x1, x2⟩ := h5 i hi
        exact ⟨cs', fun _ => ⟨x1, fits_of_trod n e l _ _ _ hl x2⟩⟩
      · exact ⟨[], fun h => absurd h hi⟩
    obtain ⟨C, hC⟩ := Classical.skolem.1 h6
    refine ⟨some a, len, cap, C, rfl, by omega, fun i hi => (hC i (by omega)).2, fun i hi => ⟨a, rfl, fun w' hb j hj => ?_⟩⟩
    obtain ⟨x1, x2⟩ := hC i (by omega)
    rw [hc] at x1
    have x3 := (World.cells?_some x1).2.2 j (by omega)
    rw [addr_add_add] at x3
    have x4 := x2.length
    rw [List.getElem?_eq_getElem (by omega)] at x3 ⊢
    exact cell_stays x3 w' hb

/-- A slice of ints, with what its capacity is. -/
theorem open_intJ {r : Reach} {t e : TypeId} {k : IntKind} {v : Value} {d : DataW H} {ps : List MemPlace} (ht : P.underlying t = some (.slice e)) (he : P.underlying e = some (.int k)) (hc : P.cellsOf e = 1)
    (hval : Value.okWide P W r b0 t v) (hd : DataW.Trod enc P W base spare held t v d ps) :
    ∃ (o : Option Addr) (len cap : Nat) (L : Nat → Int), v = .slice o len cap ∧ (len ≤ maxLen ∧ len ≤ cap) ∧ (∀ i, i < len → (Lit.int k (L i)).wf = true) ∧
      ∀ i, i < len → ∃ a, o = some a ∧ ∀ w', Below W.heap.size W w' → w'.cell? (a.add i) = some (.int k (L i)) := by
  have hd' := hd
  obtain ⟨o, len, cap, L, rfl, h1, h2, h3⟩ := open_intS ht he hc hval hd
  refine ⟨o, len, cap, L, rfl, ⟨h1, ?_⟩, h2, h3⟩
  obtain ⟨fuel, hf⟩ := hd'
  rcases open_ints ht he hc hf with ⟨h1, _⟩ | ⟨a, l, c, zs, h1, _, h4, _⟩
  · simp [Value.cells] at h1
    omega
  · simp [Value.cells] at h1
    omega

/-- A slice of bools. -/
theorem open_boolS {r : Reach} {t e : TypeId} {v : Value} {d : DataW H} {ps : List MemPlace} (ht : P.underlying t = some (.slice e)) (he : leafsOf P 5 e = some [none]) (hc : P.cellsOf e = 1)
    (hval : Value.okWide P W r b0 t v) (hd : DataW.Trod enc P W base spare held t v d ps) :
    ∃ (o : Option Addr) (len cap : Nat) (L : Nat → Bool), v = .slice o len cap ∧ len ≤ maxLen ∧
      ∀ i, i < len → ∃ a, o = some a ∧ ∀ w', Below W.heap.size W w' → w'.cell? (a.add i) = some (.bool (L i)) := by
  obtain ⟨o, len, cap, C, rfl, h1, h2, h3⟩ := open_rowsS 5 ht he (by rw [hc]; rfl) hval hd
  have h4 : ∀ i, ∃ b : Bool, i < len → C i = [.bool b] := fun i => by
    by_cases hi : i < len
    · obtain ⟨_, _, h5, ⟨b, rfl⟩, h6⟩ := h2 i hi
      cases h6
      exact ⟨b, fun _ => h5⟩
    · exact ⟨false, fun h => absurd h hi⟩
  obtain ⟨L, hL⟩ := Classical.skolem.1 h4
  refine ⟨o, len, cap, L, rfl, h1, fun i hi => ?_⟩
  obtain ⟨a, rfl, h7⟩ := h3 i hi
  refine ⟨a, rfl, fun w' hb => ?_⟩
  have := h7 w' hb 0 (by simp)
  rw [hL i hi] at this
  simpa using this

/-- A slice of structs of an int, a string and a bool. -/
theorem open_isbS {r : Reach} {t e : TypeId} {v : Value} {d : DataW H} {ps : List MemPlace} (ht : P.underlying t = some (.slice e)) (he : leafsOf P 5 e = some [some (some .i64), some none, none]) (hc : P.cellsOf e = 3)
    (hval : Value.okWide P W r b0 t v) (hd : DataW.Trod enc P W base spare held t v d ps) :
    ∃ (o : Option Addr) (len cap : Nat) (L : Nat → Int × ByteArray × Bool), v = .slice o len cap ∧ len ≤ maxLen ∧
      (∀ i, i < len → -9223372036854775808 ≤ (L i).1 ∧ (L i).1 ≤ 9223372036854775807 ∧ (L i).2.1.size ≤ maxLen) ∧
      ∀ i, i < len → ∃ a, o = some a ∧ ∀ w', Below W.heap.size W w' →
        w'.cell? (a.add (i * 3)) = some (.int .i64 (L i).1) ∧ w'.cell? ⟨(a.add (i * 3)).block, (a.add (i * 3)).off + 1, none⟩ = some (.string (L i).2.1) ∧ w'.cell? ⟨(a.add (i * 3)).block, (a.add (i * 3)).off + 2, none⟩ = some (.bool (L i).2.2) := by
  obtain ⟨o, len, cap, C, rfl, h1, h2, h3⟩ := open_rowsS 5 ht he (by rw [hc]; rfl) hval hd
  have h4 : ∀ i, ∃ x : Int × ByteArray × Bool, i < len → C i = [.int .i64 x.1, .string x.2.1, .bool x.2.2] ∧ (Lit.int .i64 x.1).wf = true ∧ x.2.1.size ≤ maxLen := fun i => by
    by_cases hi : i < len
    · obtain ⟨_, _, h5, ⟨n, rfl, hn⟩, _, _, rfl, ⟨s, rfl, hs⟩, _, _, rfl, ⟨b, rfl⟩, h6⟩ := h2 i hi
      cases h6
      exact ⟨(n, s, b), fun _ => ⟨h5, hn, hs⟩⟩
    · exact ⟨(0, ⟨#[]⟩, false), fun h => absurd h hi⟩
  obtain ⟨L, hL⟩ := Classical.skolem.1 h4
  refine ⟨o, len, cap, L, rfl, h1, fun i hi => ?_, fun i hi => ?_⟩
  · obtain ⟨_, q1, q2⟩ := hL i hi
    have := bd_i64 q1
    exact ⟨this.1, this.2, q2⟩
  · obtain ⟨a, rfl, h7⟩ := h3 i hi
    refine ⟨a, rfl, fun w' hb => ?_⟩
    obtain ⟨q0, _, _⟩ := hL i hi
    have e0 := h7 w' hb 0 (by simp)
    have e1 := h7 w' hb 1 (by simp)
    have e2 := h7 w' hb 2 (by simp)
    rw [q0] at e0 e1 e2
    simp only [List.length_cons, List.length_nil, Nat.zero_add, Nat.reduceAdd, Nat.add_zero, List.getElem?_cons_zero, List.getElem?_cons_succ] at e0 e1 e2
    rw [← addr_add_add] at e1 e2
    exact ⟨e0, e1, e2⟩
end
end Go.Proofs.YtnhlhoijajhcjaaDoor
set_option linter.unusedVariables false
set_option linter.unusedSimpArgs false
set_option linter.unnecessarySimpa false
namespace Go.Proofs.YtnhlhoijajhcjaaDoor
open Go.RowKit Go.ChangeShapes Go.WideShapes Go.ChangeAt

/-- The cells that read as a datum, if it is flat (to a depth). -/
def dataCells {H : Type} : Nat → DataW H → List Value
  | _, .lit (.int k n) => [.int k n]
  | _, .lit (.bool b) => [.bool b]
  | _, .lit (.string s) => [.string ⟨s.toArray⟩]
  | n + 1, .agg parts => (parts.map (dataCells n)).flatten
  | _, _ => []

section
variable {H : Type} {enc : TypeId × Value → H} {P : Program} {w : World} {base : Nat} {spare : Nat → Bool} {held : Bool}

theorem data_fields {n : Nat} {cs : List Value} {m : Nat}
    (ih : ∀ (t : TypeId) (l : List Leaf) (fuel : Nat) (cs : List Value) (x : DataW H × List MemPlace), leafsOf P n t = some l → DataW.trod enc P w base spare held fuel t cs = some x → cs = dataCells n x.1) :
    ∀ (fs : List Field) (xs : List (DataW H × List MemPlace)) (top off : Nat) (l : List Leaf), cs.length = top →
      fs.foldr (fun f acc => match leafsOf P n f.type, acc with
        | some l, some (at_, r) => if f.offset + l.length = at_ ∧ P.cellsOf f.type = l.length then some (f.offset, l ++ r) else none
        | _, _ => none) (some (top, [])) = some (off, l) → xs.length = fs.length →
      (∀ (i : Nat) (f : Field) (x : DataW H × List MemPlace), fs[i]? = some f → xs[i]? = some x → DataW.trod enc P w base spare held m f.type ((cs.drop f.offset).take (P.cellsOf f.type)) = some x) → off ≤ top ∧ cs.drop off = ((xs.map (·.1)).map (dataCells n)).flatten := by
  intro fs
  induction fs with
  | nil =>
    intro xs top off l hc h hx _
    simp only [List.foldr_nil, Option.some.injEq, Prod.mk.injEq] at h
    obtain ⟨rfl, rfl⟩ := h
    obtain rfl : xs = [] := by simpa using hx
    exact ⟨Nat.le_refl _, by simp [hc]⟩
  | cons f fs ihf =>
    intro xs top off l hc h hlen hx
    cases xs with
    | nil => simp at hlen
    | cons x xs =>
    simp only [List.foldr_cons] at h
    split at h
    · rename_i l1 at_ r hl hr
      split at h
      · rename_i hcond
        obtain ⟨h1, h2⟩ := hcond
        simp only [Option.some.injEq, Prod.mk.injEq] at h
        obtain ⟨rfl, rfl⟩ := h
        obtain ⟨hle, hF⟩ := ihf xs top at_ r hc hr (by simpa using hlen) (fun i g y hg hy => hx (i + 1) g y (by simpa using hg) (by simpa using hy))
        have hx1 := hx 0 f x rfl rfl
        have h3 := ih _ _ _ _ _ hl hx1
        rw [h2] at h3
        refine ⟨by omega, ?_⟩
        have e : cs.drop f.offset = (cs.drop f.offset).take l1.length ++ cs.drop at_ := by
          rw [← h1, ← List.drop_drop, List.take_append_drop]
        rw [e, h3, hF]
        rfl
      · cases h
    · cases h

theorem data_reps {k n : Nat} : ∀ (m : Nat) (cs : List Value) (xs : List (DataW H × List MemPlace)), cs.length = m * k → xs.length = m → (∀ (i : Nat) (x : DataW H × List MemPlace), xs[i]? = some x → (cs.drop (i * k)).take k = dataCells n x.1) → cs = ((xs.map (·.1)).map (dataCells n)).flatten := by
  intro m
  induction m with
  | zero =>
    intro cs xs hc hx _
    obtain rfl : xs = [] := by simpa using hx
    obtain rfl : cs = [] := by simpa using hc
    rfl
  | succ m ih =>
    intro cs xs hc hx h
    cases xs with
    | nil => simp at hx
    | cons x xs =>
    have h0 := h 0 x rfl
    simp only [Nat.zero_mul, List.drop_zero] at h0
    have h1 := ih (cs.drop k) xs (by rw [List.length_drop, hc, Nat.succ_mul]; omega) (by simpa using hx) (fun i y hy => by
      have := h (i + 1) y (by simpa using hy)
      rwa [Nat.succ_mul, Nat.add_comm, ← List.drop_drop] at this)
    rw [← List.take_append_drop k cs, h0, h1]
    rfl

theorem cells_of_data : ∀ (n : Nat) (t : TypeId) (l : List Leaf) (fuel : Nat) (cs : List Value) (x : DataW H × List MemPlace), leafsOf P n t = some l → DataW.trod enc P w base spare held fuel t cs = some x → cs = dataCells n x.1 := by
  intro n
  induction n with
  | zero => intro t l fuel cs x h; cases h
  | succ n ih =>
    intro t l fuel cs x h hx
    unfold leafsOf at h
    split at h
    · rename_i k hu
      obtain ⟨m, rfl, rfl, hw⟩ := DataW.trod_int hu hx
      rfl
    · rename_i hu
      obtain ⟨m, rfl, rfl⟩ := DataW.trod_bool hu hx
      rfl
    · rename_i hu
      obtain ⟨m, rfl, rfl, hw⟩ := DataW.trod_string hu hx
      rfl
    · rename_i fs hu
      obtain ⟨xs, m, _, rfl, hlen, hxl, hg⟩ := DataW.trod_struct hu hx
      obtain ⟨⟨off, l'⟩, h1, h2⟩ := Option.bind_eq_some_iff.1 h
      dsimp only at h2
      split at h2
      · rename_i h0
        obtain rfl := Option.some.inj h2
        subst h0
        have := (data_fields (m := m) ih fs.toList xs (P.cellsOf t) 0 l' hlen h1 (by simpa using hxl) (fun i f y hf hy => by
          rw [hg i f (by rw [← Array.getElem?_toList]; exact hf)]
          exact hy)).2
        simpa [dataCells] using this
      · cases h2
    · rename_i m e hu
      split at h
      · rename_i l' hl'
        split at h
        · rename_i hc
          obtain rfl := Option.some.inj h
          obtain ⟨xs, fu, _, rfl, hlen, hxl, hg⟩ := DataW.trod_array hu hx
          have := data_reps m cs xs (by rw [hlen, hc.2]) hxl (fun i y hy => by
            have hi : i < m := by rw [← hxl]; exact (List.getElem?_eq_some_iff.1 hy).1
            have h3 := hg i hi
            rw [hc.1] at h3
            exact ih _ _ _ _ _ hl' (h3.trans hy))
          simpa [dataCells] using this
        · cases h
      · cases h
    · cases h
end

/-- A listed variable, found on the list. -/
theorem laid_found {P : Program} {W : World} {name : String} {d : DataW Unit} : ∀ {laid : List (String × DataW Unit)} {ps : List MemPlace}, DataW.LaidVars P W laid ps → (name, d) ∈ laid →
    ∃ g t cs fuel p, P.globalNamed name = some g ∧ (P.globals[g]?).map (·.type) = some t ∧ W.var? P name = some cs ∧ DataW.trod (fun _ => ()) P W 0 (fun _ => true) false fuel t cs.toList = some (d, p) := by
  intro laid
  induction laid with
  | nil => intro ps _ hm; cases hm
  | cons y laid ih =>
    intro ps h hm
    obtain ⟨n, e⟩ := y
    obtain ⟨g, t, cs, fuel, p, q, hg, ht, hv, hd, hr, _⟩ := h
    rcases List.mem_cons.1 hm with hh | hh
    · cases hh
      exact ⟨g, t, cs, fuel, p, hg, ht, hv, hd⟩
    · exact ih hr hh

theorem laid_cells {P : Program} {W : World} {laid : List (String × DataW Unit)} {name : String} {d : DataW Unit} {g : Nat} {t : TypeId} (n : Nat) {l : List Leaf} (h : laidMet P laid W) (hm : (name, d) ∈ laid)
    (hg : P.globalNamed name = some g) (ht : (P.globals[g]?).map (·.type) = some t) (hl : leafsOf P n t = some l) : ∀ i, W.cell? ⟨g, i, none⟩ = (dataCells n d)[i]? := by
  obtain ⟨ps, hv, _⟩ := h
  obtain ⟨g', t', cs, fuel, p, hg', ht', hvar, hd⟩ := laid_found hv hm
  obtain rfl := Option.some.inj (hg.symm.trans hg')
  obtain rfl := Option.some.inj (ht.symm.trans ht')
  have hc := cells_of_data n t l fuel cs.toList _ hl hd
  intro i
  rw [World.var?_cell hg hvar i, ← Array.getElem?_toList, hc]
end Go.Proofs.YtnhlhoijajhcjaaDoor
set_option linter.unusedVariables false
set_option linter.unusedSimpArgs false
set_option linter.unnecessarySimpa false
namespace Go.Proofs.YtnhlhoijajhcjaaDoor
open Go.RowKit
namespace Bk
open Sq
/-- five numbers -/
structure F5 where
  x0 : Int
  x1 : Int
  x2 : Int
  x3 : Int
  x4 : Int
def F5.fit (p : F5) : Prop := inI p.x0 ∧ inI p.x1 ∧ inI p.x2 ∧ inI p.x3 ∧ inI p.x4
def f5E : El F5 := ⟨5, fun p => [.int .i64 p.x0, .int .i64 p.x1, .int .i64 p.x2, .int .i64 p.x3, .int .i64 p.x4], by decide, fun _ => rfl, fun x u hu => by simp at hu; rcases hu with rfl | rfl | rfl | rfl | rfl <;> rfl⟩
theorem sl_at5 {w : World} {o : Option Addr} {l : List F5} (h : Sl f5E w o l) {k : Nat} {p : F5} (hk : l[k]? = some p) : ∃ b off, o = some ⟨b, off, none⟩ ∧ b < w.heap.size ∧ w.cell? ⟨b, off + k * 5, none⟩ = some (.int .i64 p.x0) ∧ w.cell? ⟨b, off + k * 5 + 1, none⟩ = some (.int .i64 p.x1) ∧ w.cell? ⟨b, off + k * 5 + 2, none⟩ = some (.int .i64 p.x2) ∧ w.cell? ⟨b, off + k * 5 + 3, none⟩ = some (.int .i64 p.x3) ∧ w.cell? ⟨b, off + k * 5 + 4, none⟩ = some (.int .i64 p.x4) := by
  rcases h with rfl | ⟨b, off, e, hb, hc⟩
  · simp at hk
  · exact ⟨b, off, e, hb, hc k p hk 0 _ rfl, hc k p hk 1 _ rfl, hc k p hk 2 _ rfl, hc k p hk 3 _ rfl, hc k p hk 4 _ rfl⟩
/-- a book that deeds have led to -/
def Good (acc : Int) (n : Nat) (B : Bo) : Prop := B.acc = acc ∧ Vd B.acc B.l B.cl ∧ B.l.length ≤ n ∧ ∀ p ∈ B.l, 0 ≤ p.sub ∧ p.sub < 6
theorem Good.more {acc : Int} {n m : Nat} {B : Bo} (h : Good acc n B) (hm : n ≤ m) : Good acc m B := ⟨h.1, h.2.1, Nat.le_trans h.2.2.1 hm, h.2.2.2⟩
theorem good_post {acc cl : Int} {n : Nat} {l : List Po} {p : Po} (h : Good acc n ⟨acc, l, cl⟩) (hs : 0 ≤ p.sub ∧ p.sub < 6) {B : Bo} (e : postB acc l cl p = some B) : Good acc (n + 1) B := by
  unfold postB post at e
  split at e
  · rename_i hp
    cases e
    refine ⟨rfl, hp.2.1, ?_, ?_⟩
    · show (l ++ [p]).length ≤ n + 1
      rw [List.length_append]
      have h1 : l.length ≤ n := h.2.2.1
      show l.length + 1 ≤ n + 1
      omega
    · intro q hq
      rcases List.mem_append.1 hq with h1 | h1
      · exact h.2.2.2 q h1
      · rw [List.mem_singleton.1 h1]
        exact hs
  · cases e
theorem good_disp {acc cl i day amt : Int} {n : Nat} {l : List Po} (h : Good acc n ⟨acc, l, cl⟩) {B : Bo} (e : dispB acc l cl i day amt = some B) : Good acc (n + 2) B := by
  by_cases hc : 0 ≤ i ∧ i < l.length ∧ 0 ≤ amt ∧ amt ≤ 1000000000
  · rw [dispB_ok hc] at e
    have hm := h.2.2.2 _ (at_mem (l := l) (i := i.toNat) (by omega))
    cases hp : postB acc l cl (back (at' l i.toNat) i day) with
    | none => rw [hp] at e; cases e
    | some C =>
      rw [hp] at e
      dsimp only at e
      have g := good_post h (p := back (at' l i.toNat) i day) hm hp
      by_cases h0 : amt = 0
      · rw [show (if amt = 0 then some C else postB C.acc C.l C.cl (again (at' l i.toNat) day amt)) = some C from if_pos h0] at e
        cases e
        exact g.more (by omega)
      · rw [show (if amt = 0 then some C else postB C.acc C.l C.cl (again (at' l i.toNat) day amt)) = postB C.acc C.l C.cl (again (at' l i.toNat) day amt) from if_neg h0] at e
        obtain ⟨a, m, c⟩ := C
        obtain rfl : a = acc := g.1
        exact good_post g (p := again (at' l i.toNat) day amt) hm e
  · rw [dispB_bad hc] at e
    cases e
theorem good_close {acc cl m : Int} {n : Nat} {l : List Po} (h : Good acc n ⟨acc, l, cl⟩) {B : Bo} (e : closeB acc l cl m = some B) : Good acc n B := by
  unfold closeB at e
  split at e
  · rename_i hp
    cases e
    obtain ⟨h1, rfl, h3, h4⟩ := hp
    obtain ⟨⟨q1, q2, q3, q4, q5⟩, q6⟩ := h1
    exact ⟨rfl, ⟨⟨q1, q2, by show 0 ≤ m + 1; omega, by show m + 1 ≤ 12; omega, q5⟩, q6⟩, h.2.2.1, h.2.2.2⟩
  · cases e
theorem Good.cl {acc : Int} {n : Nat} {B : Bo} (h : Good acc n B) : 0 ≤ B.cl ∧ B.cl ≤ 12 := ⟨h.2.1.1.2.2.1, h.2.1.1.2.2.2.1⟩
theorem Good.acc {acc : Int} {n : Nat} {B : Bo} (h : Good acc n B) : 2 ≤ acc ∧ acc ≤ 12 := by rw [← h.1]; exact ⟨h.2.1.1.1, h.2.1.1.2.1⟩
theorem good_new {acc : Int} (h1 : 2 ≤ acc) (h2 : acc ≤ 12) : Good acc 0 ⟨acc, [], 0⟩ := ⟨rfl, ⟨⟨h1, h2, Int.le_refl _, show (0 : Int) ≤ 12 by decide, Nat.zero_le _⟩, fun i hi => absurd hi (Nat.not_lt_zero _)⟩, Nat.le_refl _, fun p hp => by cases hp⟩
theorem BkW.apart {w w0 : World} {o : Option Addr} {N c b i : Nat} {l : List Po} (h : BkW w o N c l) (h0 : BkW w0 o N c l) (hb : w0.heap.size ≤ b) (v : Value) : BkW (w.setCell ⟨b, i, none⟩ v) o N c l :=
  ⟨h.1, h.2.1, h.2.2.1, h.2.2.2.1, sl_set h.2.2.2.2 h0.2.2.2.2 hb v⟩
/-- the last word of a round: a book, or the old one -/
def pickB (x : Option Bo) (B : Bo) : Bo := match x with | none => B | some C => C
theorem far3 {w : World} {b b' j : Nat} {x0 x1 x2 : Value} {v : Option Value} (h : b' ≠ b) (hc : w.cell? ⟨b, j, none⟩ = v) : (((w.setCell ⟨b', 0, none⟩ x0).setCell ⟨b', 1, none⟩ x1).setCell ⟨b', 2, none⟩ x2).cell? ⟨b, j, none⟩ = v :=
  (World.cell?_setCell_far _ _ _ _ (show b' ≠ b from h)).trans ((World.cell?_setCell_far _ _ _ _ (show b' ≠ b from h)).trans ((World.cell?_setCell_far _ _ _ _ (show b' ≠ b from h)).trans hc))
/-- at least so many blocks -/
def Up (n : Nat) (w : World) : Prop := n ≤ w.heap.size
theorem Up.next {n : Nat} {w w' : World} (h : Up n w) (hb : Below w.heap.size w w') : Up n w' := Nat.le_trans h hb.size
theorem min_bd {d v : Int} (h : 0 ≤ d) (hv : 0 ≤ v) : 0 ≤ min 359 (d + v) ∧ min 359 (d + v) ≤ 359 := by omega
set_option maxRecDepth 100000 in
set_option maxHeartbeats 16000000 in
theorem rMade_any (na : Int) (ol : Option Addr) (n cap : Nat) (L : List F5) (w : World) (hna : inI na) (hL : L.length = n) (hn : n ≤ 9223372036854775807) (hF : ∀ x ∈ L, x.fit) (hS : Sl f5E w ol L) :
    Calls Tryd.prog 8 #[.int .i64 na, .slice ol n cap] w fun e w' => ∃ B o N c, e = .returned (bookV B.acc o N c B.cl) ∧ BkW w' o N c B.l ∧ Good (2 + pickZ na 11) 48 B ∧ Below w.heap.size w w' := by
  have SL := Lib.hid hS
  have HL := Lib.hid hL
  have HFT := Lib.hid hF
  have PA := Lib.hid (fun W => rpick_any na 11 W hna (by decide) (by decide))
  have hv := pick_in na (n := 11) (by decide)
  obtain ⟨acc, hacc⟩ : ∃ a, 2 + pickZ na 11 = a := ⟨_, rfl⟩
  have a1 : 2 ≤ acc := by omega
  have a2 : acc ≤ 12 := by omega
  have HAC := Lib.hid hacc
  rw [hacc]
  generalize pickZ na 11 = v at *
  clear hS hL hF hna
  go_enter Tryd.func8, Tryd.ntmps8
  go_upto_region 2 with (go_at_call 28; with_reducible refine Calls.mono (PA.out _) ?_; rintro e w' ⟨rfl, rfl⟩)
  try rw [hacc]
  refine wp_named fun w1 hq => ?_
  obtain ⟨br, er⟩ : ∃ b, b = w.heap.size := ⟨_, rfl⟩
  obtain ⟨bb, eb⟩ : ∃ b, b = w.heap.size + 1 := ⟨_, rfl⟩
  obtain ⟨r0, r1, hB, hs⟩ := rows2 w 24 24 [.int .i64 0, .slice none 0 0, .int .i64 0] [.int .i64 acc, .slice none 0 0, .int .i64 0] w1 hq
  have HS := Lib.hid (show w.heap.size ≤ br ∧ br < bb ∧ bb < w1.heap.size by omega)
  rw [← er] at r0 ⊢
  rw [← eb] at r1
  rw [show br + 1 = bb by omega]
  have RR := Lib.hid r0
  have RB := Lib.hid r1
  have BB := Lib.hid hB
  have hbb : w.heap.size ≤ bb := by have := HS.out; omega
  have hbr : w.heap.size ≤ br := by have := HS.out; omega
  have nRB : br ≠ bb := by have := HS.out; omega
  clear hq er eb hB hs r0 r1 hacc hv PA HAC
  go_wp2_with fail
  go_loopw [6, 7] (fun dv jv wr => ∃ (k : Nat) (d : Int) (B : Bo) (o : Option Addr) (N c : Nat), dv = .int .i64 d ∧ jv = .int .i64 k ∧ k ≤ 24 ∧ 0 ≤ d ∧ d ≤ 359 ∧ Row wr br 24 [.int .i64 0, .slice none 0 0, .int .i64 0] ∧ Row wr bb 24 [.int .i64 B.acc, .slice o N c, .int .i64 B.cl] ∧ BkW wr o N c B.l ∧ Good acc (2 * k) B ∧ Below w.heap.size w wr ∧ Fr w1.heap.size o ∧ w1.heap.size ≤ wr.heap.size) (fun _ jv _ => 24 - (intOf jv).toNat)
  case atStart => exact ⟨0, 0, ⟨acc, [], 0⟩, none, 0, 0, rfl, rfl, by decide, by decide, by decide, RR.out, RB.out, bkw_zero _, good_new a1 a2, BB.out, (fun a e => by cases e), Nat.le_refl _⟩
  case round =>
    obtain ⟨k, d, ⟨acc', l0, c0⟩, o, N, c, rfl, rfl, hk, hd0, hd1, hRR, hRB, hBW, hG, hB, hFr, hSz⟩ := hrel
    obtain rfl : acc = acc' := hG.1.symm
    rename World => wr
    dsimp only at hRB hBW
    replace RR := Lib.hid hRR
    replace RB := Lib.hid hRB
    replace BB := Lib.hid hB
    have BW := Lib.hid hBW
    have HG := Lib.hid hG
    have HC := Lib.hid hG.cl
    have HN := Lib.hid (show N ≤ 48 from by have := hG.2.2.1; have e := hBW.1; dsimp only at this; omega)
    have SLr := Lib.hid (SL.out.next hB)
    have HSr := Lib.hid (show bb < wr.heap.size from hRB.lt)
    have HFr := Lib.hid hFr
    have HSz := Lib.hid (show Up w1.heap.size wr from hSz)
    have HS1 := Lib.hid (show bb < w1.heap.size ∧ br < w1.heap.size from by have := HS.out; omega)
    clear hFr hSz hRR hRB hB hBW hG
    by_cases hc : (k : Int) < n ∧ (k : Int) < 24
    · obtain ⟨h1, h2⟩ := hc
      obtain ⟨p, hp⟩ : ∃ p, L[k]? = some p := ⟨_, List.getElem?_eq_getElem (by rw [HL.out]; omega)⟩
      have hfit := HFT.out p (List.mem_of_getElem? hp)
      obtain ⟨f0, f1, f2, f3, f4⟩ := hfit
      have HP := Lib.hid hp
      have hN := HN.out
      have CK := Lib.hid (fun W (h : Sl f5E W ol L) => sl_at5 h HP.out)
      obtain ⟨x0, x1, x2, x3, x4⟩ := p
      dsimp only at f0 f1 f2 f3 f4 CK
      have P0 := Lib.hid (fun W => rpick_any x0 6 W f0 (by decide) (by decide))
      have P1 := Lib.hid (fun W => rpick_any x1 20 W f1 (by decide) (by decide))
      have P2 := Lib.hid (fun W => rpick_any x2 acc W f2 (by omega) (by omega))
      have P3 := Lib.hid (fun W => rpick_any x3 (acc - 1) W f3 (by omega) (by omega))
      have P4 := Lib.hid (fun W => rpick_any x4 1000 W f4 (by decide) (by decide))
      have P5 := Lib.hid (fun W => rpick_any x4 6 W f4 (by decide) (by decide))
      have P6 := Lib.hid (fun W => rpick_any x3 (N + 1) W f3 (by omega) (by omega))
      have q1 := pick_in x1 (n := 20) (by decide)
      have q2 := pick_in x2 (n := acc) (by omega)
      have q3 := pick_in x3 (n := acc - 1) (by omega)
      have q4 := pick_in x4 (n := 1000) (by decide)
      have q5 := pick_in x4 (n := 6) (by decide)
      have q6 := pick_in x3 (n := (N : Int) + 1) (by omega)
      generalize pickZ x0 6 = v0 at *
      generalize pickZ x1 20 = v1 at *
      generalize pickZ x2 acc = v2 at *
      generalize pickZ x3 (acc - 1) = v3 at *
      generalize pickZ x4 1000 = v4 at *
      generalize pickZ x4 6 = v5 at *
      generalize pickZ x3 (N + 1) = v6 at *
      clear f0 f1 f2 f3 f4 hp
      obtain ⟨bl, off, rfl, lbl, y0, y1, y2, y3, y4⟩ := CK.out _ SLr.out
      have i0 : (0 : Int) ≤ k := by omega
      go_upto_region 7 with (go_at_call 28; with_reducible refine Calls.mono (P1.out _) ?_; rintro e w' ⟨rfl, rfl⟩)
      have hd2 := min_bd hd0 q1.1
      generalize min 359 (d + v1) = d' at *
      clear P1 q1
      have t0 := RB.out.cell 0
      have t1 := RB.out.cell 1
      have t2 := RB.out.cell 2
      have lt := RB.out.lt
      simp only [List.getElem?_cons_zero, List.getElem?_cons_succ] at t0 t1 t2
      refine wp_region_kin (by kernel_rfl) (by kernel_rfl) wr.heap.size 0 (by simp) (fun hk => ?_)
      repeat (go_big_quiet_step ((go_at_call 28; with_reducible exact Calls.kin_same (P2.out _))))
      refine wpQuiet_nil ?_
      clear hk
      intro w2 hb
      replace RR := Lib.hid (RR.out.next hb)
      replace RB := Lib.hid (RB.out.next hb)
      replace BW := Lib.hid (BW.out.next hb)
      replace SLr := Lib.hid (SLr.out.next hb)
      replace HSz := Lib.hid (HSz.out.next hb)
      replace BB := Lib.hid (Below.andThen BB.out hb)
      clear hb
      clear P2 lbl y0 y1 y2 y3 y4
      clear t0 t1 t2 lt
      have t0 := RB.out.cell 0
      have t1 := RB.out.cell 1
      have t2 := RB.out.cell 2
      have lt := RB.out.lt
      simp only [List.getElem?_cons_zero, List.getElem?_cons_succ] at t0 t1 t2
      obtain ⟨bl', off', e, lbl, y0, y1, y2, y3, y4⟩ := CK.out _ SLr.out
      cases e
      go_upto_region 8 with (fail)
      refine wp_region_float 31 32 _ (.cells #[.int .i64 0, .int .i64 0, .int .i64 0, .int .i64 0, .int .i64 0, .int .i64 0, .int .i64 0] 27) (by kernel_rfl) (by kernel_rfl) rfl rfl (fun ρ w1 => by go_simp) w2.heap.size 0 (by simp) (fun WW hk hWW => ?_)
      simp only [List.take_succ_cons, List.take_zero, List.drop_succ_cons, List.drop_zero, List.cons_append, List.nil_append]
      repeat (go_big_quiet_step ((go_at_call 28; first | with_reducible exact Calls.kin_same (P3.out _) | with_reducible exact Calls.kin_same (P4.out _) | with_reducible exact Calls.kin_same (P5.out _))))
      refine wpQuiet_nil ?_
      clear hk hWW
      intro w3 bP hfb hfl hfo
      have HFB := Lib.hid hfb
      have HFL := Lib.hid hfl
      have HFO := Lib.hid (show Row w3 bP 27 [.int .i64 0, .int .i64 0, .int .i64 0, .int .i64 0, .int .i64 0, .int .i64 0, .int .i64 0] from hfo)
      obtain ⟨oc, of'⟩ := block_cells hfo
      have os := HFO.out.lt
      clear hfb hfl hfo P3 P5 y0 y1 y2 y3 y4 lbl
      clear t0 t1 t2 lt
      simp only [Act.put, List.setIfInBounds_toArray, List.set_cons_zero, List.set_cons_succ]
      go_upto_region 9 with (fail)
      refine wp_named fun w4 hq => ?_
      clear oc of' os
      obtain ⟨X, RP⟩ : ∃ X, Row w4 bP 27 [.int .i64 1, .int .i64 d', .int .i64 v2, .int .i64 X, .int .i64 (1 + v4), .int .i64 v5, .int .i64 (-1)] := ⟨_, by rw [hq]; exact ((((((HFO.out.set 0 _).set 1 _).set 2 _).set 3 _).set 4 _).set 5 _).set 6 _⟩
      have hB : Below w2.heap.size w2 w4 := by
        rw [hq]
        exact ((((((HFB.out.setCell (p := ⟨bP, 0, none⟩) HFL.out _).setCell (p := ⟨bP, 1, none⟩) HFL.out _).setCell (p := ⟨bP, 2, none⟩) HFL.out _).setCell (p := ⟨bP, 3, none⟩) HFL.out _).setCell (p := ⟨bP, 4, none⟩) HFL.out _).setCell (p := ⟨bP, 5, none⟩) HFL.out _).setCell (p := ⟨bP, 6, none⟩) HFL.out _
      replace RP := Lib.hid RP
      replace RR := Lib.hid (RR.out.next hB)
      replace RB := Lib.hid (RB.out.next hB)
      replace BW := Lib.hid (BW.out.next hB)
      replace SLr := Lib.hid (SLr.out.next hB)
      replace HSz := Lib.hid (HSz.out.next hB)
      replace BB := Lib.hid (Below.andThen BB.out hB)
      clear hq hB HFB HFL HFO
      obtain ⟨x, hx⟩ : ∃ x, postB acc l0 c0 ⟨1, d', v2, X, 1 + v4, v5, -1⟩ = x := ⟨_, rfl⟩
      have CP := Lib.hid (fun W (h : BkW W o N c l0) => (show Calls Tryd.prog 29 #[bookV acc o N c c0, .agg #[.int .i64 1, .int .i64 d', .int .i64 v2, .int .i64 X, .int .i64 (1 + v4), .int .i64 v5, .int .i64 (-1)]] W fun e w' => BoNEr W.heap.size x N e w' ∧ Below W.heap.size W w' from by
        rw [← hx]
        exact rPost_u acc c0 o N c l0 ⟨1, d', v2, X, 1 + v4, v5, -1⟩ W (by omega) (show inI d' from ⟨by omega, by omega⟩) h))
      have HX := Lib.hid hx
      clear hx
      have t0 := RB.out.cell 0
      have t1 := RB.out.cell 1
      have t2 := RB.out.cell 2
      have lt := RB.out.lt
      simp only [List.getElem?_cons_zero, List.getElem?_cons_succ] at t0 t1 t2
      have p0 := RP.out.cell 0
      have p1 := RP.out.cell 1
      have p2 := RP.out.cell 2
      have p3 := RP.out.cell 3
      have p4 := RP.out.cell 4
      have p5 := RP.out.cell 5
      have p6 := RP.out.cell 6
      have lp := RP.out.lt
      simp only [List.getElem?_cons_zero, List.getElem?_cons_succ] at p0 p1 p2 p3 p4 p5 p6
      go_wp2_with fail
      with_reducible refine Calls.mono (CP.out _ BW.out) ?_
      rintro e w5 ⟨⟨o5, N5, c5, rfl, hw, hf⟩, hb⟩
      have BW5 := Lib.hid hw
      have HF5 := Lib.hid hf
      have HS45 := Lib.hid (show bb < w4.heap.size ∧ w1.heap.size ≤ w4.heap.size ∧ w4.heap.size ≤ w5.heap.size from ⟨lt, HSz.out, hb.size⟩)
      replace RR := Lib.hid (RR.out.next hb)
      replace RB := Lib.hid (RB.out.next hb)
      replace BW := Lib.hid (BW.out.next hb)
      replace SLr := Lib.hid (SLr.out.next hb)
      replace HSz := Lib.hid (HSz.out.next hb)
      replace BB := Lib.hid (Below.andThen BB.out hb)
      clear hb hw hf CP
      clear t0 t1 t2 lt
      clear p0 p1 p2 p3 p4 p5 p6 lp
      clear RP
      go_upto_region 10 with (fail)
      refine wp_named fun w6 hq => ?_
      obtain ⟨bX, eX⟩ : ∃ b, b = w5.heap.size := ⟨_, rfl⟩
      have RX := Lib.hid (show Row w6 bX 24 [.int .i64 (boV x).acc, .slice o5 N5 c5, .int .i64 (boV x).cl] from by rw [hq, eX]; exact Row.new w5 _ _)
      have hB : Below w5.heap.size w5 w6 := by rw [hq]; (repeat' first | exact Below.refl _ _ | assumption | (refine below_drewN ?_ _) | (refine Below.drew ?_) | (refine Below.alloc ?_ ?_ _) | (refine Below.setCell ?_ ?_ _) | (simp; done) | (simp; omega) | omega)
      have BWo := Lib.hid BW.out
      have HX5 := Lib.hid (show w5.heap.size ≤ bX by omega)
      have HX6 := Lib.hid (show bb < bX ∧ br < bX by rw [eX]; have := HS45.out; have := HS.out; omega)
      replace RR := Lib.hid (RR.out.next hB)
      replace RB := Lib.hid (RB.out.next hB)
      replace BW := Lib.hid (BW.out.next hB)
      replace BW5 := Lib.hid (BW5.out.next hB)
      replace SLr := Lib.hid (SLr.out.next hB)
      replace HSz := Lib.hid (HSz.out.next hB)
      replace BB := Lib.hid (Below.andThen BB.out hB)
      rw [← eX]
      clear hq hB eX
      have nBX : bb ≠ bX := by have := HX6.out; omega
      have nRX : br ≠ bX := by have := HX6.out; omega
      have hbX : w.heap.size ≤ bX := by have := HX6.out; omega
      obtain ⟨bl', off', e, lbl, y0, y1, y2, y3, y4⟩ := CK.out _ SLr.out
      cases e
      by_cases e4 : v0 = 4
      · subst e4
        go_upto_region 12 with (go_at_call 28; with_reducible refine Calls.mono (P0.out _) ?_; rintro e w' ⟨rfl, rfl⟩)
        clear BW5 HF5
        obtain ⟨y, hy⟩ : ∃ y, dispB acc l0 c0 v6 d' v4 = y := ⟨_, rfl⟩
        have CD := Lib.hid (fun W (h : BkW W o N c l0) => rDispute_u acc c0 v6 d' v4 o N c l0 W (by omega) (show inI d' from ⟨by omega, by omega⟩) h)
        rw [hy] at CD
        have HY := Lib.hid hy
        clear hy
        have t0 := RB.out.cell 0
        have t1 := RB.out.cell 1
        have t2 := RB.out.cell 2
        have lt := RB.out.lt
        simp only [List.getElem?_cons_zero, List.getElem?_cons_succ] at t0 t1 t2
        clear y0 y1 y2
        have z6 : (0 : Int) ≤ v6 := q6.1
        have hw1 : IntKind.i64.wrap ((N : Int) + 1) = N + 1 := by simp [IntKind.wrap, IntKind.bits, IntKind.signed]; omega
        have nXB : bX ≠ bb := Ne.symm nBX
        have nXL : bX ≠ bl := by
          obtain ⟨_, _, e, h, _⟩ := sl_at5 SL.out HP.out
          cases e
          omega
        (go_region_held3 (fun w' => w'.cell? ⟨bb, 0, none⟩ = some (.int .i64 acc) ∧ w'.cell? ⟨bb, 1, none⟩ = some (.slice o N c) ∧ w'.cell? ⟨bb, 2, none⟩ = some (.int .i64 c0) ∧ w'.cell? ⟨bl, off + k * 5 + 3, none⟩ = some (.int .i64 x3) ∧ w'.cell? ⟨bl, off + k * 5 + 4, none⟩ = some (.int .i64 x4)) (first | exact ⟨by assumption, by assumption, by assumption, by assumption, by assumption⟩ | exact ⟨far3 nXB (by assumption), far3 nXB (by assumption), far3 nXB (by assumption), far3 nXL (by assumption), far3 nXL (by assumption)⟩ | go_keep) (first
            | (go_at_call 28; first | (with_reducible refine Calls.mono (P6.out _) ?_; rintro e w' ⟨rfl, rfl⟩) | (with_reducible refine Calls.mono (P4.out _) ?_; rintro e w' ⟨rfl, rfl⟩))
            | (go_at_call 30; refine Calls.mono (CD.out _ (BW.out.next (by repeat (first | exact Below.refl _ _ | refine Below.drew ?_)))) ?_; rintro e w8 ⟨⟨o8, N8, c8, rfl, hw, hf⟩, hb⟩; have HB8 := Lib.hid (show Below w6.heap.size w6 w8 from Below.andThen (by repeat (first | exact Below.refl _ _ | refine Below.drew ?_)) hb); have BW8 := Lib.hid hw; have HF8 := Lib.hid (show Fr w6.heap.size o8 from hf); clear hb hw hf; have t0' := (RB.out.next HB8.out).cell 0; have t1' := (RB.out.next HB8.out).cell 1; have t2' := (RB.out.next HB8.out).cell 2; have s0 := (RX.out.next HB8.out).cell 0; have s1 := (RX.out.next HB8.out).cell 1; have s2 := (RX.out.next HB8.out).cell 2; simp only [List.getElem?_cons_zero, List.getElem?_cons_succ] at t0' t1' t2' s0 s1 s2; have ls := (RX.out.next HB8.out).lt; have fs0 := (RX.out.next HB8.out).frozen 0; have fs1 := (RX.out.next HB8.out).frozen 1; have fs2 := (RX.out.next HB8.out).frozen 2; obtain ⟨bz, oz, ez, lz, z0, z1, z2, z3, z4⟩ := CK.out _ (SLr.out.next HB8.out); cases ez; clear z0 z1 z2)))
        have HX7 := Lib.hid (show bX < w6.heap.size from RX.out.lt)
        have HS7 := Lib.hid (show bb < w6.heap.size ∧ w1.heap.size ≤ w6.heap.size from ⟨RB.out.lt, HSz.out⟩)
        go_upto_region 16 with (fail)
        clear t0' t1' t2' s0 s1 s2 ls fs0 fs1 fs2 z3 z4 lz y3 y4 lbl
        clear t0 t1 t2 lt
        replace RR := Lib.hid (RR.out.next HB8.out)
        replace RB := Lib.hid (RB.out.next HB8.out)
        replace RX := Lib.hid (RX.out.next HB8.out)
        replace BW := Lib.hid (BW.out.next HB8.out)
        replace HSz := Lib.hid (HSz.out.next HB8.out)
        replace BB := Lib.hid (Below.andThen BB.out HB8.out)
        refine wp_named fun w9 hq => ?_
        replace RR := Lib.hid (show Row w9 br _ _ from by rw [hq]; exact ((RR.out.other nRX 0 _).other nRX 1 _).other nRX 2 _)
        replace RB := Lib.hid (show Row w9 bb _ _ from by rw [hq]; exact ((RB.out.other nBX 0 _).other nBX 1 _).other nBX 2 _)
        replace BW := Lib.hid (show BkW w9 o N c l0 from by rw [hq]; exact ((BW.out.apart BWo.out HX5.out _).apart BWo.out HX5.out _).apart BWo.out HX5.out _)
        replace BW8 := Lib.hid (show BkW w9 o8 N8 c8 _ from by rw [hq]; exact ((BW8.out.set (b := bX) (i := 0) HF8.out HX7.out _).set (b := bX) (i := 1) HF8.out HX7.out _).set (b := bX) (i := 2) HF8.out HX7.out _)
        replace BB := Lib.hid (show Below w.heap.size w w9 from by rw [hq]; exact ((BB.out.setCell (p := ⟨bX, 0, none⟩) hbX _).setCell (p := ⟨bX, 1, none⟩) hbX _).setCell (p := ⟨bX, 2, none⟩) hbX _)
        replace HSz := Lib.hid (show Up w1.heap.size w9 from by rw [hq]; simpa [Up] using HSz.out)
        replace RX := Lib.hid (show Row w9 bX 24 [.int .i64 (boV y).acc, .slice o8 N8 c8, .int .i64 (boV y).cl] from by rw [hq]; exact ((RX.out.set 0 _).set 1 _).set 2 _)
        clear hq
        cases y with
        | none =>
          rw [show erI none = 310 from rfl]
          go_wp2_with fail
          go_roundw
          case rel => exact ⟨k + 1, _, ⟨acc, l0, c0⟩, o, N, c, rfl, by go_num, by omega, by omega, by omega, RR.out, RB.out, BW.out, HG.out.more (by omega), BB.out, HFr.out, HSz.out⟩
          case measure => first | (simp [intOf]; done) | (simp [intOf]; omega)
        | some B =>
          have HG2 := Lib.hid (good_disp HG.out HY.out)
          rw [show erI (some B) = 0 from rfl]
          have s0 := RX.out.cell 0
          have s1 := RX.out.cell 1
          have s2 := RX.out.cell 2
          have ls := RX.out.lt
          simp only [List.getElem?_cons_zero, List.getElem?_cons_succ] at s0 s1 s2
          have t0 := RB.out.cell 0
          have t1 := RB.out.cell 1
          have t2 := RB.out.cell 2
          have lt := RB.out.lt
          simp only [List.getElem?_cons_zero, List.getElem?_cons_succ] at t0 t1 t2
          have ft0 := RB.out.frozen 0
          have ft1 := RB.out.frozen 1
          have ft2 := RB.out.frozen 2
          go_wp2_with fail
          go_roundw
          case rel => exact ⟨k + 1, _, B, o8, N8, c8, rfl, by go_num, by omega, by omega, by omega, ((RR.out.other nRB 0 _).other nRB 1 _).other nRB 2 _, ((RB.out.set 0 _).set 1 _).set 2 _, ((BW8.out.set (b := bb) (i := 0) HF8.out HS7.out.1 _).set (b := bb) (i := 1) HF8.out HS7.out.1 _).set (b := bb) (i := 2) HF8.out HS7.out.1 _, HG2.out.more (by omega), ((BB.out.setCell (p := ⟨bb, 0, none⟩) hbb _).setCell (p := ⟨bb, 1, none⟩) hbb _).setCell (p := ⟨bb, 2, none⟩) hbb _, HF8.out.lower HS7.out.2, by simpa [Up] using HSz.out⟩
          case measure => first | (simp [intOf]; done) | (simp [intOf]; omega)
      · by_cases e5 : v0 = 5
        · subst e5
          obtain ⟨y, hy⟩ : ∃ y, closeB acc l0 c0 c0 = y := ⟨_, rfl⟩
          have CC := Lib.hid (fun W (h : BkW W o N c l0) => rClose_u acc c0 c0 o N c l0 W (by omega) h)
          rw [hy] at CC
          have HY := Lib.hid hy
          clear hy
          have t0 := RB.out.cell 0
          have t1 := RB.out.cell 1
          have t2 := RB.out.cell 2
          have lt := RB.out.lt
          simp only [List.getElem?_cons_zero, List.getElem?_cons_succ] at t0 t1 t2
          go_upto_region 14 with (go_at_call 28; with_reducible refine Calls.mono (P0.out _) ?_; rintro e w' ⟨rfl, rfl⟩)
          clear BW5 HF5 y0 y1 y2 y3 y4 lbl
          have HX7 := Lib.hid (show bX < w6.heap.size from RX.out.lt)
          have HS7 := Lib.hid (show bb < w6.heap.size ∧ w1.heap.size ≤ w6.heap.size from ⟨RB.out.lt, HSz.out⟩)
          go_wp2_with fail
          with_reducible refine Calls.mono (CC.out _ BW.out) ?_
          rintro e w8 ⟨⟨o8, N8, c8, rfl, hw, hf⟩, hb⟩
          have BW8 := Lib.hid hw
          have HF8 := Lib.hid hf
          replace RR := Lib.hid (RR.out.next hb)
          replace RB := Lib.hid (RB.out.next hb)
          replace RX := Lib.hid (RX.out.next hb)
          replace BW := Lib.hid (BW.out.next hb)
          replace HSz := Lib.hid (HSz.out.next hb)
          replace BB := Lib.hid (Below.andThen BB.out hb)
          clear hb hw hf CC
          clear t0 t1 t2 lt
          have s0 := RX.out.cell 0
          have s1 := RX.out.cell 1
          have s2 := RX.out.cell 2
          have ls := RX.out.lt
          simp only [List.getElem?_cons_zero, List.getElem?_cons_succ] at s0 s1 s2
          have fs0 := RX.out.frozen 0
          have fs1 := RX.out.frozen 1
          have fs2 := RX.out.frozen 2
          go_upto_region 15 with (fail)
          clear s0 s1 s2 ls fs0 fs1 fs2
          refine wp_named fun w9 hq => ?_
          replace RR := Lib.hid (show Row w9 br _ _ from by rw [hq]; exact ((RR.out.other nRX 0 _).other nRX 1 _).other nRX 2 _)
          replace RB := Lib.hid (show Row w9 bb _ _ from by rw [hq]; exact ((RB.out.other nBX 0 _).other nBX 1 _).other nBX 2 _)
          replace BW := Lib.hid (show BkW w9 o N c l0 from by rw [hq]; exact ((BW.out.apart BWo.out HX5.out _).apart BWo.out HX5.out _).apart BWo.out HX5.out _)
          replace BW8 := Lib.hid (show BkW w9 o8 N8 c8 _ from by rw [hq]; exact ((BW8.out.set (b := bX) (i := 0) HF8.out HX7.out _).set (b := bX) (i := 1) HF8.out HX7.out _).set (b := bX) (i := 2) HF8.out HX7.out _)
          replace BB := Lib.hid (show Below w.heap.size w w9 from by rw [hq]; exact ((BB.out.setCell (p := ⟨bX, 0, none⟩) hbX _).setCell (p := ⟨bX, 1, none⟩) hbX _).setCell (p := ⟨bX, 2, none⟩) hbX _)
          replace HSz := Lib.hid (show Up w1.heap.size w9 from by rw [hq]; simpa [Up] using HSz.out)
          replace RX := Lib.hid (show Row w9 bX 24 [.int .i64 (boV y).acc, .slice o8 N8 c8, .int .i64 (boV y).cl] from by rw [hq]; exact ((RX.out.set 0 _).set 1 _).set 2 _)
          clear hq
          cases y with
          | none =>
            rw [show erI none = 310 from rfl]
            rw [show (boV none).cl = 0 from rfl] at RX
            have s0 := RX.out.cell 0
            have s1 := RX.out.cell 1
            have s2 := RX.out.cell 2
            have ls := RX.out.lt
            simp only [List.getElem?_cons_zero, List.getElem?_cons_succ] at s0 s1 s2
            go_wp2_with fail
            go_roundw
            case rel => exact ⟨k + 1, _, ⟨acc, l0, c0⟩, o, N, c, rfl, by go_num, by omega, by omega, by omega, RR.out, RB.out, BW.out, HG.out.more (by omega), BB.out, HFr.out, HSz.out⟩
            case measure => first | (simp [intOf]; done) | (simp [intOf]; omega)
          | some B =>
            have HG2 := Lib.hid (good_close HG.out HY.out)
            rw [show erI (some B) = 0 from rfl]
            rw [show (boV (some B)).cl = B.cl from rfl] at RX
            have hcl := HG2.out.cl
            have s0 := RX.out.cell 0
            have s1 := RX.out.cell 1
            have s2 := RX.out.cell 2
            have ls := RX.out.lt
            simp only [List.getElem?_cons_zero, List.getElem?_cons_succ] at s0 s1 s2
            have t0 := RB.out.cell 0
            have t1 := RB.out.cell 1
            have t2 := RB.out.cell 2
            have lt := RB.out.lt
            simp only [List.getElem?_cons_zero, List.getElem?_cons_succ] at t0 t1 t2
            have ft0 := RB.out.frozen 0
            have ft1 := RB.out.frozen 1
            have ft2 := RB.out.frozen 2
            go_wp2_with fail
            go_roundw
            case rel => exact ⟨k + 1, _, B, o8, N8, c8, rfl, by go_num, by omega, by omega, by omega, ((RR.out.other nRB 0 _).other nRB 1 _).other nRB 2 _, ((RB.out.set 0 _).set 1 _).set 2 _, ((BW8.out.set (b := bb) (i := 0) HF8.out HS7.out.1 _).set (b := bb) (i := 1) HF8.out HS7.out.1 _).set (b := bb) (i := 2) HF8.out HS7.out.1 _, HG2.out.more (by omega), ((BB.out.setCell (p := ⟨bb, 0, none⟩) hbb _).setCell (p := ⟨bb, 1, none⟩) hbb _).setCell (p := ⟨bb, 2, none⟩) hbb _, HF8.out.lower HS7.out.2, by simpa [Up] using HSz.out⟩
            case measure => first | (simp [intOf]; done) | (simp [intOf]; omega)
        · go_upto_region 16 with (go_at_call 28; with_reducible refine Calls.mono (P0.out _) ?_; rintro e w' ⟨rfl, rfl⟩)
          clear y0 y1 y2 y3 y4 lbl
          cases x with
          | none =>
            rw [show erI none = 310 from rfl]
            go_wp2_with fail
            go_roundw
            case rel => exact ⟨k + 1, _, ⟨acc, l0, c0⟩, o, N, c, rfl, by go_num, by omega, by omega, by omega, RR.out, RB.out, BW.out, HG.out.more (by omega), BB.out, HFr.out, HSz.out⟩
            case measure => first | (simp [intOf]; done) | (simp [intOf]; omega)
          | some B =>
            have HG2 := Lib.hid (good_post HG.out (p := ⟨1, d', v2, X, 1 + v4, v5, -1⟩) q5 HX.out)
            rw [show erI (some B) = 0 from rfl]
            have s0 := RX.out.cell 0
            have s1 := RX.out.cell 1
            have s2 := RX.out.cell 2
            have ls := RX.out.lt
            simp only [List.getElem?_cons_zero, List.getElem?_cons_succ] at s0 s1 s2
            have t0 := RB.out.cell 0
            have t1 := RB.out.cell 1
            have t2 := RB.out.cell 2
            have lt := RB.out.lt
            simp only [List.getElem?_cons_zero, List.getElem?_cons_succ] at t0 t1 t2
            have ft0 := RB.out.frozen 0
            have ft1 := RB.out.frozen 1
            have ft2 := RB.out.frozen 2
            go_wp2_with fail
            go_roundw
            case rel => exact ⟨k + 1, _, B, o5, N5, c5, rfl, by go_num, by omega, by omega, by omega, ((RR.out.other nRB 0 _).other nRB 1 _).other nRB 2 _, ((RB.out.set 0 _).set 1 _).set 2 _, ((BW5.out.set (b := bb) (i := 0) HF5.out HS45.out.1 _).set (b := bb) (i := 1) HF5.out HS45.out.1 _).set (b := bb) (i := 2) HF5.out HS45.out.1 _, HG2.out.more (by omega), ((BB.out.setCell (p := ⟨bb, 0, none⟩) hbb _).setCell (p := ⟨bb, 1, none⟩) hbb _).setCell (p := ⟨bb, 2, none⟩) hbb _, HF5.out.lower HS45.out.2.1, by simpa [Up] using HSz.out⟩
            case measure => first | (simp [intOf]; done) | (simp [intOf]; omega)
    · have t0 := RB.out.cell 0
      have t1 := RB.out.cell 1
      have t2 := RB.out.cell 2
      have lt := RB.out.lt
      simp only [List.getElem?_cons_zero, List.getElem?_cons_succ] at t0 t1 t2
      have q0 := RR.out.cell 0
      have q1 := RR.out.cell 1
      have q2 := RR.out.cell 2
      have lq := RR.out.lt
      simp only [List.getElem?_cons_zero, List.getElem?_cons_succ] at q0 q1 q2
      have fq0 := RR.out.frozen 0
      have fq1 := RR.out.frozen 1
      have fq2 := RR.out.frozen 2
      have nBR : bb ≠ br := Ne.symm nRB
      by_cases h1 : (k : Int) < n
      · have h2 : ¬ (k : Int) < 24 := fun h => hc ⟨h1, h⟩
        clear hc
        go_wp2_with fail
        clear q0 q1 q2 lq
        clear t0 t1 t2 lt
        refine bodyPost_named fun WW hq => ?_
        have RXn := Lib.hid (show Row WW _ _ _ from by rw [hq]; exact ((RR.out.set 0 (.int .i64 acc)).set 1 (.slice o N c)).set 2 (.int .i64 c0))
        have BW6 := Lib.hid (show BkW WW o N c l0 from by rw [hq]; exact ((BW.out.set (b := br) (i := 0) HFr.out HS1.out.2 _).set (b := br) (i := 1) HFr.out HS1.out.2 _).set (b := br) (i := 2) HFr.out HS1.out.2 _)
        have BB6 := Lib.hid (show Below w.heap.size w WW from by rw [hq]; exact ((BB.out.setCell (p := ⟨br, 0, none⟩) hbr _).setCell (p := ⟨br, 1, none⟩) hbr _).setCell (p := ⟨br, 2, none⟩) hbr _)
        clear hq
        have xr0 := RXn.out.cell 0
        have xr1 := RXn.out.cell 1
        have xr2 := RXn.out.cell 2
        simp only [List.set_cons_zero, List.set_cons_succ, List.getElem?_cons_zero, List.getElem?_cons_succ] at xr0 xr1 xr2
        refine bodyPost_ret (v := bookV acc o N c c0) (by first | (simp [results, Tryd.results8, go_sem]; done) | simp [results, Tryd.results8, go_sem, *]) rfl ⟨⟨acc, l0, c0⟩, o, N, c, rfl, BW6.out, HG.out.more (by omega), BB6.out⟩
      · clear hc
        go_wp2_with fail
        clear q0 q1 q2 lq
        clear t0 t1 t2 lt
        refine bodyPost_named fun WW hq => ?_
        have RXn := Lib.hid (show Row WW _ _ _ from by rw [hq]; exact ((RR.out.set 0 (.int .i64 acc)).set 1 (.slice o N c)).set 2 (.int .i64 c0))
        have BW6 := Lib.hid (show BkW WW o N c l0 from by rw [hq]; exact ((BW.out.set (b := br) (i := 0) HFr.out HS1.out.2 _).set (b := br) (i := 1) HFr.out HS1.out.2 _).set (b := br) (i := 2) HFr.out HS1.out.2 _)
        have BB6 := Lib.hid (show Below w.heap.size w WW from by rw [hq]; exact ((BB.out.setCell (p := ⟨br, 0, none⟩) hbr _).setCell (p := ⟨br, 1, none⟩) hbr _).setCell (p := ⟨br, 2, none⟩) hbr _)
        clear hq
        have xr0 := RXn.out.cell 0
        have xr1 := RXn.out.cell 1
        have xr2 := RXn.out.cell 2
        simp only [List.set_cons_zero, List.set_cons_succ, List.getElem?_cons_zero, List.getElem?_cons_succ] at xr0 xr1 xr2
        refine bodyPost_ret (v := bookV acc o N c c0) (by first | (simp [results, Tryd.results8, go_sem]; done) | simp [results, Tryd.results8, go_sem, *]) rfl ⟨⟨acc, l0, c0⟩, o, N, c, rfl, BW6.out, HG.out.more (by omega), BB6.out⟩
end Bk
end Go.Proofs.YtnhlhoijajhcjaaDoor
set_option linter.unusedVariables false
set_option linter.unusedSimpArgs false
set_option linter.unnecessarySimpa false
namespace Go.Proofs.YtnhlhoijajhcjaaDoor
open Go.RowKit
namespace Bk
open Sq
def BalP (acc : Int) (l : List Po) (cl a m : Int) : Prop := StP acc l cl m ∧ 0 ≤ a ∧ a < acc
instance (acc : Int) (l : List Po) (cl a m : Int) : Decidable (BalP acc l cl a m) := by unfold BalP; infer_instance
theorem sumP_step {l : List Po} {m : Int} {k : Nat} (t : Nat) : sumP (flt (toN m) l (k + 1)) t = if (at' l k).day.tdiv 30 = m then sumP (flt (toN m) l k) t + eff (at' l k) t else sumP (flt (toN m) l k) t := by
  by_cases h : (at' l k).day.tdiv 30 = m
  · rw [if_pos h, flt_yes (show toN m (at' l k) = true from decide_eq_true h), sumP_snoc]
  · rw [if_neg h, flt_no (show toN m (at' l k) = false from decide_eq_false h)]
end Bk
end Go.Proofs.YtnhlhoijajhcjaaDoor
set_option linter.unusedVariables false
set_option linter.unusedSimpArgs false
set_option linter.unnecessarySimpa false
namespace Go.Proofs.YtnhlhoijajhcjaaDoor
open Go.RowKit
namespace Bk
open Sq
/-- numbers and an error, as results -/
def InEr (B0 : Nat) (x : Option (List Int)) (e : Ending) (w : World) : Prop := ∃ o N c, e = .returned (.tuple #[.slice o N c, .int .i64 (match x with | none => 310 | some _ => 0)]) ∧ (x.getD []).length = N ∧ Sq.Own intE 3 w B0 (.slice o N c) (x.getD [])
def stB (acc : Int) (l : List Po) (cl m : Int) : Option (List Int) := if StP acc l cl m then some ((List.range acc.toNat).map (sT l m)) else none
def owB (acc : Int) (l : List Po) (cl m : Int) : Option (List Int) := if OwP acc l cl m then some ((List.range acc.toNat).map (oT l m)) else none
theorem range_snoc (f : Nat → Int) (k : Nat) : (List.range (k + 1)).map f = (List.range k).map f ++ [f k] := by rw [List.range_succ, List.map_append]; rfl
theorem own_shape {α : Type} {E : El α} {e : TypeId} {w : World} {B0 : Nat} {v : Value} {l : List α} (h : Sq.Own E e w B0 v l) : ∃ o c, v = .slice o l.length c := by
  obtain ⟨o, c, e, _⟩ := h.vw
  exact ⟨o, c, e⟩
theorem Statement_u (acc cl m : Int) (o : Option Addr) (N c : Nat) (l : List Po) (w : World) (hd : ∀ p ∈ l, inI p.day) (h : BkW w o N c l) :
    Calls Tryd.prog 18 #[bookV acc o N c cl, .int .i64 m] w fun e w' => InEr w.heap.size (stB acc l cl m) e w' ∧ Below w.heap.size w w' := by
  refine (Statement_any acc cl m o N c l w h.1 h.2.1 h.2.2.1 h.2.2.2.2 hd).mono ?_
  rintro e w' ⟨⟨h1, h2⟩, hB⟩
  refine ⟨?_, hB⟩
  unfold stB
  by_cases hb : StP acc l cl m
  · rw [if_pos hb]
    obtain ⟨o', c', rfl, hO⟩ := h1 hb
    exact ⟨o', _, c', rfl, by simp, hO⟩
  · rw [if_neg hb]
    obtain rfl := h2 hb
    exact ⟨none, 0, 0, rfl, rfl, own_nil _ _ _⟩
theorem Owed_u (acc cl m : Int) (o : Option Addr) (N c : Nat) (l : List Po) (w : World) (h : BkW w o N c l) :
    Calls Tryd.prog 20 #[bookV acc o N c cl, .int .i64 m] w fun e w' => InEr w.heap.size (owB acc l cl m) e w' ∧ Below w.heap.size w w' := by
  refine (Owed_any acc cl m o N c l w h.1 h.2.1 h.2.2.1 h.2.2.2.2).mono ?_
  rintro e w' ⟨⟨h1, h2⟩, hB⟩
  refine ⟨?_, hB⟩
  unfold owB
  by_cases hb : OwP acc l cl m
  · rw [if_pos hb]
    obtain ⟨o', c', rfl, hO⟩ := h1 hb
    exact ⟨o', _, c', rfl, by simp, hO⟩
  · rw [if_neg hb]
    obtain rfl := h2 hb
    exact ⟨none, 0, 0, rfl, rfl, own_nil _ _ _⟩
end Bk
end Go.Proofs.YtnhlhoijajhcjaaDoor
set_option linter.unusedVariables false
set_option linter.unusedSimpArgs false
set_option linter.unnecessarySimpa false
namespace Go.Proofs.YtnhlhoijajhcjaaDoor
open Go.RowKit
namespace Bk
open Sq
/-- a row of numbers -/
def rowI (g : Nat → Int) (n : Nat) : List Value := (List.range n).map fun i => .int .i64 (g i)
theorem rowI_len (g : Nat → Int) (n : Nat) : (rowI g n).length = n := by simp [rowI]
theorem rowI_at (g : Nat → Int) {n i : Nat} (h : i < n) : (rowI g n)[i]? = some (.int .i64 (g i)) := by
  unfold rowI
  rw [List.getElem?_map, List.getElem?_range h]
  rfl
theorem rowI_set (g : Nat → Int) (n i : Nat) (v : Int) : (rowI g n).set i (.int .i64 v) = rowI (fun j => if j = i then v else g j) n := by
  apply List.ext_getElem?
  intro j
  rw [List.getElem?_set, rowI_len]
  by_cases hj : j < n
  · rw [rowI_at (fun j => if j = i then v else g j) hj]
    by_cases e : i = j
    · subst e
      rw [if_pos rfl, if_pos hj, if_pos rfl]
    · rw [if_neg e, if_neg (fun h : j = i => e h.symm), rowI_at _ hj]
  · rw [List.getElem?_eq_none (by rw [rowI_len]; omega : (rowI (fun j => if j = i then v else g j) n).length ≤ j)]
    split
    · rename_i e
      rw [if_neg (by omega)]
    · exact List.getElem?_eq_none (by rw [rowI_len]; omega)
theorem rowI_ext {g h : Nat → Int} {n : Nat} (e : ∀ t, t < n → g t = h t) : rowI g n = rowI h n := by
  unfold rowI
  exact List.map_congr_left fun t ht => by rw [e t (List.mem_range.1 ht)]
theorem rowI_zero (n : Nat) : List.replicate n (Value.int .i64 0) = rowI (fun _ => 0) n := by
  apply List.ext_getElem?
  intro j
  by_cases hj : j < n
  · rw [rowI_at _ hj, List.getElem?_replicate, if_pos hj]
  · rw [List.getElem?_eq_none (by simp; omega), List.getElem?_eq_none (by rw [rowI_len]; omega)]
theorem rowI_flat (g : Nat → Int) (n : Nat) : ((List.range n).map g).flatMap intE.f = rowI g n := by
  unfold rowI
  rw [List.flatMap_map]
  show (List.range n).flatMap (fun i => [Value.int .i64 (g i)]) = _
  exact List.map_eq_flatMap.symm
theorem own_row {α : Type} {E : El α} {e : TypeId} {w : World} {B0 b n : Nat} {l : List α} (hr : Row w b e (l.flatMap E.f)) (hl : l.length = n) (hb : B0 ≤ b) (hn : n ≤ 1000000) : Sq.Own E e w B0 (.slice (some ⟨b, 0, none⟩) n n) l := by
  subst hl
  refine ⟨flat_len E l, .inr ⟨b, l.length, (l.flatMap E.f).toArray, rfl, hb, hr, Nat.le_refl _, by unfold maxLen; omega, by rw [List.size_toArray, flat_len], ?_⟩⟩
  apply List.take_of_length_le
  rw [List.toList_toArray, flat_len]
  exact Nat.le_refl _
/-- what is owed by the first k -/
def owS (l : List Po) (s : Int) (k : Nat) (t : Nat) : Int := sumP (alive l (flt (feeT s) l k)) t
theorem owS_no {l : List Po} {s : Int} {k : Nat} (h : ¬ ((at' l k).kind = 1 ∧ (at' l k).sub = s) ∨ rev l k = true) : owS l s (k + 1) = owS l s k := by
  funext t
  unfold owS
  by_cases hf : feeT s (at' l k) = true
  · rcases h with h | h
    · exact absurd (of_decide_eq_true hf) h
    · rw [flt_yes hf, alive_no (x := (k, at' l k)) h]
  · rw [flt_no (by simpa using hf)]
theorem owS_yes {l : List Po} {s : Int} {k : Nat} (h : (at' l k).kind = 1 ∧ (at' l k).sub = s) (hr : rev l k = false) (t : Nat) : owS l s (k + 1) t = owS l s k t + eff (at' l k) t := by
  unfold owS
  rw [flt_yes (show feeT s (at' l k) = true from decide_eq_true h), alive_yes (x := (k, at' l k)) hr, sumP_snoc]
theorem rev_later {acc cl : Int} {l : List Po} (h : Vd acc l cl) {k : Nat} (hk : k < l.length) : rev l k = false ↔ ∀ j : Nat, k + 1 ≤ j → j < l.length → (at' l j).of ≠ k := by
  constructor
  · intro hr j h1 h2 e
    have hf := (h.2 j h2).1.1
    have : rev l k = true := rev_iff.2 ⟨j, h2, by rcases hf with ⟨_, h3⟩ | ⟨h3, _⟩ <;> omega, e⟩
    rw [this] at hr
    cases hr
  · intro hall
    cases hr : rev l k with
    | false => rfl
    | true =>
      obtain ⟨j, h1, h2, h3⟩ := rev_iff.1 hr
      have := ((h.2 j h1).2.2 h2).1
      exact absurd h3 (hall j (by omega) h1)
theorem infoIntR : (Tryd.prog.info? 3).map (fun i => (i.zero, i.size, i.bytes)) = some (some (.int .i64 0), 1, 8) := by kernel_rfl
end Bk
end Go.Proofs.YtnhlhoijajhcjaaDoor
set_option linter.unusedVariables false
set_option linter.unusedSimpArgs false
set_option linter.unnecessarySimpa false
namespace Go.Proofs.YtnhlhoijajhcjaaDoor
open Go.RowKit
namespace Bk
open Sq
theorem post_is {acc cl : Int} {o : Option Addr} {N c : Nat} {l : List Po} {p : Po} {w : World} {B : Bo} (hx : postB acc l cl p = some B) (hN : N ≤ 2 ^ 30) (hd : inI p.day) (h : BkW w o N c l) :
    Calls Tryd.prog 17 #[bookV acc o N c cl, p.v] w fun e w' => (∃ o' c', e = .returned (.tuple #[bookV B.acc o' B.l.length c' B.cl, .int .i64 N, .int .i64 0]) ∧ BkW w' o' B.l.length c' B.l) ∧ Below w.heap.size w w' := by
  have q := Post_u acc cl o N c l p w hN hd h
  rw [hx] at q
  refine q.mono ?_
  rintro e w' ⟨⟨o', N', c', rfl, hw, -⟩, hb⟩
  have e : N' = B.l.length := hw.1.symm
  subst e
  exact ⟨⟨o', c', rfl, hw⟩, hb⟩
theorem post_no {acc cl : Int} {o : Option Addr} {N c : Nat} {l : List Po} {p : Po} {w : World} (hx : postB acc l cl p = none) (hN : N ≤ 2 ^ 30) (hd : inI p.day) (h : BkW w o N c l) :
    Calls Tryd.prog 17 #[bookV acc o N c cl, p.v] w fun e w' => (∃ o' N' c', e = .returned (.tuple #[bookV 0 o' N' c' 0, .int .i64 0, .int .i64 310])) ∧ Below w.heap.size w w' := by
  have q := Post_u acc cl o N c l p w hN hd h
  rw [hx] at q
  refine q.mono ?_
  rintro e w' ⟨⟨o', N', c', rfl, hw, -⟩, hb⟩
  exact ⟨⟨o', N', c', rfl⟩, hb⟩
theorem disp_is {acc cl i day amt : Int} {o : Option Addr} {N c : Nat} {l : List Po} {w : World} {B : Bo} (hx : dispB acc l cl i day amt = some B) (hN : N ≤ 2 ^ 29) (hd : inI day) (h : BkW w o N c l) :
    Calls Tryd.prog 19 #[bookV acc o N c cl, .int .i64 i, .int .i64 day, .int .i64 amt] w fun e w' => (∃ o' c', e = .returned (.tuple #[bookV B.acc o' B.l.length c' B.cl, .int .i64 0]) ∧ BkW w' o' B.l.length c' B.l) ∧ Below w.heap.size w w' := by
  have q := Dispute_u acc cl i day amt o N c l w hN hd h
  rw [hx] at q
  refine q.mono ?_
  rintro e w' ⟨⟨o', N', c', rfl, hw, -⟩, hb⟩
  have e : N' = B.l.length := hw.1.symm
  subst e
  exact ⟨⟨o', c', rfl, hw⟩, hb⟩
theorem disp_no {acc cl i day amt : Int} {o : Option Addr} {N c : Nat} {l : List Po} {w : World} (hx : dispB acc l cl i day amt = none) (hN : N ≤ 2 ^ 29) (hd : inI day) (h : BkW w o N c l) :
    Calls Tryd.prog 19 #[bookV acc o N c cl, .int .i64 i, .int .i64 day, .int .i64 amt] w fun e w' => (∃ o' N' c', e = .returned (.tuple #[bookV 0 o' N' c' 0, .int .i64 310])) ∧ Below w.heap.size w w' := by
  have q := Dispute_u acc cl i day amt o N c l w hN hd h
  rw [hx] at q
  refine q.mono ?_
  rintro e w' ⟨⟨o', N', c', rfl, hw, -⟩, hb⟩
  exact ⟨⟨o', N', c', rfl⟩, hb⟩
theorem close_is {acc cl m : Int} {o : Option Addr} {N c : Nat} {l : List Po} {w : World} {B : Bo} (hx : closeB acc l cl m = some B) (hN : N ≤ 2 ^ 30) (h : BkW w o N c l) :
    Calls Tryd.prog 21 #[bookV acc o N c cl, .int .i64 m] w fun e w' => (∃ o' c', e = .returned (.tuple #[bookV B.acc o' B.l.length c' B.cl, .int .i64 0]) ∧ BkW w' o' B.l.length c' B.l) ∧ Below w.heap.size w w' := by
  have q := Close_u acc cl m o N c l w hN h
  rw [hx] at q
  refine q.mono ?_
  rintro e w' ⟨⟨o', N', c', rfl, hw, -⟩, hb⟩
  have e : N' = B.l.length := hw.1.symm
  subst e
  exact ⟨⟨o', c', rfl, hw⟩, hb⟩
/-- a slice of numbers of one's own -/
def InW (w : World) (B0 : Nat) (o : Option Addr) (N c : Nat) (l : List Int) : Prop := l.length = N ∧ Sq.Own intE 3 w B0 (.slice o N c) l
theorem InW.next {w w' : World} {B0 : Nat} {o : Option Addr} {N c : Nat} {l : List Int} (h : InW w B0 o N c l) (hb : Below w.heap.size w w') : InW w' B0 o N c l := ⟨h.1, h.2.next hb⟩
theorem InW.cap {w : World} {B0 : Nat} {o : Option Addr} {N c : Nat} {l : List Int} (h : InW w B0 o N c l) : N ≤ c := by
  obtain ⟨o', c', e, h1, _⟩ := h.2.vw
  obtain ⟨-, h2, rfl⟩ := Value.slice.inj e
  omega
theorem stmt_is {acc cl m : Int} {o : Option Addr} {N c : Nat} {l : List Po} {w : World} {s : List Int} (hx : stB acc l cl m = some s) (hd : ∀ p ∈ l, inI p.day) (h : BkW w o N c l) :
    Calls Tryd.prog 18 #[bookV acc o N c cl, .int .i64 m] w fun e w' => (∃ o' c', e = .returned (.tuple #[.slice o' s.length c', .int .i64 0]) ∧ InW w' w.heap.size o' s.length c' s) ∧ Below w.heap.size w w' := by
  have q := Statement_u acc cl m o N c l w hd h
  rw [hx] at q
  refine q.mono ?_
  rintro e w' ⟨⟨o', N', c', rfl, hl, hO⟩, hb⟩
  have e : N' = s.length := hl.symm
  subst e
  exact ⟨⟨o', c', rfl, rfl, hO⟩, hb⟩
theorem owed_is {acc cl m : Int} {o : Option Addr} {N c : Nat} {l : List Po} {w : World} {s : List Int} (hx : owB acc l cl m = some s) (h : BkW w o N c l) :
    Calls Tryd.prog 20 #[bookV acc o N c cl, .int .i64 m] w fun e w' => (∃ o' c', e = .returned (.tuple #[.slice o' s.length c', .int .i64 0]) ∧ InW w' w.heap.size o' s.length c' s) ∧ Below w.heap.size w w' := by
  have q := Owed_u acc cl m o N c l w h
  rw [hx] at q
  refine q.mono ?_
  rintro e w' ⟨⟨o', N', c', rfl, hl, hO⟩, hb⟩
  have e : N' = s.length := hl.symm
  subst e
  exact ⟨⟨o', c', rfl, rfl, hO⟩, hb⟩
theorem Balance_u (acc cl a m : Int) (o : Option Addr) (N c : Nat) (l : List Po) (w : World) (hd : ∀ p ∈ l, inI p.day) (h : BkW w o N c l) :
    Calls Tryd.prog 22 #[bookV acc o N c cl, .int .i64 a, .int .i64 m] w fun e w' => e = .returned (if StP acc l cl m ∧ 0 ≤ a ∧ a < acc then .tuple #[.int .i64 (sT l m a.toNat), .int .i64 0] else errZ) ∧ Below w.heap.size w w' :=
  Balance_any acc cl a m o N c l w h.1 h.2.1 h.2.2.1 h.2.2.2.2 hd
theorem Valid_u (acc cl : Int) (o : Option Addr) (N c : Nat) (l : List Po) (w : World) (h : BkW w o N c l) :
    Calls Tryd.prog 24 #[bookV acc o N c cl] w fun e w' => e = .returned (.bool (vd acc l cl)) ∧ Below w.heap.size w w' := Valid_any acc cl o N c l w h.1 h.2.1 h.2.2.1 h.2.2.2.2
theorem ints_is {o : Option Addr} {B0 N c : Nat} {s : List Int} {w : World} (h : InW w B0 o N c s) (hN : N ≤ 1000) :
    Calls Tryd.prog 23 #[.slice o N c, .slice (some ⟨w.heap.size, 0, none⟩) N N] (w.alloc (.cells (s.flatMap intE.f).toArray 3)) fun e w' => e = .returned (.bool true) ∧ Below w.heap.size w w' := by
  have q := rInts_any o N c (some ⟨w.heap.size, 0, none⟩) N N s s (w.alloc (.cells (s.flatMap intE.f).toArray 3)) h.1 h.1 (by omega) h.cap (Nat.le_refl _) (h.2.sl.next ((Below.refl _ _).alloc (Nat.le_refl _) _)) (sl_new intE w _ s)
  rw [decide_eq_true rfl] at q
  exact q.mono fun _ _ hh => ⟨hh.1, Below.andThen ((Below.refl _ _).alloc (Nat.le_refl _) _) hh.2⟩
set_option maxRecDepth 100000 in
set_option maxHeartbeats 16000000 in
theorem sane_any (w : World) : Calls Tryd.prog 5 #[] w fun e w' => e = .returned (.bool true) ∧ Below w.heap.size w w' := by
  have BW0 := Lib.hid (bkw_zero w)
  have BB := Lib.hid (Below.refl w.heap.size w)
  have i1 : ∀ p ∈ ([⟨1, 5, 0, 1, 90, 7, -1⟩, ⟨2, 40, 1, 0, 90, 7, 0⟩, ⟨1, 40, 0, 1, 60, 7, -1⟩] : List Po), inI p.day := by
    intro p hp
    simp only [List.mem_cons, List.not_mem_nil, or_false] at hp
    rcases hp with rfl | rfl | rfl <;> exact ⟨by decide, by decide⟩
  have i2 : ∀ p ∈ ([⟨1, 5, 0, 1, 90, 7, -1⟩] : List Po), inI p.day := by
    intro p hp
    simp only [List.mem_cons, List.not_mem_nil, or_false] at hp
    rcases hp with rfl
    exact ⟨by decide, by decide⟩
  have C1 := Lib.hid (fun W (h : BkW W none 0 0 []) => (show Calls Tryd.prog 17 #[bookV 3 none 0 0 0, .agg #[.int .i64 1, .int .i64 5, .int .i64 0, .int .i64 1, .int .i64 90, .int .i64 7, .int .i64 (-1)]] W fun e w' => (∃ o' c', e = .returned (.tuple #[bookV 3 o' 1 c' 0, .int .i64 0, .int .i64 0]) ∧ BkW w' o' 1 c' [⟨1, 5, 0, 1, 90, 7, -1⟩]) ∧ Below W.heap.size W w' from post_is (p := ⟨1, 5, 0, 1, 90, 7, -1⟩) (B := ⟨3, [⟨1, 5, 0, 1, 90, 7, -1⟩], 0⟩) (by kernel_rfl) (by decide) ⟨by decide, by decide⟩ h))
  have C2 := Lib.hid (fun W o c (h : BkW W o 1 c [⟨1, 5, 0, 1, 90, 7, -1⟩]) => (show Calls Tryd.prog 18 #[bookV 3 o 1 c 0, .int .i64 0] W fun e w' => (∃ o' c', e = .returned (.tuple #[.slice o' 3 c', .int .i64 0]) ∧ InW w' W.heap.size o' 3 c' [-90, 90, 0]) ∧ Below W.heap.size W w' from stmt_is (s := [-90, 90, 0]) (by kernel_rfl) i2 h))
  have C3 := Lib.hid (fun W o c (h : BkW W o 1 c [⟨1, 5, 0, 1, 90, 7, -1⟩]) => (show Calls Tryd.prog 19 #[bookV 3 o 1 c 0, .int .i64 0, .int .i64 40, .int .i64 60] W fun e w' => (∃ o' c', e = .returned (.tuple #[bookV 3 o' 3 c' 0, .int .i64 0]) ∧ BkW w' o' 3 c' [⟨1, 5, 0, 1, 90, 7, -1⟩, ⟨2, 40, 1, 0, 90, 7, 0⟩, ⟨1, 40, 0, 1, 60, 7, -1⟩]) ∧ Below W.heap.size W w' from disp_is (B := ⟨3, [⟨1, 5, 0, 1, 90, 7, -1⟩, ⟨2, 40, 1, 0, 90, 7, 0⟩, ⟨1, 40, 0, 1, 60, 7, -1⟩], 0⟩) (by kernel_rfl) (by decide) ⟨by decide, by decide⟩ h))
  have C4 := Lib.hid (fun W o c (h : BkW W o 3 c [⟨1, 5, 0, 1, 90, 7, -1⟩, ⟨2, 40, 1, 0, 90, 7, 0⟩, ⟨1, 40, 0, 1, 60, 7, -1⟩]) => (show Calls Tryd.prog 18 #[bookV 3 o 3 c 0, .int .i64 0] W fun e w' => (∃ o' c', e = .returned (.tuple #[.slice o' 3 c', .int .i64 0]) ∧ InW w' W.heap.size o' 3 c' [-90, 90, 0]) ∧ Below W.heap.size W w' from stmt_is (s := [-90, 90, 0]) (by kernel_rfl) i1 h))
  have C5 := Lib.hid (fun W o c (h : BkW W o 3 c [⟨1, 5, 0, 1, 90, 7, -1⟩, ⟨2, 40, 1, 0, 90, 7, 0⟩, ⟨1, 40, 0, 1, 60, 7, -1⟩]) => (show Calls Tryd.prog 18 #[bookV 3 o 3 c 0, .int .i64 1] W fun e w' => (∃ o' c', e = .returned (.tuple #[.slice o' 3 c', .int .i64 0]) ∧ InW w' W.heap.size o' 3 c' [30, -30, 0]) ∧ Below W.heap.size W w' from stmt_is (s := [30, -30, 0]) (by kernel_rfl) i1 h))
  have C6 := Lib.hid (fun W o c (h : BkW W o 3 c [⟨1, 5, 0, 1, 90, 7, -1⟩, ⟨2, 40, 1, 0, 90, 7, 0⟩, ⟨1, 40, 0, 1, 60, 7, -1⟩]) => (show Calls Tryd.prog 20 #[bookV 3 o 3 c 0, .int .i64 7] W fun e w' => (∃ o' c', e = .returned (.tuple #[.slice o' 3 c', .int .i64 0]) ∧ InW w' W.heap.size o' 3 c' [-60, 60, 0]) ∧ Below W.heap.size W w' from owed_is (s := [-60, 60, 0]) (by kernel_rfl) h))
  have C7 := Lib.hid (fun W o c (h : BkW W o 3 c [⟨1, 5, 0, 1, 90, 7, -1⟩, ⟨2, 40, 1, 0, 90, 7, 0⟩, ⟨1, 40, 0, 1, 60, 7, -1⟩]) => (show Calls Tryd.prog 19 #[bookV 3 o 3 c 0, .int .i64 0, .int .i64 50, .int .i64 1] W fun e w' => (∃ o' N' c', e = .returned (.tuple #[bookV 0 o' N' c' 0, .int .i64 310])) ∧ Below W.heap.size W w' from disp_no (by kernel_rfl) (by decide) ⟨by decide, by decide⟩ h))
  have C8 := Lib.hid (fun W o c (h : BkW W o 3 c [⟨1, 5, 0, 1, 90, 7, -1⟩, ⟨2, 40, 1, 0, 90, 7, 0⟩, ⟨1, 40, 0, 1, 60, 7, -1⟩]) => (show Calls Tryd.prog 17 #[bookV 3 o 3 c 0, .agg #[.int .i64 1, .int .i64 39, .int .i64 0, .int .i64 1, .int .i64 1, .int .i64 0, .int .i64 (-1)]] W fun e w' => (∃ o' N' c', e = .returned (.tuple #[bookV 0 o' N' c' 0, .int .i64 0, .int .i64 310])) ∧ Below W.heap.size W w' from post_no (p := ⟨1, 39, 0, 1, 1, 0, -1⟩) (by kernel_rfl) (by decide) ⟨by decide, by decide⟩ h))
  have C9 := Lib.hid (fun W o c (h : BkW W o 3 c [⟨1, 5, 0, 1, 90, 7, -1⟩, ⟨2, 40, 1, 0, 90, 7, 0⟩, ⟨1, 40, 0, 1, 60, 7, -1⟩]) => (show Calls Tryd.prog 21 #[bookV 3 o 3 c 0, .int .i64 0] W fun e w' => (∃ o' c', e = .returned (.tuple #[bookV 3 o' 3 c' 1, .int .i64 0]) ∧ BkW w' o' 3 c' [⟨1, 5, 0, 1, 90, 7, -1⟩, ⟨2, 40, 1, 0, 90, 7, 0⟩, ⟨1, 40, 0, 1, 60, 7, -1⟩]) ∧ Below W.heap.size W w' from close_is (B := ⟨3, [⟨1, 5, 0, 1, 90, 7, -1⟩, ⟨2, 40, 1, 0, 90, 7, 0⟩, ⟨1, 40, 0, 1, 60, 7, -1⟩], 1⟩) (by kernel_rfl) (by decide) h))
  have C10 := Lib.hid (fun W o c (h : BkW W o 3 c [⟨1, 5, 0, 1, 90, 7, -1⟩, ⟨2, 40, 1, 0, 90, 7, 0⟩, ⟨1, 40, 0, 1, 60, 7, -1⟩]) => (show Calls Tryd.prog 22 #[bookV 3 o 3 c 0, .int .i64 1, .int .i64 1] W fun e w' => e = .returned (.tuple #[.int .i64 (-30), .int .i64 0]) ∧ Below W.heap.size W w' from by
    have q := Balance_u 3 0 1 1 o 3 c [⟨1, 5, 0, 1, 90, 7, -1⟩, ⟨2, 40, 1, 0, 90, 7, 0⟩, ⟨1, 40, 0, 1, 60, 7, -1⟩] W i1 h
    rw [if_pos (show StP 3 [⟨1, 5, 0, 1, 90, 7, -1⟩, ⟨2, 40, 1, 0, 90, 7, 0⟩, ⟨1, 40, 0, 1, 60, 7, -1⟩] 0 1 ∧ (0 : Int) ≤ 1 ∧ (1 : Int) < 3 from ⟨⟨by kernel_rfl, by decide, by decide⟩, by decide, by decide⟩), show sT [⟨1, 5, 0, 1, 90, 7, -1⟩, ⟨2, 40, 1, 0, 90, 7, 0⟩, ⟨1, 40, 0, 1, 60, 7, -1⟩] 1 (1 : Int).toNat = -30 from by kernel_rfl] at q
    exact q))
  have C11 := Lib.hid (fun W o c (h : BkW W o 3 c [⟨1, 5, 0, 1, 90, 7, -1⟩, ⟨2, 40, 1, 0, 90, 7, 0⟩, ⟨1, 40, 0, 1, 60, 7, -1⟩]) => (show Calls Tryd.prog 24 #[bookV 3 o 3 c 1] W fun e w' => e = .returned (.bool true) ∧ Below W.heap.size W w' from by
    have q := Valid_u 3 1 o 3 c [⟨1, 5, 0, 1, 90, 7, -1⟩, ⟨2, 40, 1, 0, 90, 7, 0⟩, ⟨1, 40, 0, 1, 60, 7, -1⟩] W h
    rw [show vd 3 [⟨1, 5, 0, 1, 90, 7, -1⟩, ⟨2, 40, 1, 0, 90, 7, 0⟩, ⟨1, 40, 0, 1, 60, 7, -1⟩] 1 = true from by kernel_rfl] at q
    exact q))
  have C12 := Lib.hid (fun W => (show Calls Tryd.prog 24 #[bookV 0 none 0 0 0] W fun e w' => e = .returned (.bool false) ∧ Below W.heap.size W w' from by
    have q := Valid_u 0 0 none 0 0 [] W (bkw_zero W)
    rw [show vd 0 [] 0 = false from by kernel_rfl] at q
    exact q))
  clear i1 i2
  go_enter Tryd.func5, Tryd.ntmps5
  go_wp2_with fail
  with_reducible refine Calls.mono (C1.out _ BW0.out) ?_
  rintro e wn ⟨⟨o1, c1, rfl, hw⟩, hb⟩
  replace BB := Lib.hid (Below.andThen BB.out hb)
  have B1 := Lib.hid hw
  clear hw
  clear hb
  go_upto_region 2 with (fail)
  refine wp_named fun wb hq => ?_
  obtain ⟨bRB, eRB⟩ : ∃ b, b = wn.heap.size := ⟨_, rfl⟩
  have RB := Lib.hid (show Row wb bRB 24 [.int .i64 3, .slice o1 1 c1, .int .i64 0] from by rw [hq, eRB]; exact Row.new wn _ _)
  have hb : Below wn.heap.size wn wb := by rw [hq]; (repeat' first | exact Below.refl _ _ | assumption | (refine below_drewN ?_ _) | (refine Below.drew ?_) | (refine Below.alloc ?_ ?_ _) | (refine Below.setCell ?_ ?_ _) | (simp; done) | (simp; omega) | omega)
  replace B1 := Lib.hid (B1.out.next hb)
  replace BB := Lib.hid (Below.andThen BB.out hb)
  rw [← eRB]
  clear hq hb eRB
  have a0 := RB.out.cell 0
  have a1 := RB.out.cell 1
  have a2 := RB.out.cell 2
  have la := RB.out.lt
  simp only [List.getElem?_cons_zero, List.getElem?_cons_succ] at a0 a1 a2
  go_wp2_with fail
  with_reducible refine Calls.mono (C2.out _ _ _ B1.out) ?_
  rintro e wn ⟨⟨os, cs, rfl, hw⟩, hb⟩
  replace B1 := Lib.hid (B1.out.next hb)
  replace RB := Lib.hid (RB.out.next hb)
  replace BB := Lib.hid (Below.andThen BB.out hb)
  have S1 := Lib.hid hw
  clear hw
  clear hb
  clear a0 a1 a2 la
  have a0 := RB.out.cell 0
  have a1 := RB.out.cell 1
  have a2 := RB.out.cell 2
  have la := RB.out.lt
  simp only [List.getElem?_cons_zero, List.getElem?_cons_succ] at a0 a1 a2
  go_wp2_with fail
  with_reducible refine Calls.mono (C3.out _ _ _ B1.out) ?_
  rintro e wn ⟨⟨o3, c3, rfl, hw⟩, hb⟩
  replace S1 := Lib.hid (S1.out.next hb)
  replace BB := Lib.hid (Below.andThen BB.out hb)
  have B3 := Lib.hid hw
  clear hw
  clear hb
  clear a0 a1 a2 la
  clear RB B1 BW0 C1 C2 C3
  go_upto_region 4 with (fail)
  refine wp_named fun wb hq => ?_
  obtain ⟨bRC, eRC⟩ : ∃ b, b = wn.heap.size := ⟨_, rfl⟩
  have RC := Lib.hid (show Row wb bRC 24 [.int .i64 3, .slice o3 3 c3, .int .i64 0] from by rw [hq, eRC]; exact Row.new wn _ _)
  have hb : Below wn.heap.size wn wb := by rw [hq]; (repeat' first | exact Below.refl _ _ | assumption | (refine below_drewN ?_ _) | (refine Below.drew ?_) | (refine Below.alloc ?_ ?_ _) | (refine Below.setCell ?_ ?_ _) | (simp; done) | (simp; omega) | omega)
  replace S1 := Lib.hid (S1.out.next hb)
  replace B3 := Lib.hid (B3.out.next hb)
  replace BB := Lib.hid (Below.andThen BB.out hb)
  rw [← eRC]
  clear hq hb eRC
  have a0 := RC.out.cell 0
  have a1 := RC.out.cell 1
  have a2 := RC.out.cell 2
  have la := RC.out.lt
  simp only [List.getElem?_cons_zero, List.getElem?_cons_succ] at a0 a1 a2
  go_wp2_with fail
  with_reducible refine Calls.mono (C4.out _ _ _ B3.out) ?_
  rintro e wn ⟨⟨ox0, cx0, rfl, hw⟩, hb⟩
  replace S1 := Lib.hid (S1.out.next hb)
  replace B3 := Lib.hid (B3.out.next hb)
  replace RC := Lib.hid (RC.out.next hb)
  replace BB := Lib.hid (Below.andThen BB.out hb)
  have S2 := Lib.hid hw
  clear hw
  clear hb
  clear a0 a1 a2 la
  have a0 := RC.out.cell 0
  have a1 := RC.out.cell 1
  have a2 := RC.out.cell 2
  have la := RC.out.lt
  simp only [List.getElem?_cons_zero, List.getElem?_cons_succ] at a0 a1 a2
  go_wp2_with fail
  with_reducible refine Calls.mono (C5.out _ _ _ B3.out) ?_
  rintro e wn ⟨⟨ox1, cx1, rfl, hw⟩, hb⟩
  replace S1 := Lib.hid (S1.out.next hb)
  replace S2 := Lib.hid (S2.out.next hb)
  replace B3 := Lib.hid (B3.out.next hb)
  replace RC := Lib.hid (RC.out.next hb)
  replace BB := Lib.hid (Below.andThen BB.out hb)
  have S3 := Lib.hid hw
  clear hw
  clear hb
  clear a0 a1 a2 la
  have a0 := RC.out.cell 0
  have a1 := RC.out.cell 1
  have a2 := RC.out.cell 2
  have la := RC.out.lt
  simp only [List.getElem?_cons_zero, List.getElem?_cons_succ] at a0 a1 a2
  go_wp2_with fail
  with_reducible refine Calls.mono (C6.out _ _ _ B3.out) ?_
  rintro e wn ⟨⟨ox2, cx2, rfl, hw⟩, hb⟩
  replace S1 := Lib.hid (S1.out.next hb)
  replace S2 := Lib.hid (S2.out.next hb)
  replace S3 := Lib.hid (S3.out.next hb)
  replace B3 := Lib.hid (B3.out.next hb)
  replace RC := Lib.hid (RC.out.next hb)
  replace BB := Lib.hid (Below.andThen BB.out hb)
  have S4 := Lib.hid hw
  clear hw
  clear hb
  clear a0 a1 a2 la
  clear C4 C5 C6
  have a0 := RC.out.cell 0
  have a1 := RC.out.cell 1
  have a2 := RC.out.cell 2
  have la := RC.out.lt
  simp only [List.getElem?_cons_zero, List.getElem?_cons_succ] at a0 a1 a2
  go_wp2_with fail
  with_reducible refine Calls.mono (C7.out _ _ _ B3.out) ?_
  rintro e wn ⟨⟨o7, N7, c7, rfl⟩, hb⟩
  replace S1 := Lib.hid (S1.out.next hb)
  replace S2 := Lib.hid (S2.out.next hb)
  replace S3 := Lib.hid (S3.out.next hb)
  replace S4 := Lib.hid (S4.out.next hb)
  replace B3 := Lib.hid (B3.out.next hb)
  replace RC := Lib.hid (RC.out.next hb)
  replace BB := Lib.hid (Below.andThen BB.out hb)
  clear hb
  clear a0 a1 a2 la
  go_upto_region 8 with (fail)
  refine wp_named fun wb hq => ?_
  obtain ⟨bRX, eRX⟩ : ∃ b, b = wn.heap.size := ⟨_, rfl⟩
  have RX := Lib.hid (show Row wb bRX 24 [.int .i64 0, .slice o7 N7 c7, .int .i64 0] from by rw [hq, eRX]; exact Row.new wn _ _)
  have hb : Below wn.heap.size wn wb := by rw [hq]; (repeat' first | exact Below.refl _ _ | assumption | (refine below_drewN ?_ _) | (refine Below.drew ?_) | (refine Below.alloc ?_ ?_ _) | (refine Below.setCell ?_ ?_ _) | (simp; done) | (simp; omega) | omega)
  replace S1 := Lib.hid (S1.out.next hb)
  replace S2 := Lib.hid (S2.out.next hb)
  replace S3 := Lib.hid (S3.out.next hb)
  replace S4 := Lib.hid (S4.out.next hb)
  replace B3 := Lib.hid (B3.out.next hb)
  replace RC := Lib.hid (RC.out.next hb)
  replace BB := Lib.hid (Below.andThen BB.out hb)
  rw [← eRX]
  clear hq hb eRX
  have a0 := RC.out.cell 0
  have a1 := RC.out.cell 1
  have a2 := RC.out.cell 2
  have la := RC.out.lt
  simp only [List.getElem?_cons_zero, List.getElem?_cons_succ] at a0 a1 a2
  go_wp2_with fail
  with_reducible refine Calls.mono (C8.out _ _ _ B3.out) ?_
  rintro e wn ⟨⟨o8, N8, c8, rfl⟩, hb⟩
  replace S1 := Lib.hid (S1.out.next hb)
  replace S2 := Lib.hid (S2.out.next hb)
  replace S3 := Lib.hid (S3.out.next hb)
  replace S4 := Lib.hid (S4.out.next hb)
  replace B3 := Lib.hid (B3.out.next hb)
  replace RC := Lib.hid (RC.out.next hb)
  replace BB := Lib.hid (Below.andThen BB.out hb)
  clear hb
  clear a0 a1 a2 la
  clear RX
  go_upto_region 9 with (fail)
  refine wp_named fun wb hq => ?_
  obtain ⟨bRX, eRX⟩ : ∃ b, b = wn.heap.size := ⟨_, rfl⟩
  have RX := Lib.hid (show Row wb bRX 24 [.int .i64 0, .slice o8 N8 c8, .int .i64 0] from by rw [hq, eRX]; exact Row.new wn _ _)
  have hb : Below wn.heap.size wn wb := by rw [hq]; (repeat' first | exact Below.refl _ _ | assumption | (refine below_drewN ?_ _) | (refine Below.drew ?_) | (refine Below.alloc ?_ ?_ _) | (refine Below.setCell ?_ ?_ _) | (simp; done) | (simp; omega) | omega)
  replace S1 := Lib.hid (S1.out.next hb)
  replace S2 := Lib.hid (S2.out.next hb)
  replace S3 := Lib.hid (S3.out.next hb)
  replace S4 := Lib.hid (S4.out.next hb)
  replace B3 := Lib.hid (B3.out.next hb)
  replace RC := Lib.hid (RC.out.next hb)
  replace BB := Lib.hid (Below.andThen BB.out hb)
  rw [← eRX]
  clear hq hb eRX
  have a0 := RC.out.cell 0
  have a1 := RC.out.cell 1
  have a2 := RC.out.cell 2
  have la := RC.out.lt
  simp only [List.getElem?_cons_zero, List.getElem?_cons_succ] at a0 a1 a2
  go_wp2_with fail
  with_reducible refine Calls.mono (C9.out _ _ _ B3.out) ?_
  rintro e wn ⟨⟨o9, c9, rfl, hw⟩, hb⟩
  replace S1 := Lib.hid (S1.out.next hb)
  replace S2 := Lib.hid (S2.out.next hb)
  replace S3 := Lib.hid (S3.out.next hb)
  replace S4 := Lib.hid (S4.out.next hb)
  replace B3 := Lib.hid (B3.out.next hb)
  replace RC := Lib.hid (RC.out.next hb)
  replace BB := Lib.hid (Below.andThen BB.out hb)
  have B9 := Lib.hid hw
  clear hw
  clear hb
  clear a0 a1 a2 la
  clear RX
  go_upto_region 10 with (fail)
  refine wp_named fun wb hq => ?_
  obtain ⟨bRD, eRD⟩ : ∃ b, b = wn.heap.size := ⟨_, rfl⟩
  have RD := Lib.hid (show Row wb bRD 24 [.int .i64 3, .slice o9 3 c9, .int .i64 1] from by rw [hq, eRD]; exact Row.new wn _ _)
  have hb : Below wn.heap.size wn wb := by rw [hq]; (repeat' first | exact Below.refl _ _ | assumption | (refine below_drewN ?_ _) | (refine Below.drew ?_) | (refine Below.alloc ?_ ?_ _) | (refine Below.setCell ?_ ?_ _) | (simp; done) | (simp; omega) | omega)
  replace S1 := Lib.hid (S1.out.next hb)
  replace S2 := Lib.hid (S2.out.next hb)
  replace S3 := Lib.hid (S3.out.next hb)
  replace S4 := Lib.hid (S4.out.next hb)
  replace B3 := Lib.hid (B3.out.next hb)
  replace RC := Lib.hid (RC.out.next hb)
  replace B9 := Lib.hid (B9.out.next hb)
  replace BB := Lib.hid (Below.andThen BB.out hb)
  rw [← eRD]
  clear hq hb eRD
  have a0 := RC.out.cell 0
  have a1 := RC.out.cell 1
  have a2 := RC.out.cell 2
  have la := RC.out.lt
  simp only [List.getElem?_cons_zero, List.getElem?_cons_succ] at a0 a1 a2
  go_wp2_with fail
  with_reducible refine Calls.mono (C10.out _ _ _ B3.out) ?_
  rintro e wn ⟨rfl, hb⟩
  replace S1 := Lib.hid (S1.out.next hb)
  replace S2 := Lib.hid (S2.out.next hb)
  replace S3 := Lib.hid (S3.out.next hb)
  replace S4 := Lib.hid (S4.out.next hb)
  replace B3 := Lib.hid (B3.out.next hb)
  replace RC := Lib.hid (RC.out.next hb)
  replace B9 := Lib.hid (B9.out.next hb)
  replace RD := Lib.hid (RD.out.next hb)
  replace BB := Lib.hid (Below.andThen BB.out hb)
  clear hb
  clear a0 a1 a2 la
  clear C7 C8 C9 C10
  have a0 := RC.out.cell 0
  have a1 := RC.out.cell 1
  have a2 := RC.out.cell 2
  have la := RC.out.lt
  simp only [List.getElem?_cons_zero, List.getElem?_cons_succ] at a0 a1 a2
  go_wp2_with fail
  have CI0 := Lib.hid (show Calls Tryd.prog 23 #[.slice _ 3 _, .slice (some ⟨wn.heap.size, 0, none⟩) 3 3] (wn.alloc (.cells #[.int .i64 (-90), .int .i64 (90), .int .i64 (0)] 3)) _ from ints_is S1.out (by decide))
  with_reducible refine Calls.mono (CI0.out) ?_
  rintro e wn ⟨rfl, hb⟩
  replace S2 := Lib.hid (S2.out.next hb)
  replace S3 := Lib.hid (S3.out.next hb)
  replace S4 := Lib.hid (S4.out.next hb)
  replace B3 := Lib.hid (B3.out.next hb)
  replace RC := Lib.hid (RC.out.next hb)
  replace B9 := Lib.hid (B9.out.next hb)
  replace RD := Lib.hid (RD.out.next hb)
  replace BB := Lib.hid (Below.andThen BB.out hb)
  clear hb
  clear a0 a1 a2 la
  go_wp2_with fail
  have CI1 := Lib.hid (show Calls Tryd.prog 23 #[.slice _ 3 _, .slice (some ⟨wn.heap.size, 0, none⟩) 3 3] (wn.alloc (.cells #[.int .i64 (-90), .int .i64 (90), .int .i64 (0)] 3)) _ from ints_is S2.out (by decide))
  with_reducible refine Calls.mono (CI1.out) ?_
  rintro e wn ⟨rfl, hb⟩
  replace S3 := Lib.hid (S3.out.next hb)
  replace S4 := Lib.hid (S4.out.next hb)
  replace B3 := Lib.hid (B3.out.next hb)
  replace RC := Lib.hid (RC.out.next hb)
  replace B9 := Lib.hid (B9.out.next hb)
  replace RD := Lib.hid (RD.out.next hb)
  replace BB := Lib.hid (Below.andThen BB.out hb)
  clear hb
  go_wp2_with fail
  have CI2 := Lib.hid (show Calls Tryd.prog 23 #[.slice _ 3 _, .slice (some ⟨wn.heap.size, 0, none⟩) 3 3] (wn.alloc (.cells #[.int .i64 (30), .int .i64 (-30), .int .i64 (0)] 3)) _ from ints_is S3.out (by decide))
  with_reducible refine Calls.mono (CI2.out) ?_
  rintro e wn ⟨rfl, hb⟩
  replace S4 := Lib.hid (S4.out.next hb)
  replace B3 := Lib.hid (B3.out.next hb)
  replace RC := Lib.hid (RC.out.next hb)
  replace B9 := Lib.hid (B9.out.next hb)
  replace RD := Lib.hid (RD.out.next hb)
  replace BB := Lib.hid (Below.andThen BB.out hb)
  clear hb
  go_wp2_with fail
  have CI3 := Lib.hid (show Calls Tryd.prog 23 #[.slice _ 3 _, .slice (some ⟨wn.heap.size, 0, none⟩) 3 3] (wn.alloc (.cells #[.int .i64 (-60), .int .i64 (60), .int .i64 (0)] 3)) _ from ints_is S4.out (by decide))
  with_reducible refine Calls.mono (CI3.out) ?_
  rintro e wn ⟨rfl, hb⟩
  replace B3 := Lib.hid (B3.out.next hb)
  replace RC := Lib.hid (RC.out.next hb)
  replace B9 := Lib.hid (B9.out.next hb)
  replace RD := Lib.hid (RD.out.next hb)
  replace BB := Lib.hid (Below.andThen BB.out hb)
  clear hb
  have a0 := RD.out.cell 0
  have a1 := RD.out.cell 1
  have a2 := RD.out.cell 2
  have la := RD.out.lt
  simp only [List.getElem?_cons_zero, List.getElem?_cons_succ] at a0 a1 a2
  go_wp2_with fail
  with_reducible refine Calls.mono (C11.out _ _ _ B9.out) ?_
  rintro e wn ⟨rfl, hb⟩
  replace B3 := Lib.hid (B3.out.next hb)
  replace RC := Lib.hid (RC.out.next hb)
  replace BB := Lib.hid (Below.andThen BB.out hb)
  clear hb
  clear a0 a1 a2 la
  go_wp2_with fail
  with_reducible refine Calls.mono (C12.out _) ?_
  rintro e wn ⟨rfl, hb⟩
  replace B3 := Lib.hid (B3.out.next hb)
  replace RC := Lib.hid (RC.out.next hb)
  replace BB := Lib.hid (Below.andThen BB.out hb)
  clear hb
  obtain ⟨bz, oz, ez, -, -⟩ := B3.out.2.2.2.2.cells (by decide)
  subst ez
  obtain ⟨lz, z0, z1, z2, z3, z4, z5, z6⟩ := sl_at B3.out.2.2.2.2 (k := 1) (by decide)
  simp only [at', List.getD_cons_succ, List.getD_cons_zero] at z0 z1 z2 z3 z4 z5 z6
  have a0 := RC.out.cell 0
  have a1 := RC.out.cell 1
  have a2 := RC.out.cell 2
  have la := RC.out.lt
  simp only [List.getElem?_cons_zero, List.getElem?_cons_succ] at a0 a1 a2
  go_wp2_with fail
  go_ret
  exact ⟨rfl, BB.out⟩
end Bk
end Go.Proofs.YtnhlhoijajhcjaaDoor
set_option linter.unusedVariables false
set_option linter.unusedSimpArgs false
set_option linter.unnecessarySimpa false
namespace Go.Proofs.YtnhlhoijajhcjaaDoor
open Go.RowKit Go.ChangeShapes Go.WideShapes Go.ChangeAt
theorem own : ownKnob Tryd.prog.godebug = none := by kernel_rfl
theorem laidOut : laidOutB Tryd.prog = true := by kernel_rfl
/-- A world for the witness. -/
noncomputable def laidWorld (os : Os) : World := World.holding Tryd.prog os ⟨#[], #[], []⟩
namespace Bk
open Sq
section
variable {H : Type} {enc : TypeId × Value → H} {P : Program} {W : World} {base b0 : Nat} {spare : Nat → Bool} {held : Bool}
theorem open_elS {α : Type} [Inhabited α] (E : El α) (fit : α → Prop) {t e : TypeId} {l : List Leaf} (n : Nat) {fuel : Nat} {cs : List Value} {x : DataW H × List MemPlace} (ht : P.underlying t = some (.slice e)) (hl : leafsOf P n e = some l) (hc : P.cellsOf e = E.k)
    (hE : ∀ cs, Fits l cs → ∃ x, cs = E.f x ∧ fit x) (h : DataW.trod enc P W base spare held fuel t cs = some x) :
    ∃ (o : Option Addr) (N c : Nat) (L : List α), cs = [.slice o N c] ∧ L.length = N ∧ N ≤ c ∧ c ≤ maxLen ∧ (o = none → c = 0) ∧ (∀ x ∈ L, fit x) ∧ Sl E W o L := by
  rcases Go.Deep.open_slice ht h with ⟨h1, _⟩ | ⟨a, len, cap, m, k, D, Pl, h1, _, h2, h3, h4, _, h5⟩
  · exact ⟨none, 0, 0, [], h1, rfl, Nat.le_refl _, Nat.zero_le _, fun _ => rfl, fun x hx => (by cases hx), .inl rfl⟩
  · have hlm : len ≤ m := by rw [h4]; split <;> omega
    have h6 : ∀ i, ∃ y : α, i < m → W.cells? base (a.add (i * E.k)) E.k = some (E.f y) ∧ fit y := fun i => by
      by_cases hi : i < m
      · obtain ⟨cs', x1, x2⟩ := h5 i hi
        obtain ⟨y, rfl, hy⟩ := hE _ (fits_of_trod n e l _ _ _ hl x2)
        rw [hc] at x1
        exact ⟨y, fun _ => ⟨x1, hy⟩⟩
      · exact ⟨default, fun h => absurd h hi⟩
    obtain ⟨L, hL⟩ := Classical.skolem.1 h6
    refine ⟨some a, len, cap, (List.range len).map L, h1, by simp, h2, h3, fun h => (by cases h), fun x hx => ?_, ?_⟩
    · obtain ⟨i, hi, rfl⟩ := List.mem_map.1 hx
      exact (hL i (by have := List.mem_range.1 hi; omega)).2
    · by_cases h0 : len = 0
      · subst h0
        exact .inl rfl
      · have cell : ∀ i, i < len → ∀ (j : Nat) v, (E.f (L i))[j]? = some v → W.cell? (a.add (i * E.k + j)) = some v := fun i hi j v hv => by
          obtain ⟨x1, _⟩ := hL i (by omega)
          have hj : j < (E.f (L i)).length := (List.getElem?_eq_some_iff.1 hv).1
          have := (World.cells?_some x1).2.2 j (by rw [E.len] at hj; exact hj)
          rw [addr_add_add] at this
          rw [this]
          exact hv
        obtain ⟨v0, hv0⟩ : ∃ v, (E.f (L 0))[0]? = some v := ⟨_, List.getElem?_eq_getElem (by rw [E.len]; exact E.pos)⟩
        have c0 := cell 0 (by omega) 0 v0 hv0
        have hs : a.spot = none := by
          have := World.cell?_spot c0
          simpa [Addr.add] using this
        obtain ⟨b, off, sp⟩ := a
        dsimp only at hs
        subst hs
        refine .inr ⟨b, off, rfl, ?_, fun j x hx i v hv => ?_⟩
        · have := cell_lies c0
          simpa [Addr.add] using this
        · rw [List.getElem?_map] at hx
          by_cases hj : j < len
          · rw [List.getElem?_range hj] at hx
            cases hx
            have := cell j hj i v hv
            rw [add_lit] at this
            rw [Nat.add_assoc]
            exact this
          · rw [List.getElem?_eq_none (by simp; omega)] at hx
            cases hx
instance : Inhabited Po := ⟨p0⟩
instance : Inhabited F5 := ⟨⟨0, 0, 0, 0, 0⟩⟩
theorem po_fits (cs : List Value) (h : Fits [some (some .i64), some (some .i64), some (some .i64), some (some .i64), some (some .i64), some (some .i64), some (some .i64)] cs) : ∃ p : Po, cs = poE.f p ∧ p.fit := by
  obtain ⟨_, _, h0, ⟨a, rfl, ha⟩, _, _, rfl, ⟨b, rfl, hb⟩, _, _, rfl, ⟨c, rfl, hc⟩, _, _, rfl, ⟨d, rfl, hd⟩, _, _, rfl, ⟨e, rfl, he⟩, _, _, rfl, ⟨f, rfl, hf⟩, _, _, rfl, ⟨g, rfl, hg⟩, h6⟩ := h
  cases h6
  exact ⟨⟨a, b, c, d, e, f, g⟩, h0, bd_i64 ha, bd_i64 hb, bd_i64 hc, bd_i64 hd, bd_i64 he, bd_i64 hf, bd_i64 hg⟩
theorem f5_fits (cs : List Value) (h : Fits [some (some .i64), some (some .i64), some (some .i64), some (some .i64), some (some .i64)] cs) : ∃ p : F5, cs = f5E.f p ∧ p.fit := by
  obtain ⟨_, _, h0, ⟨a, rfl, ha⟩, _, _, rfl, ⟨b, rfl, hb⟩, _, _, rfl, ⟨c, rfl, hc⟩, _, _, rfl, ⟨d, rfl, hd⟩, _, _, rfl, ⟨e, rfl, he⟩, h6⟩ := h
  cases h6
  exact ⟨⟨a, b, c, d, e⟩, h0, bd_i64 ha, bd_i64 hb, bd_i64 hc, bd_i64 hd, bd_i64 he⟩
end
/-- five numbers, many times -/
def Fv (w : World) (o : Option Addr) (n : Nat) (L : List F5) : Prop := L.length = n ∧ n ≤ 9223372036854775807 ∧ (∀ x ∈ L, x.fit) ∧ Sl f5E w o L
theorem Fv.next {w w' : World} {o : Option Addr} {n : Nat} {L : List F5} (h : Fv w o n L) (hb : Below w.heap.size w w') : Fv w' o n L := ⟨h.1, h.2.1, h.2.2.1, h.2.2.2.next hb⟩
end Bk
section
variable {H : Type} {enc : TypeId × Value → H} {W : World} {base b0 : Nat} {spare : Nat → Bool} {held : Bool}
set_option maxRecDepth 100000 in
theorem open_fives {r : Reach} {v : Value} {d : DataW H} {ps : List MemPlace} (hval : Value.okWide Tryd.prog W r b0 25 v) (hd : DataW.Trod enc Tryd.prog W base spare held 25 v d ps) :
    ∃ (o : Option Addr) (N c : Nat) (L : List Bk.F5), v = .slice o N c ∧ Bk.Fv W o N L := by
  obtain ⟨o, len, cap, rfl⟩ := okWide_slice Tryd.underlying25 hval
  obtain ⟨fuel, hf⟩ := hd
  obtain ⟨o', N, c, L, h1, h2, h3, h4, h5, h6, h7⟩ := Bk.open_elS Bk.f5E Bk.F5.fit 5 Tryd.underlying25 (by kernel_rfl) (by kernel_rfl) Bk.f5_fits hf
  simp [Value.cells] at h1
  obtain ⟨rfl, rfl, rfl⟩ := h1
  exact ⟨o, len, cap, L, rfl, h2, (by unfold maxLen at h4; omega), h6, h7⟩
theorem take_one' {cs : List Value} {j : Nat} {v : Value} (h : (cs.drop j).take 1 = [v]) : cs[j]? = some v := by
  have : ((cs.drop j).take 1)[0]? = some v := by rw [h]; rfl
  simpa [List.getElem?_take, List.getElem?_drop] using this
theorem open_book {P : Program} {r : Reach} {t pe : TypeId} {f0 f1 f2 : Field} {v : Value} {d : DataW H} {ps : List MemPlace} (ht : P.underlying t = some (.struct #[f0, f1, f2])) (hc : P.cellsOf t = 3) (ho : [f0.offset, f1.offset, f2.offset] = [0, 1, 2]) (hz : [f0, f1, f2].all (fun f => P.cellsOf f.type == 1) = true)
    (h0 : P.underlying f0.type = some (.int .i64)) (h1 : P.underlying f1.type = some (.slice pe)) (h2 : P.underlying f2.type = some (.int .i64)) (hl : leafsOf P 5 pe = some [some (some .i64), some (some .i64), some (some .i64), some (some .i64), some (some .i64), some (some .i64), some (some .i64)]) (hk : P.cellsOf pe = 7)
    (hval : Value.okWide P W r b0 t v) (hd : DataW.Trod enc P W base spare held t v d ps) :
    ∃ (acc cl : Int) (o : Option Addr) (N c : Nat) (L : List Bk.Po), v = .agg #[.int .i64 acc, .slice o N c, .int .i64 cl] ∧ Bk.inI acc ∧ Bk.inI cl ∧ (∀ p ∈ L, p.fit) ∧ Bk.BkW W o N c L := by
  obtain ⟨fuel, hf⟩ := hd
  have hv : ∃ cs : Array Value, v = .agg cs := by
    unfold Value.okWide at hval
    rw [ht] at hval
    obtain ⟨cs, e, _⟩ := hval
    exact ⟨cs, e⟩
  obtain ⟨cs, rfl⟩ := hv
  obtain ⟨xs, n, _, _, hlen, hxl, hg⟩ := DataW.trod_struct ht hf
  rw [hc] at hlen
  simp only [List.cons.injEq, and_true] at ho
  obtain ⟨o0, o1, o2⟩ := ho
  simp only [List.all_cons, List.all_nil, Bool.and_true, Bool.and_eq_true, beq_iff_eq] at hz
  obtain ⟨z0, z1, z2⟩ := hz
  have hx : ∀ i, i < 3 → ∃ y, xs[i]? = some y := fun i hi => ⟨_, List.getElem?_eq_getElem (by rw [hxl]; exact hi)⟩
  obtain ⟨y0, e0⟩ := hx 0 (by omega)
  obtain ⟨y1, e1⟩ := hx 1 (by omega)
  obtain ⟨y2, e2⟩ := hx 2 (by omega)
  have g0 := hg 0 f0 rfl
  have g1 := hg 1 f1 rfl
  have g2 := hg 2 f2 rfl
  rw [o0, z0, e0] at g0
  rw [o1, z1, e1] at g1
  rw [o2, z2, e2] at g2
  obtain ⟨v0, q0, _, w0⟩ := DataW.trod_int h0 g0
  obtain ⟨v2, q2, _, w2⟩ := DataW.trod_int h2 g2
  obtain ⟨o, N, c, L, q1, l1, l2, l3, l4, l5, l6⟩ := Bk.open_elS Bk.poE Bk.Po.fit 5 h1 hl hk Bk.po_fits g1
  have k0 := take_one' q0
  have k1 := take_one' q1
  have k2 := take_one' q2
  refine ⟨v0, v2, o, N, c, L, ?_, bd_i64 w0, bd_i64 w2, l5, l1, l2, (by unfold maxLen at l3; omega), l4, l6⟩
  congr 1
  obtain ⟨cs⟩ := cs
  have hlen' : cs.length = 3 := hlen
  have k0' : cs[0]? = some (.int .i64 v0) := k0
  have k1' : cs[1]? = some (.slice o N c) := k1
  have k2' : cs[2]? = some (.int .i64 v2) := k2
  match cs, hlen' with
  | [a0, a1, a2], _ => simp_all
end
end Go.Proofs.YtnhlhoijajhcjaaDoor
set_option linter.unusedVariables false
set_option linter.unusedSimpArgs false
set_option linter.unnecessarySimpa false
namespace Go.Proofs.YtnhlhoijajhcjaaDoor
open Go.RowKit
namespace Bk
def sumK (f : Nat → Int) : Nat → Int
  | 0 => 0
  | n + 1 => sumK f n + f n
theorem sumK_congr {f g : Nat → Int} {n : Nat} (h : ∀ k, k < n → f k = g k) : sumK f n = sumK g n := by
  induction n with
  | zero => rfl
  | succ n ih => rw [sumK, sumK, ih (fun k hk => h k (by omega)), h n (by omega)]
theorem sumK_zero {f : Nat → Int} {n : Nat} (h : ∀ k, k < n → f k = 0) : sumK f n = 0 := by
  induction n with
  | zero => rfl
  | succ n ih => rw [sumK, ih (fun k hk => h k (by omega)), h n (by omega)]; rfl
theorem sumK_add (f g : Nat → Int) (n : Nat) : sumK (fun k => f k + g k) n = sumK f n + sumK g n := by
  induction n with
  | zero => rfl
  | succ n ih => rw [sumK, sumK, sumK, ih]; omega
/-- one term alone differs -/
theorem sumK_one {f g : Nat → Int} {n i : Nat} {d : Int} (hi : i < n) (h : ∀ k, k < n → k ≠ i → g k = f k) (hd : g i = f i + d) : sumK g n = sumK f n + d := by
  induction n with
  | zero => omega
  | succ n ih =>
    rw [sumK, sumK]
    by_cases e : i = n
    · subst e
      rw [hd, sumK_congr (fun k hk => h k (by omega) (by omega))]
      omega
    · rw [ih (by omega) (fun k hk => h k (by omega)), h n (by omega) (fun e2 => e e2.symm)]
      omega
theorem sumK_comm (f : Nat → Nat → Int) (n m : Nat) : sumK (fun k => sumK (f k) m) n = sumK (fun j => sumK (fun k => f k j) n) m := by
  induction n with
  | zero =>
    rw [sumK]
    exact (sumK_zero fun k _ => rfl).symm
  | succ n ih =>
    rw [sumK, ih, ← sumK_add]
    rfl
/-- a single term -/
theorem sumK_pick {n i : Nat} {x : Int} (hi : i < n) : sumK (fun k => if k = i then x else 0) n = x := by
  rw [sumK_one (f := fun _ => 0) (i := i) (d := x) hi (fun k _ hk => if_neg hk) (by rw [if_pos rfl]; omega), sumK_zero (fun _ _ => rfl)]
  omega
theorem sumP_idx (c : Nat × Po → Bool) (l : List Po) (t : Nat) : ∀ n, sumP ((idx l n).filter c) t = sumK (fun k => if c (k, at' l k) = true then eff (at' l k) t else 0) n
  | 0 => rfl
  | n + 1 => by
    rw [show idx l (n + 1) = idx l n ++ [(n, at' l n)] from rfl, List.filter_append, sumK, ← sumP_idx c l t n]
    by_cases h : c (n, at' l n) = true
    · rw [List.filter_cons_of_pos h, List.filter_nil, sumP_snoc, if_pos h]
    · rw [List.filter_cons_of_neg h, List.filter_nil, List.append_nil, if_neg h]
      omega
theorem sT_sum (l : List Po) (m : Int) (t : Nat) : sT l m t = sumK (fun k => if (at' l k).day.tdiv 30 = m then eff (at' l k) t else 0) l.length := by
  unfold sT flt
  rw [sumP_idx]
  exact sumK_congr fun k _ => by simp [toN]
theorem oT_sum (l : List Po) (s : Int) (t : Nat) : oT l s t = sumK (fun k => if rev l k = false ∧ (at' l k).kind = 1 ∧ (at' l k).sub = s then eff (at' l k) t else 0) l.length := by
  unfold oT alive flt
  rw [List.filter_filter, sumP_idx]
  exact sumK_congr fun k _ => by simp [feeT]
/-- what all postings do -/
def allT (l : List Po) (t : Nat) : Int := sumK (fun k => eff (at' l k) t) l.length
theorem len_snoc (l : List Po) (p : Po) : (l ++ [p]).length = l.length + 1 := by rw [List.length_append]; rfl
theorem allT_snoc (l : List Po) (p : Po) (t : Nat) : allT (l ++ [p]) t = allT l t + eff p t := by
  unfold allT
  rw [len_snoc, sumK, at_last, sumK_congr (fun k hk => by rw [at_left hk])]
theorem sT_snoc (l : List Po) (p : Po) (m : Int) (t : Nat) : sT (l ++ [p]) m t = sT l m t + if p.day.tdiv 30 = m then eff p t else 0 := by
  rw [sT_sum, sT_sum, len_snoc, sumK, at_last, sumK_congr (fun k hk => by rw [at_left hk])]
theorem vd_init {acc cl : Int} {l : List Po} {p : Po} (h : Vd acc (l ++ [p]) cl) : Vd acc l cl := by
  obtain ⟨⟨h1, h2, h3, h4, h5⟩, h6⟩ := h
  rw [len_snoc] at h5 h6
  refine ⟨⟨h1, h2, h3, h4, by omega⟩, fun i hi => ?_⟩
  obtain ⟨g1, g2, g3⟩ := h6 i (by omega)
  rw [at_left hi] at g1 g2 g3
  refine ⟨g1, fun h0 => by have := g2 h0; rwa [at_left (by omega)] at this, fun hk => ?_⟩
  have g4 := g3 hk
  unfold TbP at g4 ⊢
  rw [at_left hi, List.take_append_of_le_length (by omega)] at g4
  have hof : (at' l i).of.toNat < l.length := by
    have := g4.1
    omega
  rw [at_left hof] at g4
  exact g4
theorem last_ok {acc cl : Int} {l : List Po} {p : Po} (h : Vd acc (l ++ [p]) cl) : FmP acc p ∧ (p.kind = 2 → ∃ i : Nat, p.of = i ∧ i < l.length ∧ (at' l i).kind = 1 ∧ rev l i = false ∧ (at' l i).sub = p.sub ∧ p.deb = (at' l i).cre ∧ p.cre = (at' l i).deb ∧ p.amt = (at' l i).amt) := by
  obtain ⟨g1, g2, g3⟩ := h.2 l.length (by rw [len_snoc]; exact Nat.lt_succ_self _)
  rw [at_last] at g1 g2 g3
  refine ⟨g1, fun hk => ?_⟩
  have g4 := g3 hk
  unfold TbP at g4
  rw [at_last, List.take_append_of_le_length (Nat.le_refl _), List.take_length] at g4
  have hof : 0 ≤ p.of := by rcases g1.1 with ⟨e, _⟩ | ⟨_, e, _⟩ <;> omega
  obtain ⟨i, hi⟩ : ∃ i : Nat, p.of = i := ⟨p.of.toNat, by omega⟩
  rw [hi, Int.toNat_natCast] at g4
  have hil : i < l.length := by have := g4.1; omega
  rw [at_left hil] at g4
  exact ⟨i, hi, hil, g4.2.1, g4.2.2.1, g4.2.2.2.1, g4.2.2.2.2⟩
theorem rev_snoc (l : List Po) (p : Po) (i : Int) : rev (l ++ [p]) i = (rev l i || decide (p.kind = 2 ∧ p.of = i)) := by
  rw [rev_append]
  unfold rev
  simp
theorem rev_none' {acc cl : Int} {l : List Po} (h : Vd acc l cl) : rev l l.length = false := by
  cases hr : rev l l.length with
  | false => rfl
  | true =>
    obtain ⟨j, h1, h2, h3⟩ := rev_iff.1 hr
    have := ((h.2 j h1).2.2 h2).1
    omega
theorem oT_fee {acc cl : Int} {l : List Po} {p : Po} (h : Vd acc (l ++ [p]) cl) (hk : p.kind = 1) (s : Int) (t : Nat) : oT (l ++ [p]) s t = oT l s t + if p.sub = s then eff p t else 0 := by
  have hr : ∀ i : Int, rev (l ++ [p]) i = rev l i := fun i => by rw [rev_snoc]; simp [hk]
  rw [oT_sum, oT_sum, len_snoc, sumK, at_last]
  rw [sumK_congr (g := fun k => if rev l k = false ∧ (at' l k).kind = 1 ∧ (at' l k).sub = s then eff (at' l k) t else 0) (fun k hk => by rw [at_left hk, hr])]
  rw [hr, rev_none' (vd_init h)]
  simp [hk]
theorem oT_back {acc cl : Int} {l : List Po} {p : Po} (h : Vd acc (l ++ [p]) cl) (hk : p.kind = 2) {i : Nat} (hi : p.of = i) (s : Int) (t : Nat) : oT (l ++ [p]) s t = oT l s t - if (at' l i).sub = s then eff (at' l i) t else 0 := by
  obtain ⟨i', e, hil, k1, hrv, -⟩ := (last_ok h).2 hk
  obtain rfl : i' = i := by omega
  have hr : ∀ j : Int, rev (l ++ [p]) j = (rev l j || decide ((i' : Int) = j)) := fun j => by rw [rev_snoc]; simp [hk, e]
  rw [oT_sum, oT_sum, len_snoc, sumK, at_last]
  rw [if_neg (show ¬ (rev (l ++ [p]) l.length = false ∧ p.kind = 1 ∧ p.sub = s) from fun g => by omega)]
  rw [sumK_one (f := fun k => if rev l k = false ∧ (at' l k).kind = 1 ∧ (at' l k).sub = s then eff (at' l k) t else 0) (i := i') (d := - if (at' l i').sub = s then eff (at' l i') t else 0) hil ?_ ?_]
  · omega
  · intro k hk2 hne
    rw [at_left hk2, hr, decide_eq_false (by omega), Bool.or_false]
  · rw [at_left hil, hr, decide_eq_true rfl, Bool.or_true, if_neg (fun g => by cases g.1)]
    by_cases hs : (at' l i').sub = s
    · rw [if_pos hs, if_pos ⟨hrv, k1, hs⟩]
      omega
    · rw [if_neg hs, if_neg (fun g => hs g.2.2)]
      rfl
/-- the two sides of a posting -/
theorem eff_swap {p q : Po} (h1 : p.deb = q.cre) (h2 : p.cre = q.deb) (h3 : p.amt = q.amt) (t : Nat) : eff p t = - eff q t := by
  unfold eff
  rw [h1, h2, h3]
  omega
theorem eff_sum {acc : Int} {A : Nat} (hA : acc = A) {p : Po} (h : FmP acc p) : sumK (eff p) A = 0 := by
  obtain ⟨_, _, ⟨d1, d2⟩, ⟨c1, c2⟩, hne, _⟩ := h
  obtain ⟨c, hc⟩ : ∃ c : Nat, p.cre = c := ⟨p.cre.toNat, by omega⟩
  obtain ⟨d, hd⟩ : ∃ d : Nat, p.deb = d := ⟨p.deb.toNat, by omega⟩
  have e : sumK (eff p) A = sumK (fun t => (if t = c then p.amt else 0) + (if t = d then - p.amt else 0)) A := sumK_congr fun t _ => by
    unfold eff
    rw [hc, hd]
    by_cases e1 : t = c <;> by_cases e2 : t = d <;> simp [e1, e2] <;> omega
  rw [e, sumK_add, sumK_pick (by omega), sumK_pick (by omega)]
  omega
theorem stmt_zero {acc : Int} {A : Nat} (hA : acc = A) {l : List Po} (hf : ∀ k, k < l.length → FmP acc (at' l k)) (m : Int) : sumK (sT l m) A = 0 := by
  rw [sumK_congr (fun t _ => sT_sum l m t)]
  rw [sumK_comm]
  refine sumK_zero fun k hk => ?_
  by_cases h : (at' l k).day.tdiv 30 = m
  · rw [sumK_congr (g := eff (at' l k)) (fun t _ => if_pos h)]
    exact eff_sum hA (hf k hk)
  · exact sumK_zero fun t _ => if_neg h
theorem owed_zero {acc : Int} {A : Nat} (hA : acc = A) {l : List Po} (hf : ∀ k, k < l.length → FmP acc (at' l k)) (s : Int) : sumK (oT l s) A = 0 := by
  rw [sumK_congr (fun t _ => oT_sum l s t)]
  rw [sumK_comm]
  refine sumK_zero fun k hk => ?_
  by_cases h : rev l k = false ∧ (at' l k).kind = 1 ∧ (at' l k).sub = s
  · rw [sumK_congr (g := eff (at' l k)) (fun t _ => if_pos h)]
    exact eff_sum hA (hf k hk)
  · exact sumK_zero fun t _ => if_neg h
theorem stmt_all {acc : Int} {l : List Po} (hf : ∀ k, k < l.length → FmP acc (at' l k)) (t : Nat) : sumK (fun m => sT l m t) 12 = allT l t := by
  rw [sumK_congr (fun m _ => sT_sum l m t), sumK_comm]
  unfold allT
  refine sumK_congr fun k hk => ?_
  obtain ⟨h1, h2⟩ := (hf k hk).2.1
  obtain ⟨d, hd⟩ : ∃ d : Nat, (at' l k).day = d := ⟨(at' l k).day.toNat, by omega⟩
  have e : (at' l k).day.tdiv 30 = ((d / 30 : Nat) : Int) := by rw [hd]; rfl
  rw [e, sumK_congr (g := fun m => if m = d / 30 then eff (at' l k) t else 0) (fun m _ => by
    by_cases h : m = d / 30
    · rw [if_pos h, if_pos (by rw [h])]
    · rw [if_neg h, if_neg (by omega)])]
  exact sumK_pick (by omega)
theorem owed_all {acc cl : Int} (l : List Po) (h : Vd acc l cl) (hs : ∀ p ∈ l, 0 ≤ p.sub ∧ p.sub < 6) (t : Nat) : sumK (fun s => oT l s t) 6 = allT l t := by
  have pk : ∀ (x : Int) (u : Int), 0 ≤ u → u < 6 → sumK (fun s => if u = (s : Int) then x else 0) 6 = x := fun x u h1 h2 => by
    rw [sumK_congr (g := fun s => if s = u.toNat then x else 0) (fun s _ => by
      by_cases e : s = u.toNat
      · rw [if_pos e, if_pos (by omega)]
      · rw [if_neg e, if_neg (by omega)])]
    exact sumK_pick (by omega)
  have key : ∀ (n : Nat) (l : List Po), l.length = n → Vd acc l cl → (∀ p ∈ l, 0 ≤ p.sub ∧ p.sub < 6) → sumK (fun s => oT l s t) 6 = allT l t := by
    intro n
    induction n with
    | zero =>
      intro l hl _ _
      have : l = [] := List.eq_nil_of_length_eq_zero hl
      subst this
      rfl
    | succ n ih =>
      intro l hl hv hs
      obtain ⟨l0, p, rfl⟩ : ∃ l0 p, l = l0 ++ [p] := ⟨l.dropLast, l.getLast (fun e => by rw [e] at hl; cases hl), (List.dropLast_concat_getLast _).symm⟩
      rw [len_snoc] at hl
      have h0 := ih l0 (by omega) (vd_init hv) (fun q hq => hs q (List.mem_append.2 (.inl hq)))
      obtain ⟨hf, hb⟩ := last_ok hv
      have hsp := hs p (List.mem_append.2 (.inr (List.mem_singleton.2 rfl)))
      rw [allT_snoc, ← h0]
      by_cases hk : p.kind = 1
      · rw [sumK_congr (fun s _ => oT_fee hv hk s t), sumK_add, pk _ _ hsp.1 hsp.2]
      · have hk2 : p.kind = 2 := by rcases hf.1 with ⟨e, _⟩ | ⟨e, _⟩ <;> omega
        obtain ⟨i, e, hil, k1, hrv, hsub, q1, q2, q3⟩ := hb hk2
        rw [sumK_congr (g := fun s => oT l0 s t + if (at' l0 i).sub = (s : Int) then - eff (at' l0 i) t else 0) (fun s _ => by
          rw [oT_back hv hk2 e]
          by_cases h : (at' l0 i).sub = (s : Int)
          · rw [if_pos h, if_pos h]; omega
          · rw [if_neg h, if_neg h]; omega), sumK_add, pk _ _ (by rw [hsub]; exact hsp.1) (by rw [hsub]; exact hsp.2), eff_swap q1 q2 q3]
  exact key l.length l rfl h hs
end Bk
end Go.Proofs.YtnhlhoijajhcjaaDoor
set_option linter.unusedVariables false
set_option linter.unusedSimpArgs false
set_option linter.unnecessarySimpa false
namespace Go.Proofs.YtnhlhoijajhcjaaDoor
open Go.RowKit
namespace Bk
open Sq
/-- from w to w' old blocks change in S alone -/
structure Ex (S : Nat → Prop) (w w' : World) : Prop where
  size : w.heap.size ≤ w'.heap.size
  block : ∀ j, j < w.heap.size → ¬ S j → w'.heap[j]? = w.heap[j]?
section
variable {S : Nat → Prop} {w w' v : World}
theorem Ex.refl (S : Nat → Prop) (w : World) : Ex S w w := ⟨Nat.le_refl _, fun _ _ _ => rfl⟩
theorem Ex.below (h : Ex S v w) (hb : Below w.heap.size w w') : Ex S v w' := ⟨Nat.le_trans h.size hb.size, fun j h1 h2 => (hb.block j (Nat.lt_of_lt_of_le h1 h.size)).trans (h.block j h1 h2)⟩
theorem Ex.set (h : Ex S v w) {b : Nat} (hb : S b) (i : Nat) (x : Value) : Ex S v (w.setCell ⟨b, i, none⟩ x) := ⟨by simpa using h.size, fun j h1 h2 => (Below.heap_setCell _ _ _ _ (fun e => h2 (by have e' : j = b := e; rw [e']; exact hb))).trans (h.block j h1 h2)⟩
theorem Ex.next (h : Ex S v w) (hb : Below w.heap.size w w') : Ex S v w' := h.below hb
theorem Ex.trans {u : World} (h : Ex S v w) (k : Ex S w u) : Ex S v u := ⟨Nat.le_trans h.size k.size, fun j h1 h2 => (k.block j (Nat.lt_of_lt_of_le h1 h.size) h2).trans (h.block j h1 h2)⟩
theorem cell_of_block {b off : Nat} (h : w'.heap[b]? = w.heap[b]?) : w'.cell? ⟨b, off, none⟩ = w.cell? ⟨b, off, none⟩ := by
  unfold World.cell?
  simp only [h]
theorem row_ex {b : Nat} {t : TypeId} {C : List Value} (h : Row w b t C) (hx : Ex S w w') (hb : ¬ S b) : Row w' b t C := (hx.block b h.lt hb).trans h
theorem sl_ex {α : Type} {E : El α} {o : Option Addr} {l : List α} {n : Nat} (h : Sl E w o l) (h0 : Sl E v o l) (hn : v.heap.size ≤ n) (hS : ∀ j, j < n → ¬ S j) (hx : Ex S w w') : Sl E w' o l := by
  rcases h with rfl | ⟨b, off, rfl, hl, hc⟩
  · exact .inl rfl
  · rcases h0 with rfl | ⟨b', off', e, hb, _⟩
    · exact .inl rfl
    · cases e
      exact .inr ⟨b, off, rfl, Nat.lt_of_lt_of_le hl hx.size, fun j x hx' i u hu => (cell_of_block (hx.block b hl (hS b (by omega)))).trans (hc j x hx' i u hu)⟩
theorem BkW.ex {o : Option Addr} {N c n : Nat} {l : List Po} (h : BkW w o N c l) (h0 : BkW v o N c l) (hn : v.heap.size ≤ n) (hS : ∀ j, j < n → ¬ S j) (hx : Ex S w w') : BkW w' o N c l := ⟨h.1, h.2.1, h.2.2.1, h.2.2.2.1, sl_ex h.2.2.2.2 h0.2.2.2.2 hn hS hx⟩
theorem own_ex {α : Type} {E : El α} {e : TypeId} {B0 : Nat} {v : Value} {l : List α} (h : Sq.Own E e w B0 v l) (hS : ∀ j, B0 ≤ j → ¬ S j) (hx : Ex S w w') : Sq.Own E e w' B0 v l := by
  refine ⟨h.1, ?_⟩
  rcases h.2 with h1 | ⟨g, cap, cur, e, hg, hb, h2⟩
  · exact .inl h1
  · exact .inr ⟨g, cap, cur, e, hg, (hx.block g (Array.getElem?_eq_some_iff.1 hb).1 (hS g hg)).trans hb, h2⟩
theorem InW.ex {B0 : Nat} {o : Option Addr} {N c : Nat} {l : List Int} (h : InW w B0 o N c l) (hS : ∀ j, B0 ≤ j → ¬ S j) (hx : Ex S w w') : InW w' B0 o N c l := ⟨h.1, own_ex h.2 hS hx⟩
theorem InW.at {B0 : Nat} {o : Option Addr} {N c : Nat} {l : List Int} (h : InW w B0 o N c l) {k : Nat} {x : Int} (hk : l[k]? = some x) : ∃ b, o = some ⟨b, 0, none⟩ ∧ b < w.heap.size ∧ B0 ≤ b ∧ w.cell? ⟨b, k, none⟩ = some (.int .i64 x) ∧ w.frozen? ⟨b, k, none⟩ = false := by
  have hs := h.2.sl
  have hn : 0 < l.length := by have := (List.getElem?_eq_some_iff.1 hk).1; omega
  rcases h.2.2 with ⟨h1, h2⟩ | ⟨g, cap, cur, h1, hg, hb, _⟩
  · omega
  · obtain ⟨rfl, -, -⟩ := Value.slice.inj h1
    obtain ⟨q1, q2⟩ := int_at hs hk
    rw [Nat.zero_add] at q2
    exact ⟨g, rfl, q1, hg, q2, (show Row w g _ cur.toList from hb).frozen k⟩
end
theorem sumK_bd {f : Nat → Int} {n : Nat} (h : ∀ k, k < n → -1000000000000 ≤ f k ∧ f k ≤ 1000000000000) : -(1000000000000 * (n : Int)) ≤ sumK f n ∧ sumK f n ≤ 1000000000000 * (n : Int) := by
  induction n with
  | zero => simp [sumK]
  | succ n ih =>
    have h1 := ih (fun k hk => h k (by omega))
    have h2 := h n (by omega)
    rw [sumK]
    omega
theorem map_at (f : Nat → Int) {A k : Nat} (h : k < A) : ((List.range A).map f)[k]? = some (f k) := by rw [List.getElem?_map, List.getElem?_range h]; rfl
/-- a valid book's numbers are small -/
theorem Vd.fm {acc cl : Int} {l : List Po} (h : Vd acc l cl) : ∀ p ∈ l, FmP acc p := fun p hp => by
  obtain ⟨i, hi, rfl⟩ := at_of_mem hp
  exact (h.2 i hi).1
theorem Vd.sT {acc cl : Int} {l : List Po} (h : Vd acc l cl) (m : Int) (t : Nat) : -1000000000000 ≤ sT l m t ∧ sT l m t ≤ 1000000000000 := sum_small h.fm (by have := h.1.2.2.2.2; omega) List.prefix_rfl t
theorem Vd.oT {acc cl : Int} {l : List Po} (h : Vd acc l cl) (m : Int) (t : Nat) : -1000000000000 ≤ oT l m t ∧ oT l m t ≤ 1000000000000 := alive_small h.fm (by have := h.1.2.2.2.2; omega) List.prefix_rfl t
theorem Vd.days {acc cl : Int} {l : List Po} (h : Vd acc l cl) : ∀ p ∈ l, inI p.day := fun p hp => by
  have := (h.fm p hp).2.1
  exact ⟨by omega, by omega⟩
theorem stB_some {acc cl m : Int} {l : List Po} (h : Vd acc l cl) (h1 : 0 ≤ m) (h2 : m < 12) : stB acc l cl m = some ((List.range acc.toNat).map (Bk.sT l m)) := if_pos ⟨vd_iff.2 h, h1, h2⟩
theorem owB_some {acc cl m : Int} {l : List Po} (h : Vd acc l cl) (h1 : 0 ≤ m) (h2 : m ≤ 999) : owB acc l cl m = some ((List.range acc.toNat).map (Bk.oT l m)) := if_pos ⟨vd_iff.2 h, h1, h2⟩
theorem stmt_at {cl : Int} {A : Nat} {o : Option Addr} {N c : Nat} {l : List Po} {w : World} (k : Nat) (hk : k < 12) (hv : Vd A l cl) (h : BkW w o N c l) :
    Calls Tryd.prog 18 #[bookV A o N c cl, .int .i64 k] w fun e w' => (∃ o' c', e = .returned (.tuple #[.slice o' A c', .int .i64 0]) ∧ InW w' w.heap.size o' A c' ((List.range A).map (Bk.sT l k))) ∧ Below w.heap.size w w' := by
  have q := stmt_is (s := (List.range A).map (Bk.sT l k)) (stB_some (m := k) hv (by omega) (by omega)) hv.days h
  simp only [List.length_map, List.length_range] at q
  exact q
theorem owed_at {cl : Int} {A : Nat} {o : Option Addr} {N c : Nat} {l : List Po} {w : World} (k : Nat) (hk : k < 6) (hv : Vd A l cl) (h : BkW w o N c l) :
    Calls Tryd.prog 20 #[bookV A o N c cl, .int .i64 k] w fun e w' => (∃ o' c', e = .returned (.tuple #[.slice o' A c', .int .i64 0]) ∧ InW w' w.heap.size o' A c' ((List.range A).map (Bk.oT l k))) ∧ Below w.heap.size w w' := by
  have q := owed_is (s := (List.range A).map (Bk.oT l k)) (owB_some (m := k) hv (by omega) (by omega)) h
  simp only [List.length_map, List.length_range] at q
  exact q
theorem bal_at {cl : Int} {A : Nat} {o : Option Addr} {N c : Nat} {l : List Po} {w : World} (t k : Nat) (ht : t < A) (hk : k < 12) (hv : Vd A l cl) (h : BkW w o N c l) :
    Calls Tryd.prog 22 #[bookV A o N c cl, .int .i64 t, .int .i64 k] w fun e w' => e = .returned (.tuple #[.int .i64 (Bk.sT l k t), .int .i64 0]) ∧ Below w.heap.size w w' := by
  have q := Balance_u A cl t k o N c l w hv.days h
  rw [if_pos ⟨⟨vd_iff.2 hv, by omega, by omega⟩, by omega, by omega⟩, Int.toNat_natCast] at q
  exact q
end Bk
end Go.Proofs.YtnhlhoijajhcjaaDoor
set_option linter.unusedVariables false
set_option linter.unusedSimpArgs false
set_option linter.unnecessarySimpa false
namespace Go.Proofs.YtnhlhoijajhcjaaDoor
open Go.RowKit
namespace Bk
open Sq
theorem vd_snoc {acc cl : Int} {l : List Po} {p : Po} (hv : Vd acc l cl) (hlen : l.length < 200) (hf : FmP acc p) (hs : ∀ k, k < l.length → (at' l k).day ≤ p.day)
    (hb : p.kind = 2 → ∃ i : Nat, p.of = i ∧ i < l.length ∧ (at' l i).kind = 1 ∧ rev l i = false ∧ (at' l i).sub = p.sub ∧ p.deb = (at' l i).cre ∧ p.cre = (at' l i).deb ∧ p.amt = (at' l i).amt) : Vd acc (l ++ [p]) cl := by
  obtain ⟨⟨h1, h2, h3, h4, h5⟩, h6⟩ := hv
  refine ⟨⟨h1, h2, h3, h4, by rw [len_snoc]; omega⟩, fun j hj => ?_⟩
  rw [len_snoc] at hj
  by_cases e : j = l.length
  · subst e
    refine ⟨by rw [at_last]; exact hf, fun h0 => ?_, fun hk => ?_⟩
    · rw [at_last, at_left (by omega)]
      exact hs _ (by omega)
    · rw [at_last] at hk
      obtain ⟨i, e, hi, k1, k2, k3, k4, k5, k6⟩ := hb hk
      unfold TbP
      rw [at_last, e, Int.toNat_natCast, at_left hi, List.take_append_of_le_length (Nat.le_refl _), List.take_length]
      exact ⟨by omega, k1, k2, k3, k4, k5, k6⟩
  · have hj2 : j < l.length := by omega
    obtain ⟨g1, g2, g3⟩ := h6 j hj2
    refine ⟨by rw [at_left hj2]; exact g1, fun h0 => ?_, fun hk => ?_⟩
    · rw [at_left hj2, at_left (by omega)]
      exact g2 h0
    · rw [at_left hj2] at hk
      have g4 := g3 hk
      unfold TbP at g4 ⊢
      have hof : (at' l j).of.toNat < l.length := by have := g4.1; omega
      rw [at_left hj2, at_left hof, List.take_append_of_le_length (by omega)]
      exact g4
theorem days_up {acc cl : Int} {l : List Po} (hv : Vd acc l cl) : ∀ (d j : Nat), j + d < l.length → (at' l j).day ≤ (at' l (j + d)).day
  | 0, j, _ => Int.le_refl _
  | d + 1, j, h => by
    have h1 := days_up hv d j (by omega)
    have h2 := (hv.2 (j + (d + 1)) h).2.1 (by omega)
    rw [show j + (d + 1) - 1 = j + d by omega] at h2
    omega
theorem days_last {acc cl : Int} {l : List Po} (hv : Vd acc l cl) {M : Nat} (hl : l.length = M + 1) {day : Int} (hd : (at' l M).day ≤ day) : ∀ k, k < l.length → (at' l k).day ≤ day := fun k hk => by
  have := days_up hv (M - k) k (by omega)
  rw [show k + (M - k) = M by omega] at this
  omega
def afterD (l : List Po) (i : Nat) (day n : Int) : List Po := if n = 0 then l ++ [back (at' l i) i day] else (l ++ [back (at' l i) i day]) ++ [again (at' l i) day n]
theorem disp_yes {acc cl : Int} {l : List Po} (hv : Vd acc l cl) (hlen : l.length ≤ 100) {i : Nat} (hi : i < l.length) {day n : Int} (hd1 : 30 * cl ≤ day) (hd2 : 0 ≤ day ∧ day < 360) (hs : ∀ k, k < l.length → (at' l k).day ≤ day) (hn : 0 ≤ n ∧ n ≤ 1000000000) (hk : (at' l i).kind = 1) (hr : rev l i = false) :
    dispB acc l cl i day n = some ⟨acc, afterD l i day n, cl⟩ ∧ Vd acc (l ++ [back (at' l i) i day]) cl ∧ Vd acc (afterD l i day n) cl := by
  have hq := (hv.2 i hi).1
  have hof : (at' l i).of = -1 := by rcases hq.1 with ⟨_, e⟩ | ⟨e, _⟩ <;> omega
  have v1 : Vd acc (l ++ [back (at' l i) i day]) cl := vd_snoc hv (by omega)
    ⟨.inr ⟨rfl, by show (0 : Int) ≤ i; omega, by show (i : Int) < 200; omega⟩, hd2, hq.2.2.2.1, hq.2.2.1, fun e => hq.2.2.2.2.1 e.symm, hq.2.2.2.2.2.1, hq.2.2.2.2.2.2⟩ hs (fun _ => ⟨i, rfl, hi, hk, hr, rfl, rfl, rfl, rfl⟩)
  have e1 : postB acc l cl (back (at' l i) i day) = some ⟨acc, l ++ [back (at' l i) i day], cl⟩ := by
    unfold postB post
    rw [if_pos ⟨hv, v1, hd1⟩]
    rfl
  have e := dispB_ok (acc := acc) (cl := cl) (l := l) (i := i) (day := day) (amt := n) ⟨by omega, by omega, hn.1, hn.2⟩
  rw [Int.toNat_natCast, e1] at e
  dsimp only at e
  unfold afterD
  by_cases h0 : n = 0
  · rw [if_pos h0] at e ⊢
    exact ⟨e, v1, v1⟩
  · rw [if_neg h0] at e ⊢
    have v2 : Vd acc ((l ++ [back (at' l i) i day]) ++ [again (at' l i) day n]) cl := vd_snoc v1 (by rw [len_snoc]; omega)
      ⟨.inl ⟨hk, hof⟩, hd2, hq.2.2.1, hq.2.2.2.1, hq.2.2.2.2.1, ⟨by show 1 ≤ n; omega, hn.2⟩, hq.2.2.2.2.2.2⟩ (fun k hk2 => by
        rw [len_snoc] at hk2
        by_cases e : k = l.length
        · subst e; rw [at_last]; exact Int.le_refl _
        · rw [at_left (by omega)]; exact hs k (by omega)) (fun e => by
        have : (at' l i).kind = 2 := e
        omega)
    refine ⟨?_, v1, v2⟩
    rw [e]
    unfold postB post
    rw [if_pos ⟨v1, v2, hd1⟩]
    rfl
theorem disp_not {acc cl : Int} {l : List Po} {i : Nat} {day n : Int} (hd : day < 360) (h : ¬ (at' l i).kind = 1 ∨ rev l i = true ∨ cl = 12) : dispB acc l cl i day n = none := by
  by_cases hc : 0 ≤ (i : Int) ∧ (i : Int) < l.length ∧ 0 ≤ n ∧ n ≤ 1000000000
  · rw [dispB_ok hc, Int.toNat_natCast]
    have : postB acc l cl (back (at' l i) i day) = none := by
      unfold postB post
      rw [if_neg (fun hp => ?_)]
      · rfl
      · obtain ⟨_, hv, h30⟩ := hp
        obtain ⟨j, e, hj, k1, k2, -⟩ := (last_ok hv).2 rfl
        have e2 : j = i := by have : ((i : Int)) = j := e; omega
        subst e2
        rcases h with h | h | h
        · exact h k1
        · rw [k2] at h; cases h
        · have : 30 * cl ≤ day := h30
          omega
    rw [this]
  · exact dispB_bad hc
theorem rev_after {l : List Po} {i : Nat} {day n : Int} : rev (afterD l i day n) i = true := by
  have h1 : rev (l ++ [back (at' l i) i day]) i = true := by
    rw [rev_snoc]
    simp [back]
  unfold afterD
  split
  · exact h1
  · rw [rev_snoc, h1]
    rfl
theorem at_after {l : List Po} {i k : Nat} {day n : Int} (hk : k < l.length) : at' (afterD l i day n) k = at' l k := by
  unfold afterD
  split
  · exact at_left hk
  · rw [at_left (by rw [len_snoc]; omega), at_left hk]
/-- what a dispute does to an account -/
def chg (q : Po) (n : Int) (t : Nat) : Int := (if (t : Int) = q.cre then n - q.amt else 0) - (if (t : Int) = q.deb then n - q.amt else 0)
theorem chg_eq (q : Po) (day n : Int) (t : Nat) : chg q n t = - eff q t + eff (again q day n) t := by
  unfold chg eff again
  dsimp only
  split <;> split <;> omega
theorem oT_after {acc cl : Int} {l : List Po} {i : Nat} (hi : i < l.length) {day n : Int} (v1 : Vd acc (l ++ [back (at' l i) i day]) cl) (v2 : Vd acc (afterD l i day n) cl) (hk : (at' l i).kind = 1) (s : Int) (t : Nat) :
    oT (afterD l i day n) s t = oT l s t + if (at' l i).sub = s then chg (at' l i) n t else 0 := by
  have e1 := oT_back v1 (i := i) rfl rfl s t
  unfold afterD at v2 ⊢
  by_cases h0 : n = 0
  · rw [if_pos h0, e1, chg_eq (at' l i) day n]
    have : eff (again (at' l i) day n) t = 0 := by rw [h0]; unfold eff again; dsimp only; split <;> split <;> omega
    split <;> omega
  · rw [if_neg h0] at v2 ⊢
    rw [oT_fee v2 (show (again (at' l i) day n).kind = 1 from hk), e1, chg_eq (at' l i) day n, show (again (at' l i) day n).sub = (at' l i).sub from rfl]
    split <;> omega
theorem sT_after {l : List Po} {i : Nat} {day n : Int} (m : Int) (t : Nat) :
    sT (afterD l i day n) m t = sT l m t + if day.tdiv 30 = m then chg (at' l i) n t else 0 := by
  have e0 : eff (back (at' l i) i day) t = - eff (at' l i) t := eff_swap (p := back (at' l i) i day) (q := at' l i) rfl rfl rfl t
  unfold afterD
  by_cases h0 : n = 0
  · rw [if_pos h0, sT_snoc, chg_eq (at' l i) day n, show (back (at' l i) i day).day = day from rfl, e0]
    have : eff (again (at' l i) day n) t = 0 := by rw [h0]; unfold eff again; dsimp only; split <;> split <;> omega
    split <;> omega
  · rw [if_neg h0, sT_snoc, sT_snoc, chg_eq (at' l i) day n, show (back (at' l i) i day).day = day from rfl, show (again (at' l i) day n).day = day from rfl, e0]
    split <;> omega
/-- a store into one's own slice -/
theorem InW.set {w : World} {B0 b N c k : Nat} {l : List Int} (h : InW w B0 (some ⟨b, 0, none⟩) N c l) (x : Int) : InW (w.setCell ⟨b, k, none⟩ (.int .i64 x)) B0 (some ⟨b, 0, none⟩) N c (l.set k x) := by
  obtain ⟨hl, hO⟩ := h
  refine ⟨by rw [List.length_set]; exact hl, ?_⟩
  rcases hO.2 with ⟨h1, _⟩ | ⟨g, cap, cur, h1, hg, hb, hn, hm, hc, ht⟩
  · cases h1
  · cases h1
    have hr : Row (w.setCell ⟨b, k, none⟩ (.int .i64 x)) b 3 (cur.toList.set k (.int .i64 x)) := (show Row w b _ cur.toList from hb).set k _
    refine ⟨by rw [flat_len, List.length_set], .inr ⟨b, c, (cur.toList.set k (.int .i64 x)).toArray, ?_, hg, hr, ?_, hm, ?_, ?_⟩⟩
    · rw [List.length_set]
    · rw [List.length_set]; exact hn
    · simpa using hc
    · rw [List.length_set, List.toList_toArray, List.take_set, ht]
      have e : ∀ m : List Int, m.flatMap intE.f = m.map (Value.int .i64) := fun m => by
        rw [List.map_eq_flatMap]
        rfl
      rw [e, e, List.map_set]
theorem range_set (f : Nat → Int) (A k : Nat) (x : Int) : ((List.range A).map f).set k x = (List.range A).map fun j => if j = k then x else f j := by
  apply List.ext_getElem?
  intro j
  rw [List.getElem?_set]
  by_cases hj : j < A
  · rw [map_at _ hj]
    by_cases e : k = j
    · subst e
      rw [if_pos rfl, if_pos (by simpa using hj), map_at (fun j => if j = k then x else f j) hj, if_pos rfl]
    · rw [if_neg e, map_at _ hj, if_neg (fun h => e h.symm)]
  · rw [List.getElem?_eq_none (by simp; omega : ((List.range A).map fun j => if j = k then x else f j).length ≤ j)]
    split
    · rw [if_neg (by simp; omega)]
    · exact List.getElem?_eq_none (by simp; omega)
theorem range_ext {f g : Nat → Int} {A : Nat} (h : ∀ t, t < A → f t = g t) : (List.range A).map f = (List.range A).map g := List.map_congr_left fun t ht => h t (List.mem_range.1 ht)
end Bk
end Go.Proofs.YtnhlhoijajhcjaaDoor
set_option linter.unusedVariables false
set_option linter.unusedSimpArgs false
set_option linter.unnecessarySimpa false
namespace Go.Proofs.YtnhlhoijajhcjaaDoor
open Go.RowKit
namespace Bk
open Sq
def erS (x : Option (List Int)) : Int := match x with | none => 310 | some _ => 0
def balV (acc : Int) (l : List Po) (cl a m : Int) : Int := if BalP acc l cl a m then sT l m a.toNat else 0
def balE (acc : Int) (l : List Po) (cl a m : Int) : Int := if BalP acc l cl a m then 0 else 310
theorem ins_of {B0 : Nat} {x : Option (List Int)} {e : Ending} {w : World} (h : InEr B0 x e w) : ∃ o N c, e = .returned (.tuple #[.slice o N c, .int .i64 (erS x)]) ∧ InW w B0 o N c (x.getD []) := by
  obtain ⟨o, N, c, rfl, h1, h2⟩ := h
  refine ⟨o, N, c, ?_, h1, h2⟩
  cases x <;> rfl
theorem bal_of {acc cl a m : Int} {l : List Po} : (if StP acc l cl m ∧ 0 ≤ a ∧ a < acc then (.tuple #[.int .i64 (sT l m a.toNat), .int .i64 0] : Value) else errZ) = .tuple #[.int .i64 (balV acc l cl a m), .int .i64 (balE acc l cl a m)] := by
  unfold balV balE
  by_cases h : BalP acc l cl a m
  · rw [if_pos (show StP acc l cl m ∧ 0 ≤ a ∧ a < acc from h), if_pos h, if_pos h]
  · rw [if_neg (show ¬ (StP acc l cl m ∧ 0 ≤ a ∧ a < acc) from h), if_neg h, if_neg h]
/-- a book's data -/
structure Bd where
  acc : Int
  cl : Int
  o : Option Addr
  N : Nat
  c : Nat
  l : List Po
def Bd.ok (X : Bd) (w : World) : Prop := BkW w X.o X.N X.c X.l ∧ X.N ≤ 48 ∧ ∀ p ∈ X.l, inI p.day
theorem Bd.ok.next {X : Bd} {w w' : World} (h : X.ok w) (hb : Below w.heap.size w w') : X.ok w' := ⟨h.1.next hb, h.2⟩
/-- two books in a row -/
def Two (w : World) (b : Nat) (X Y : Bd) : Prop := Row w b 24 [.int .i64 X.acc, .slice X.o X.N X.c, .int .i64 X.cl, .int .i64 Y.acc, .slice Y.o Y.N Y.c, .int .i64 Y.cl] ∧ X.ok w ∧ Y.ok w
theorem Two.next {w w' : World} {b : Nat} {X Y : Bd} (h : Two w b X Y) (hb : Below w.heap.size w w') : Two w' b X Y := ⟨h.1.next hb, h.2.1.next hb, h.2.2.next hb⟩
theorem Two.at {w : World} {b j : Nat} {X Y : Bd} (h : Two w b X Y) (hj : j < 2) : ∃ Z : Bd, Z.ok w ∧ b < w.heap.size ∧ w.cell? ⟨b, j * 3, none⟩ = some (.int .i64 Z.acc) ∧ w.cell? ⟨b, j * 3 + 1, none⟩ = some (.slice Z.o Z.N Z.c) ∧ w.cell? ⟨b, j * 3 + 2, none⟩ = some (.int .i64 Z.cl) := by
  match j, hj with
  | 0, _ => exact ⟨X, h.2.1, h.1.lt, h.1.cell 0, h.1.cell 1, h.1.cell 2⟩
  | 1, _ => exact ⟨Y, h.2.2, h.1.lt, h.1.cell 3, h.1.cell 4, h.1.cell 5⟩
/-- a few numbers in a row -/
theorem few_at {w : World} {b : Nat} {vs : List Int} (h : Row w b 3 (vs.map (Value.int .i64))) {t : Nat} (ht : t < vs.length) : ∃ v, v ∈ vs ∧ b < w.heap.size ∧ w.cell? ⟨b, t, none⟩ = some (.int .i64 v) := by
  refine ⟨vs[t], List.getElem_mem ht, h.lt, ?_⟩
  rw [h.cell, List.getElem?_map, List.getElem?_eq_getElem ht]
  rfl
theorem stB_len (acc : Int) (l : List Po) (cl m : Int) : ((stB acc l cl m).getD []).length ≤ 12 := by
  unfold stB
  split
  · rename_i h
    have := (vd_iff.1 h.1).1.2.1
    simp
    omega
  · simp
theorem owB_len (acc : Int) (l : List Po) (cl m : Int) : ((owB acc l cl m).getD []).length ≤ 12 := by
  unfold owB
  split
  · rename_i h
    have := (vd_iff.1 h.1).1.2.1
    simp
    omega
  · simp
theorem postB_len {acc cl : Int} {l : List Po} {p : Po} {N : Nat} (h : l.length = N) : (boV (postB acc l cl p)).l.length ≤ N + 1 := by
  unfold postB post
  split
  · show (l ++ [p]).length ≤ _
    rw [len_snoc]
    omega
  · exact Nat.zero_le _
theorem dispB_len {acc cl i day amt : Int} {l : List Po} {N : Nat} (h : l.length = N) : (boV (dispB acc l cl i day amt)).l.length ≤ N + 2 := by
  by_cases hc : 0 ≤ i ∧ i < l.length ∧ 0 ≤ amt ∧ amt ≤ 1000000000
  · rw [dispB_ok hc]
    have h1 := postB_len (acc := acc) (cl := cl) (p := back (at' l i.toNat) i day) h
    cases hp : postB acc l cl (back (at' l i.toNat) i day) with
    | none => exact Nat.zero_le _
    | some C =>
      rw [hp] at h1
      have h3 : C.l.length ≤ N + 1 := h1
      show (boV (if amt = 0 then some C else postB C.acc C.l C.cl (again (at' l i.toNat) day amt))).l.length ≤ N + 2
      split
      · show C.l.length ≤ _
        omega
      · have := postB_len (acc := C.acc) (cl := C.cl) (l := C.l) (p := again (at' l i.toNat) day amt) rfl
        omega
  · rw [dispB_bad hc]
    exact Nat.zero_le _
theorem closeB_len {acc cl m : Int} {l : List Po} {N : Nat} (h : l.length = N) : (boV (closeB acc l cl m)).l.length ≤ N := by
  unfold closeB
  split
  · show l.length ≤ _
    omega
  · exact Nat.zero_le _
theorem bkw_take {w : World} {o : Option Addr} {N c M : Nat} {l : List Po} (h : BkW w o N c l) (hM : M ≤ N) : BkW w o M c (l.take M) :=
  ⟨by rw [List.length_take, h.1]; omega, by have := h.2.1; omega, h.2.2.1, h.2.2.2.1, h.2.2.2.2.take M⟩
theorem fv_apart {w w0 : World} {o : Option Addr} {n b i : Nat} {L : List F5} (h : Fv w o n L) (h0 : Fv w0 o n L) (hb : w0.heap.size ≤ b) (v : Value) : Fv (w.setCell ⟨b, i, none⟩ v) o n L :=
  ⟨h.1, h.2.1, h.2.2.1, sl_ex (S := fun j => j = b) h.2.2.2 h0.2.2.2 hb (fun j hj e => by omega) ((Ex.refl (fun j => j = b) _).set (b := b) rfl _ _)⟩
end Bk
end Go.Proofs.YtnhlhoijajhcjaaDoor
