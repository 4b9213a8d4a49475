/- Slices whose elements have a fixed number of cells, whatever these are: where they lie, own rows of them, append. -/
import Derived.Test.YtnhlhoijajhcjaaDoorBytes
import Derived.Test.YtnhlhoijajhcjaaDoorSlices
import Derived.Test.YtnhlhoijajhcjaaDoorLate
import Derived.Test.YtnhlhoijajhcjaaDoorMem
import Derived.LoopTactic
import Derived.OwnWalk
import Derived.Laws.AppendOwn
import Derived.Lib.MinMax
import Derived.BigRegion
import Derived.Deep.RegionLaw
import Derived.Deep.AppendLies
import Derived.Deep.DeepCutAuto
set_option linter.unusedVariables false
set_option linter.unusedSimpArgs false
set_option linter.unnecessarySimpa false
namespace Go.Proofs.YtnhlhoijajhcjaaDoor
open Go.RowKit
namespace Sq
theorem retv {v v' : Value} (h : v = v') : Ending.returned v = .returned v' := by rw [h]
theorem vint {k : IntKind} {a b : Int} (h : a = b) : Value.int k a = .int k b := by rw [h]
theorem vbool {a b : Bool} (h : a = b) : Value.bool a = .bool b := by rw [h]
/-- new blocks alone since v -/
def Since (v w : World) : Prop := Below v.heap.size v w
theorem Since.next {v w w' : World} (h : Since v w) (hb : Below w.heap.size w w') : Since v w' := Below.andThen h hb
/-- an element's cells -/
structure El (α : Type) where
  k : Nat
  f : α → List Value
  pos : 0 < k
  len : ∀ x, (f x).length = k
  one : ∀ x, ∀ u ∈ f x, u.oneCell' = true
section
variable {α : Type} {E : El α}
theorem flat_len (E : El α) (l : List α) : (l.flatMap E.f).length = l.length * E.k := by
  induction l with
  | nil => simp
  | cons a l ih => rw [List.flatMap_cons, List.length_append, ih, E.len, List.length_cons, Nat.succ_mul, Nat.add_comm]
theorem flat_at (E : El α) : ∀ (l : List α) (j : Nat) (x : α) (i : Nat), l[j]? = some x → i < E.k → (l.flatMap E.f)[j * E.k + i]? = (E.f x)[i]?
  | [], j, x, i, h, _ => by simp at h
  | a :: l, 0, x, i, h, hi => by
    simp only [List.getElem?_cons_zero, Option.some.injEq] at h
    subst h
    rw [List.flatMap_cons, Nat.zero_mul, Nat.zero_add, List.getElem?_append_left (by rw [E.len]; exact hi)]
  | a :: l, j + 1, x, i, h, hi => by
    rw [List.getElem?_cons_succ] at h
    rw [List.flatMap_cons, Nat.succ_mul, List.getElem?_append_right (by rw [E.len]; omega), E.len, show j * E.k + E.k + i - E.k = j * E.k + i by omega]
    exact flat_at E l j x i h hi
theorem flat_of (E : El α) {l : List α} {n : Nat} {u : Value} (h : (l.flatMap E.f)[n]? = some u) : ∃ x, l[n / E.k]? = some x ∧ (E.f x)[n % E.k]? = some u := by
  have hlt : n < l.length * E.k := by rw [← flat_len]; exact (List.getElem?_eq_some_iff.1 h).1
  have hj : n / E.k < l.length := Nat.div_lt_of_lt_mul (by rw [Nat.mul_comm]; exact hlt)
  refine ⟨l[n / E.k], List.getElem?_eq_getElem hj, ?_⟩
  have h2 := flat_at E l (n / E.k) _ (n % E.k) (List.getElem?_eq_getElem hj) (Nat.mod_lt _ E.pos)
  rw [Nat.mul_comm, Nat.div_add_mod, h] at h2
  exact h2.symm
theorem flat_one (E : El α) (l : List α) : ∀ u ∈ l.flatMap E.f, u.oneCell' = true := by
  intro u hu
  obtain ⟨x, _, h⟩ := List.mem_flatMap.1 hu
  exact E.one x u h
theorem add_lit (b off n : Nat) : Addr.add ⟨b, off, none⟩ n = ⟨b, off + n, none⟩ := by unfold Addr.add; split <;> simp_all
/-- the elements of a slice -/
def Sl (E : El α) (w : World) (o : Option Addr) (l : List α) : Prop := l = [] ∨ ∃ b off, o = some ⟨b, off, none⟩ ∧ b < w.heap.size ∧ ∀ (j : Nat) x, l[j]? = some x → ∀ (i : Nat) v, (E.f x)[i]? = some v → w.cell? ⟨b, off + j * E.k + i, none⟩ = some v
theorem Sl.next {w w' : World} {o : Option Addr} {l : List α} (h : Sl E w o l) (hb : Below w.heap.size w w') : Sl E w' o l := by
  rcases h with rfl | ⟨b, off, e, hl, hc⟩
  · exact .inl rfl
  · exact .inr ⟨b, off, e, Nat.lt_of_lt_of_le hl hb.size, fun j x hx i v hv => (hb.cell (p := ⟨b, off + j * E.k + i, none⟩) hl).trans (hc j x hx i v hv)⟩
theorem Sl.nil (w : World) (o : Option Addr) : Sl E w o [] := .inl rfl
theorem Sl.take {w : World} {o : Option Addr} {l : List α} (k : Nat) (h : Sl E w o l) : Sl E w o (l.take k) := by
  rcases h with rfl | ⟨b, off, e, hl, hc⟩
  · exact .inl (by simp)
  · exact .inr ⟨b, off, e, hl, fun j x hx => hc j x (by
      rw [List.getElem?_take] at hx
      split at hx
      · exact hx
      · cases hx)⟩
theorem Sl.drop {w : World} {b off : Nat} {l : List α} (k : Nat) (h : Sl E w (some ⟨b, off, none⟩) l) : Sl E w (some ⟨b, off + k * E.k, none⟩) (l.drop k) := by
  rcases h with rfl | ⟨b', off', e, hl, hc⟩
  · exact .inl (by simp)
  · cases e
    exact .inr ⟨b, off + k * E.k, rfl, hl, fun j x hx i v hv => by
      rw [List.getElem?_drop] at hx
      have := hc _ x hx i v hv
      rw [Nat.add_mul] at this
      rw [← this]
      congr 2
      omega⟩
theorem Sl.cells {w : World} {o : Option Addr} {l : List α} (h : Sl E w o l) (h0 : l ≠ []) : ∃ b off, o = some ⟨b, off, none⟩ ∧ b < w.heap.size ∧ ∀ (j : Nat) x, l[j]? = some x → ∀ (i : Nat) v, (E.f x)[i]? = some v → w.cell? ⟨b, off + j * E.k + i, none⟩ = some v := by
  rcases h with rfl | h
  · exact absurd rfl h0
  · exact h
theorem Sl.holds {w : World} {a : Addr} {l : List α} (h : Sl E w (some a) l) : ∀ (n : Nat) u, (l.flatMap E.f)[n]? = some u → w.cell? (a.add n) = some u := by
  intro n u hu
  obtain ⟨x, hx, hv⟩ := flat_of E hu
  rcases h with rfl | ⟨b, off, e, _, hc⟩
  · simp at hx
  · cases e
    rw [add_lit]
    have := hc _ x hx _ u hv
    rwa [Nat.add_assoc, Nat.mul_comm, Nat.div_add_mod] at this
theorem sl_of {w : World} {b off : Nat} {l : List α} (hb : b < w.heap.size) (h : ∀ (n : Nat) u, (l.flatMap E.f)[n]? = some u → w.cell? ⟨b, off + n, none⟩ = some u) : Sl E w (some ⟨b, off, none⟩) l :=
  .inr ⟨b, off, rfl, hb, fun j x hx i v hv => by
    rw [Nat.add_assoc]
    refine h _ v ?_
    rw [flat_at E l j x i hx (by have := (List.getElem?_eq_some_iff.1 hv).1; rwa [E.len] at this)]
    exact hv⟩
theorem row_sl {w : World} {b : Nat} {t : TypeId} {l : List α} (h : Row w b t (l.flatMap E.f)) : Sl E w (some ⟨b, 0, none⟩) l :=
  sl_of h.lt fun n u hu => by rw [Nat.zero_add, h.cell]; exact hu
theorem sl_new (E : El α) (w : World) (t : TypeId) (l : List α) : Sl E (w.alloc (.cells (l.flatMap E.f).toArray t)) (some ⟨w.heap.size, 0, none⟩) l := row_sl (Row.new w t _)
/-- a slice, as a value -/
def Vw (E : El α) (w : World) (v : Value) (l : List α) : Prop := ∃ o c, v = .slice o l.length c ∧ l.length ≤ c ∧ c ≤ 9223372036854775807 ∧ (o = none → c = 0) ∧ Sl E w o l
theorem Vw.next {w w' : World} {v : Value} {l : List α} (h : Vw E w v l) (hb : Below w.heap.size w w') : Vw E w' v l := by
  obtain ⟨o, c, h1, h2, h3, h4, h5⟩ := h
  exact ⟨o, c, h1, h2, h3, h4, h5.next hb⟩
theorem vw_nil (w : World) : Vw E w (.slice none 0 0) [] := ⟨none, 0, rfl, Nat.le_refl _, by decide, fun _ => rfl, .inl rfl⟩
/-- an own row -/
def Own (E : El α) (e : TypeId) (w : World) (B0 : Nat) (v : Value) (l : List α) : Prop := w.ownsRow B0 e E.k v l.length (l.flatMap E.f)
theorem info_parts {P : Program} {t : TypeId} {z : Value} {s b : Nat} (h : (P.info? t).map (fun i => (i.zero, i.size, i.bytes)) = some (some z, s, b)) : ∃ i, P.info? t = some i ∧ i.zero = some z ∧ i.size = s ∧ i.bytes = b := by
  cases hq : P.info? t with
  | none => simp [hq] at h
  | some i =>
    simp [hq] at h
    exact ⟨i, rfl, h.1, h.2.1, h.2.2⟩
theorem own_block {W : World} {b k : Nat} {e : TypeId} {size : Nat} {v : Value} {xs : List Value} (h : W.ownsRow b e size v k xs) : ∀ j, v.ownBlock = some j → b ≤ j := by
  intro j hj
  rcases h.2 with ⟨rfl, _⟩ | ⟨g, cap, cur, rfl, hgb, _⟩
  · cases hj
  · simp [Value.ownBlock] at hj
    omega
theorem Own.block {e : TypeId} {w : World} {B0 : Nat} {v : Value} {l : List α} (h : Own E e w B0 v l) : ∀ j, v.ownBlock = some j → B0 ≤ j := own_block h
theorem Own.sl {e : TypeId} {w : World} {B0 : Nat} {o : Option Addr} {n c : Nat} {l : List α} (h : Own E e w B0 (.slice o n c) l) : Sl E w o l := by
  rcases h.2 with ⟨h1, h0⟩ | ⟨g, cap, cur, h1, hg, hb, _⟩
  · exact .inl (List.eq_nil_of_length_eq_zero h0)
  · cases h1
    refine sl_of (Array.getElem?_eq_some_iff.1 hb).1 fun n u hu => ?_
    have := h.cells (g := g) rfl n u hu
    rwa [add_lit] at this
theorem Own.vw {e : TypeId} {w : World} {B0 : Nat} {v : Value} {l : List α} (h : Own E e w B0 v l) : Vw E w v l := by
  have hx := h
  rcases h.2 with ⟨rfl, h0⟩ | ⟨g, cap, cur, rfl, _, _, h1, h2, _⟩
  · exact ⟨none, 0, by rw [h0], by omega, by decide, fun _ => rfl, hx.sl⟩
  · exact ⟨some ⟨g, 0, none⟩, cap, rfl, h1, h2, fun h => (by cases h), hx.sl⟩
theorem Own.next {e : TypeId} {w w' : World} {B0 : Nat} {v : Value} {l : List α} (h : Own E e w B0 v l) (hb : Below w.heap.size w w') : Own E e w' B0 v l :=
  World.ownsRow.kept (row := none) h ⟨hb.os, hb.tape, hb.output, hb.size, fun k hk _ => hb.block k hk⟩ (by cases v.ownBlock with | none => exact .inl rfl | some b => exact .inr (by simp))
theorem Own.lower {e : TypeId} {w : World} {B0 C : Nat} {v : Value} {l : List α} (h : Own E e w B0 v l) (hC : C ≤ B0) : Own E e w C v l := by
  refine ⟨h.1, ?_⟩
  rcases h.2 with h1 | ⟨g, cap, cur, e, hg, h2⟩
  · exact .inl h1
  · exact .inr ⟨g, cap, cur, e, Nat.le_trans hC hg, h2⟩
theorem own_nil (e : TypeId) (w : World) (B0 : Nat) : Own E e w B0 (.slice none 0 0) [] := World.ownsRow_nil _ _ _ _
theorem Own.cell {e : TypeId} {w : World} {B0 g n c : Nat} {l : List α} (h : Own E e w B0 (.slice (some ⟨g, 0, none⟩) n c) l) : ∃ cur : List Value, Row w g e cur ∧ cur.take (n * E.k) = l.flatMap E.f ∧ l.length = n ∧ cur.length = c * E.k ∧ n ≤ c ∧ B0 ≤ g := by
  rcases h.2 with ⟨h1, _⟩ | ⟨g', cap, cur, h1, hg, hb, hn, _, hc, ht⟩
  · cases h1
  · cases h1
    exact ⟨cur.toList, hb, ht, rfl, by simpa using hc, hn, hg⟩
theorem own_is_some {e : TypeId} {w : World} {B0 k : Nat} {v : Value} {l : List α} (h : Own E e w B0 v l) (hk : l.length = k + 1) : ∃ g c, v = .slice (some ⟨g, 0, none⟩) (k + 1) c ∧ B0 ≤ g ∧ g < w.heap.size ∧ k + 1 ≤ c ∧ c ≤ 9223372036854775807 := by
  rcases h.2 with ⟨_, h1⟩ | ⟨g, cap, cur, rfl, h2, h3, h4, h5, _⟩
  · omega
  · exact ⟨g, cap, by rw [hk], h2, (Array.getElem?_eq_some_iff.1 h3).1, by omega, h5⟩
/-- an own row's block is no row of another type -/
theorem own_apart {e t : TypeId} {w : World} {B0 b : Nat} {v : Value} {l : List α} {C : List Value} (h : Own E e w B0 v l) (hr : Row w b t C) (ht : e ≠ t) : v.ownBlock ≠ some b := by
  intro hb
  rcases h.2 with ⟨rfl, _⟩ | ⟨g, cap, cur, rfl, _, h3, _⟩
  · cases hb
  · simp [Value.ownBlock] at hb
    subst hb
    rw [show w.heap[g]? = _ from hr] at h3
    cases h3
    exact ht rfl
theorem own_lt {e : TypeId} {w : World} {B0 : Nat} {v : Value} {l : List α} (h : Own E e w B0 v l) : ∀ j, v.ownBlock = some j → j < w.heap.size := fun j hj => (World.ownsRow.lt h j hj).2
/-- a slice literal's row is its maker's -/
theorem made_own (E : El α) (e : TypeId) (w : World) (l : List α) {B0 n N : Nat} (hB : B0 ≤ w.heap.size) (hn : w.heap.size = n) (hl : l.length = N) (hN : N ≤ 1000) : Own E e (w.alloc (.cells (l.flatMap E.f).toArray e)) B0 (.slice (some ⟨n, 0, none⟩) N N) l := by
  subst hn
  subst hl
  refine ⟨flat_len E l, .inr ⟨w.heap.size, l.length, (l.flatMap E.f).toArray, rfl, hB, Row.new w _ _, Nat.le_refl _, by unfold maxLen; omega, by rw [List.size_toArray, flat_len], ?_⟩⟩
  apply List.take_of_length_le
  rw [List.toList_toArray, flat_len]
  exact Nat.le_refl _
/-- what the program says of a slice's type and its elements' -/
structure Ty (E : El α) (t e : TypeId) : Prop where
  und : Tryd.prog.underlying t = some (.slice e)
  info : ∃ i z, Tryd.prog.info? e = some i ∧ i.zero = some z ∧ i.size = E.k ∧ i.bytes ≤ 1024 ∧ z.cells.size = E.k
theorem ty_mk {t e : TypeId} {z : Value} {b : Nat} (h1 : Tryd.prog.underlying t = some (.slice e)) (h2 : (Tryd.prog.info? e).map (fun i => (i.zero, i.size, i.bytes)) = some (some z, E.k, b)) (h3 : b ≤ 1024) (h4 : z.cells.size = E.k) : Ty E t e := by
  obtain ⟨i, q1, q2, q3, q4⟩ := info_parts h2
  exact ⟨h1, i, z, q1, q2, q3, by omega, h4⟩
variable {t e : TypeId}
theorem run_append (T : Ty E t e) (ty : TypeId) (w : World) (B0 : Nat) (v : Value) (xs : List α) (hown : Own E e w B0 v xs) (po : Option Addr) (m c : Nat) (ns : List α) (hm : ns.length = m) (hnil : po = none → c = 0) (hS : Sl E w po ns)
    (hl : xs.length + m ≤ 2 ^ 36) (hB : B0 ≤ w.heap.size) :
    ∃ v' w', (Builtin.append_ #[t, t] ty #[v, .slice po m c]).run Tryd.prog w = .ok v' w' ∧ Own E e w' B0 v' (xs ++ ns) ∧ w.grownBy w' v.ownBlock := by
  obtain ⟨i0, z, hi0, hz0, hz1, hz2, hz3⟩ := T.info
  have ht := T.und
  cases po with
  | none =>
    have hn : ns = [] := by
      rcases hS with h | ⟨b, off, h, _⟩
      · exact h
      · cases h
    subst hn
    obtain rfl : m = 0 := hm.symm
    obtain rfl := hnil rfl
    refine ⟨v, w, ?_, by simpa using hown, World.grownBy.refl _ _⟩
    rcases hown.2 with ⟨rfl, h0⟩ | ⟨g, cap, cur, rfl, _, _, hnc, _⟩
    · simp [Builtin.append_, run_underlying ht, sizeOf, typeInfo, hi0, Builtin.lenOf, Builtin.firstCells, loadCells, loadCellsFrom]
    · simp [Builtin.append_, run_underlying ht, sizeOf, typeInfo, hi0, Builtin.lenOf, Builtin.firstCells, loadCells, loadCellsFrom, hnc, storeCells]
  | some a =>
    have hbytes : (xs.length + m) * i0.bytes ≤ 140737488355328 := by
      have h1 : (xs.length + m) * i0.bytes ≤ 2 ^ 36 * 1024 := Nat.mul_le_mul hl hz2
      omega
    obtain ⟨v', w', hr, h2, h3, _⟩ := run_append_own (P := Tryd.prog) w B0 t ty e i0 z E.k i0.bytes ht hi0 hz0 hz1 rfl hz3 E.pos v xs.length (xs.flatMap E.f) hown a m c (ns.flatMap E.f) (by rw [flat_len, hm]) hS.holds (flat_one E ns) (by unfold maxLen; omega) hbytes hB
    refine ⟨v', w', hr, ?_, h3⟩
    unfold Own
    rw [List.length_append, List.flatMap_append, hm]
    exact h2
theorem wpList_append (T : Ty E t e) {ops : Array Oper} {rest : List Oper} {o : Oper} {a : Act} {w : World} {Q : Exit → Act → World → Prop} (hgd : o.guard = none) (s x : Operand)
    (ho : o.op = .call { callee := .builtin .append, args := #[s, x], argTypes := #[t, t] })
    (B0 : Nat) (v : Value) (xs : List α) (hs : a.eval s = v) (hown : Own E e w B0 v xs) (po : Option Addr) (m c : Nat) (ns : List α) (hx : a.eval x = .slice po m c) (hm : ns.length = m) (hnil : po = none → c = 0) (hS : Sl E w po ns)
    (hl : xs.length + m ≤ 2 ^ 36) (hB : B0 ≤ w.heap.size) (h : ∀ v' w', Own E e w' B0 v' (xs ++ ns) → w.grownBy w' v.ownBlock → wpList Tryd.prog ops Q rest (a.put o.dst v') w') : wpList Tryd.prog ops Q (o :: rest) a w :=
  wpList_plain hgd fun _ hK => by
    obtain ⟨v', w', hr, h2, h3⟩ := run_append T o.type w B0 v xs hown po m c ns hm hnil hS hl hB
    unfold Oper.wp execOp
    simp only [ho, resolve, invoke, builtin, Sem.run_bind, Sem.run_pure, Result.andThen_ok, List.map_toArray, List.map_cons, List.map_nil, hs, hx, hr]
    exact hK _ _ (h v' w' h2 h3)
theorem step_append (T : Ty E t e) {ops : Array Oper} {o : Oper} {a : Act} {w : World} {K : Act → World → Prop} {Q : Exit → Act → World → Prop} {Z : Prop} (hgd : o.guard = none) (s x : Operand)
    (ho : o.op = .call { callee := .builtin .append, args := #[s, x], argTypes := #[t, t] })
    (B0 : Nat) (v : Value) (xs : List α) (hs : a.eval s = v) (hown : Own E e w B0 v xs) (po : Option Addr) (m c : Nat) (ns : List α) (hx : a.eval x = .slice po m c) (hm : ns.length = m) (hnil : po = none → c = 0) (hS : Sl E w po ns)
    (hl : xs.length + m ≤ 2 ^ 36) (hB : B0 ≤ w.heap.size) (h : ∀ v' w', Own E e w' B0 v' (xs ++ ns) → w.grownBy w' v.ownBlock → K (a.put o.dst v') w') :
    if Region.wanted o (yielded ops a.tmps) = true then Oper.wp Tryd.prog o a w K Q else Z := by
  rw [if_pos (by simp [Region.wanted, hgd])]
  obtain ⟨v', w', hr, h2, h3⟩ := run_append T o.type w B0 v xs hown po m c ns hm hnil hS hl hB
  unfold Oper.wp execOp
  simp only [ho, resolve, invoke, builtin, Sem.run_bind, Sem.run_pure, Result.andThen_ok, List.map_toArray, List.map_cons, List.map_nil, hs, hx, hr]
  exact h v' w' h2 h3
/-- append to a slice that is full: a row of one's own, or the slice as it was -/
theorem run_append_clip (T : Ty E t e) (ty : TypeId) (w : World) (o1 : Option Addr) (n : Nat) (xs : List α) (hx : xs.length = n) (hS : Sl E w o1 xs) (po : Option Addr) (m c : Nat) (ns : List α) (hm : ns.length = m) (hT : Sl E w po ns) (hl : n + m ≤ 1000000) :
    ∃ v' w', (Builtin.append_ #[t, t] ty #[.slice o1 n n, .slice po m c]).run Tryd.prog w = .ok v' w' ∧ Vw E w' v' (xs ++ ns) ∧ Below w.heap.size w w' ∧ (0 < m → Own E e w' w.heap.size v' (xs ++ ns)) := by
  obtain ⟨i0, z, hi0, hz0, hz1, hz2, hz3⟩ := T.info
  have ht := T.und
  by_cases h0 : m = 0
  · subst h0
    have hn : ns = [] := List.eq_nil_of_length_eq_zero hm
    subst hn
    rw [List.append_nil]
    have hnone : o1 = none → n = 0 := fun h => by
      rcases hS with rfl | ⟨b, off, h2, _⟩
      · exact hx.symm
      · rw [h] at h2; cases h2
    refine ⟨.slice o1 n n, w, ?_, ⟨o1, n, by rw [hx], by omega, by omega, hnone, hS⟩, Below.refl _ _, fun h => absurd h (Nat.lt_irrefl _)⟩
    cases po <;> cases o1 <;> simp [Builtin.append_, run_underlying ht, sizeOf, typeInfo, hi0, Builtin.lenOf, Builtin.firstCells, loadCells, loadCellsFrom, storeCells]
  · cases po with
    | none =>
      rcases hT with rfl | ⟨b, off, h, _⟩
      · exact absurd hm.symm h0
      · cases h
    | some a =>
      have hbytes : (n + m) * i0.bytes ≤ 140737488355328 := by
        have h1 : (n + m) * i0.bytes ≤ 1000000 * 1024 := Nat.mul_le_mul hl hz2
        omega
      have hB : Below w.heap.size w (w.drew.alloc (.cells ((xs.flatMap E.f).toArray ++ (ns.flatMap E.f).toArray ++ Builtin.zeroCells z.cells (grownCap w (n + m) n e - (n + m))) e)) := ((Below.refl _ _).drew).alloc (Nat.le_refl _) _
      have hr : (Builtin.append_ #[t, t] ty #[.slice o1 n n, .slice (some a) m c]).run Tryd.prog w = .ok (.slice (some ⟨w.heap.size, 0, none⟩) (n + m) (grownCap w (n + m) n e)) (w.drew.alloc (.cells ((xs.flatMap E.f).toArray ++ (ns.flatMap E.f).toArray ++ Builtin.zeroCells z.cells (grownCap w (n + m) n e - (n + m))) e)) := by
        cases o1 with
        | none =>
          have hn : xs = [] := by
            rcases hS with h | ⟨b, off, h, _⟩
            · exact h
            · cases h
          subst hn
          obtain rfl : n = 0 := hx.symm
          have := run_append_nil (P := Tryd.prog) w t ty e i0 z ht hi0 hz0 a m c (ns.flatMap E.f) (by rw [flat_len, hm, hz1]) hT.holds (by omega) (by omega) (by rw [Nat.zero_add] at hbytes; omega)
          simpa using this
        | some b =>
          exact run_append_grow (P := Tryd.prog) w t ty e i0 z ht hi0 hz0 b n n (xs.flatMap E.f) (by rw [flat_len, hx, hz1]) hS.holds a m c (ns.flatMap E.f) (by rw [flat_len, hm, hz1]) hT.holds (by omega) (by omega) (growslice_fits (by omega) hbytes)
      have hcap := grownCap_ge w (n + m) n e
      have hown : Own E e (w.drew.alloc (.cells ((xs.flatMap E.f).toArray ++ (ns.flatMap E.f).toArray ++ Builtin.zeroCells z.cells (grownCap w (n + m) n e - (n + m))) e)) w.heap.size (.slice (some ⟨w.heap.size, 0, none⟩) (n + m) (grownCap w (n + m) n e)) (xs ++ ns) := by
        refine ⟨by rw [flat_len], .inr ⟨w.heap.size, _, _, by rw [List.length_append, hx, hm], Nat.le_refl _, heap_alloc_new w.drew _, by rw [List.length_append, hx, hm]; exact hcap, grownCap_le_maxLen w (n + m) n e (by unfold maxLen; omega), ?_, ?_⟩⟩
        · simp only [Array.size_append, List.size_toArray, size_zeroCells, flat_len, hz3, ← Nat.add_mul, hx, hm]
          exact congrArg (· * E.k) (by omega)
        · have hl2 : (xs ++ ns).length * E.k = ((xs.flatMap E.f) ++ (ns.flatMap E.f)).length := by rw [← List.flatMap_append, flat_len]
          rw [hl2, List.flatMap_append]
          simp only [Array.toList_append, List.toList_toArray]
          exact List.take_left
      exact ⟨_, _, hr, hown.vw, hB, fun _ => hown⟩
theorem wpList_append_clip (T : Ty E t e) {ops : Array Oper} {rest : List Oper} {o : Oper} {a : Act} {w : World} {Q : Exit → Act → World → Prop} (hgd : o.guard = none) (s x : Operand)
    (ho : o.op = .call { callee := .builtin .append, args := #[s, x], argTypes := #[t, t] })
    (o1 : Option Addr) (n : Nat) (xs : List α) (hs : a.eval s = .slice o1 n n) (hxl : xs.length = n) (hS : Sl E w o1 xs) (po : Option Addr) (m c : Nat) (ns : List α) (hx : a.eval x = .slice po m c) (hm : ns.length = m) (hT : Sl E w po ns)
    (hl : n + m ≤ 1000000) (h : ∀ v' w', Vw E w' v' (xs ++ ns) → Below w.heap.size w w' → (0 < m → Own E e w' w.heap.size v' (xs ++ ns)) → wpList Tryd.prog ops Q rest (a.put o.dst v') w') : wpList Tryd.prog ops Q (o :: rest) a w :=
  wpList_plain hgd fun _ hK => by
    obtain ⟨v', w', hr, h2, h3, h4⟩ := run_append_clip T o.type w o1 n xs hxl hS po m c ns hm hT hl
    unfold Oper.wp execOp
    simp only [ho, resolve, invoke, builtin, Sem.run_bind, Sem.run_pure, Result.andThen_ok, List.map_toArray, List.map_cons, List.map_nil, hs, hx, hr]
    exact hK _ _ (h v' w' h2 h3 h4)
end
end Sq
end Go.Proofs.YtnhlhoijajhcjaaDoor
