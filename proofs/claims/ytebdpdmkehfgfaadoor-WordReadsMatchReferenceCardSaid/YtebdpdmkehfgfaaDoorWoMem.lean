/- Rows of strings in memory; the tables of package word. -/
import Derived.Test.YtebdpdmkehfgfaaDoorWoBr
import Derived.Test.YtebdpdmkehfgfaaDoorSlices
import Derived.Test.YtebdpdmkehfgfaaDoorLate
import Derived.Test.YtebdpdmkehfgfaaDoorMem
import Derived.LoopTactic
import Derived.OwnWalk
import Derived.Laws.AppendOwn
import Derived.Lib.MinMax
import Derived.BigRegion
import Derived.Deep.RegionLaw
import Derived.Deep.AppendLies
import Derived.Deep.DeepCutAuto
set_option linter.unusedVariables false
set_option linter.unusedSimpArgs false
namespace Go.Proofs.YtebdpdmkehfgfaaDoor
open Go.RowKit
namespace Wo
theorem retv {v v' : Value} (h : v = v') : Ending.returned v = .returned v' := by rw [h]
theorem vint {k : IntKind} {a b : Int} (h : a = b) : Value.int k a = .int k b := by rw [h]
theorem vbool {a b : Bool} (h : a = b) : Value.bool a = .bool b := by rw [h]
theorem vstr {a b : B} (h : a = b) : sV a = sV b := by rw [h]
theorem beq_lit (a b : B) : ((bs a).toList == b) = decide (a = b) := by
  rw [ByteArray.toList_eq, bs_list]
  by_cases h : a = b
  · subst h; simp
  · rw [decide_eq_false h]; simpa using h
theorem beq_bs (a b : B) : ((bs a).toList == (bs b).toList) = decide (a = b) := by
  rw [ByteArray.toList_eq (bs b), bs_list, beq_lit]
/-- the strings of a slice -/
def SSl (w : World) (o : Option Addr) (l : List B) : Prop := l = [] ∨ ∃ b off, o = some ⟨b, off, none⟩ ∧ b < w.heap.size ∧ ∀ (j : Nat) x, l[j]? = some x → w.cell? ⟨b, off + j, none⟩ = some (sV x)
theorem SSl.next {w w' : World} {o : Option Addr} {l : List B} (h : SSl w o l) (hb : Below w.heap.size w w') : SSl w' o l := by
  rcases h with rfl | ⟨b, off, e, hl, hc⟩
  · exact .inl rfl
  · exact .inr ⟨b, off, e, Nat.lt_of_lt_of_le hl hb.size, fun j x hx => (hb.cell (p := ⟨b, off + j, none⟩) hl).trans (hc j x hx)⟩
theorem SSl.take {w : World} {o : Option Addr} {l : List B} (k : Nat) (h : SSl w o l) : SSl w o (l.take k) := by
  rcases h with rfl | ⟨b, off, e, hl, hc⟩
  · exact .inl (by simp)
  · exact .inr ⟨b, off, e, hl, fun j x hx => hc j x (by
      rw [List.getElem?_take] at hx
      split at hx
      · exact hx
      · cases hx)⟩
theorem SSl.drop {w : World} {b off : Nat} {l : List B} (k : Nat) (h : SSl w (some ⟨b, off, none⟩) l) : SSl w (some ⟨b, off + k, none⟩) (l.drop k) := by
  rcases h with rfl | ⟨b', off', e, hl, hc⟩
  · exact .inl (by simp)
  · cases e
    exact .inr ⟨b, off + k, rfl, hl, fun j x hx => by rw [List.getElem?_drop] at hx; rw [Nat.add_assoc]; exact hc _ x hx⟩
theorem SSl.cells {w : World} {o : Option Addr} {l : List B} (h : SSl w o l) (h0 : l ≠ []) : ∃ b off, o = some ⟨b, off, none⟩ ∧ b < w.heap.size ∧ ∀ (j : Nat) x, l[j]? = some x → w.cell? ⟨b, off + j, none⟩ = some (sV x) := by
  rcases h with rfl | h
  · exact absurd rfl h0
  · exact h
theorem row_ssl {w : World} {b : Nat} {t : TypeId} {l : List B} (h : Row w b t (l.map sV)) : SSl w (some ⟨b, 0, none⟩) l :=
  .inr ⟨b, 0, rfl, h.lt, fun j x hx => by rw [Nat.zero_add, h.cell, List.getElem?_map, hx]; rfl⟩
theorem ssl_new (w : World) (t : TypeId) (l : List B) : SSl (w.alloc (.cells (l.map sV).toArray t)) (some ⟨w.heap.size, 0, none⟩) l := row_ssl (Row.new w t _)
/-- an own row of strings -/
def OwnS (w : World) (B0 : Nat) (v : Value) (l : List B) : Prop := w.ownsRow B0 9 1 v l.length (l.map sV)
theorem infoStr : (Tryd.prog.info? 9).map (fun i => (i.zero, i.size, i.bytes)) = some (some (.string ⟨#[]⟩), 1, 16) := by kernel_rfl
theorem info_parts {P : Program} {t : TypeId} {z : Value} {s b : Nat} (h : (P.info? t).map (fun i => (i.zero, i.size, i.bytes)) = some (some z, s, b)) : ∃ i, P.info? t = some i ∧ i.zero = some z ∧ i.size = s ∧ i.bytes = b := by
  cases hq : P.info? t with
  | none => simp [hq] at h
  | some i =>
    simp [hq] at h
    exact ⟨i, rfl, h.1, h.2.1, h.2.2⟩
theorem sV_one (l : List B) : ∀ u ∈ l.map sV, u.oneCell' = true := by
  intro u hu
  obtain ⟨x, _, rfl⟩ := List.mem_map.1 hu
  rfl
theorem own_block {W : World} {b k : Nat} {e : TypeId} {size : Nat} {v : Value} {xs : List Value} (h : W.ownsRow b e size v k xs) : ∀ j, v.ownBlock = some j → b ≤ j := by
  intro j hj
  rcases h.2 with ⟨rfl, _⟩ | ⟨g, cap, cur, rfl, hgb, _⟩
  · cases hj
  · simp [Value.ownBlock] at hj
    omega
theorem OwnS.block {w : World} {B0 : Nat} {v : Value} {l : List B} (h : OwnS w B0 v l) : ∀ j, v.ownBlock = some j → B0 ≤ j := own_block h
theorem OwnS.sl {w : World} {B0 : Nat} {o : Option Addr} {n c : Nat} {l : List B} (h : OwnS w B0 (.slice o n c) l) : SSl w o l := by
  rcases h.2 with ⟨h1, h0⟩ | ⟨g, cap, cur, h1, hg, hb, _⟩
  · exact .inl (List.eq_nil_of_length_eq_zero h0)
  · cases h1
    refine .inr ⟨g, 0, rfl, (Array.getElem?_eq_some_iff.1 hb).1, fun j x hx => ?_⟩
    have := h.cells (g := g) rfl j (sV x) (by rw [List.getElem?_map, hx]; rfl)
    have e : Addr.add ⟨g, 0, none⟩ j = ⟨g, j, none⟩ := by unfold Addr.add; split <;> simp_all
    rw [e] at this
    rw [Nat.zero_add]
    exact this
theorem OwnS.form {w : World} {B0 : Nat} {v : Value} {l : List B} (h : OwnS w B0 v l) : ∃ o c, v = .slice o l.length c ∧ l.length ≤ c ∧ c ≤ 9223372036854775807 ∧ (o = none → c = 0) ∧ SSl w o l := by
  have hx := h
  rcases h.2 with ⟨rfl, h0⟩ | ⟨g, cap, cur, rfl, _, _, h1, h2, _⟩
  · exact ⟨none, 0, by rw [h0], by omega, by decide, fun _ => rfl, hx.sl⟩
  · exact ⟨some ⟨g, 0, none⟩, cap, rfl, h1, h2, fun h => (by cases h), hx.sl⟩
theorem OwnS.next {w w' : World} {B0 : Nat} {v : Value} {l : List B} (h : OwnS w B0 v l) (hb : Below w.heap.size w w') : OwnS w' B0 v l :=
  World.ownsRow.kept (row := none) h ⟨hb.os, hb.tape, hb.output, hb.size, fun k hk _ => hb.block k hk⟩ (by cases v.ownBlock with | none => exact .inl rfl | some b => exact .inr (by simp))
theorem OwnS.lower {w : World} {B0 C : Nat} {v : Value} {l : List B} (h : OwnS w B0 v l) (hC : C ≤ B0) : OwnS w C v l := by
  refine ⟨h.1, ?_⟩
  rcases h.2 with h1 | ⟨g, cap, cur, e, hg, h2⟩
  · exact .inl h1
  · exact .inr ⟨g, cap, cur, e, Nat.le_trans hC hg, h2⟩
theorem ownS_nil (w : World) (B0 : Nat) : OwnS w B0 (.slice none 0 0) [] := World.ownsRow_nil _ _ _ _
/-- a slice literal's row is its maker's -/
theorem made_own (w : World) (l : List B) {B0 n N : Nat} (hB : B0 ≤ w.heap.size) (hn : w.heap.size = n) (hl : l.length = N) (hN : N ≤ 1000) : OwnS (w.alloc (.cells (l.map sV).toArray 9)) B0 (.slice (some ⟨n, 0, none⟩) N N) l := by
  subst hn
  subst hl
  refine ⟨by simp, .inr ⟨w.heap.size, l.length, (l.map sV).toArray, rfl, hB, Row.new w _ _, Nat.le_refl _, by unfold maxLen; omega, by simp, ?_⟩⟩
  rw [Nat.mul_one]
  apply List.take_of_length_le
  simp
theorem run_append_strs (w : World) (B0 : Nat) (v : Value) (xs : List B) (hown : OwnS w B0 v xs) (po : Option Addr) (m c : Nat) (ns : List B) (hm : ns.length = m) (hnil : po = none → c = 0) (hS : SSl w po ns)
    (hl : xs.length + m ≤ 2 ^ 40) (hB : B0 ≤ w.heap.size) :
    ∃ v' w', (Builtin.append_ #[25, 25] 25 #[v, .slice po m c]).run Tryd.prog w = .ok v' w' ∧ OwnS w' B0 v' (xs ++ ns) ∧ w.grownBy w' v.ownBlock := by
  obtain ⟨i0, hi0, hz0, hz1, hz2⟩ := info_parts infoStr
  have ht := Tryd.underlying25
  cases po with
  | none =>
    have hn : ns = [] := by
      rcases hS with h | ⟨b, off, h, _⟩
      · exact h
      · cases h
    subst hn
    obtain rfl : m = 0 := hm.symm
    obtain rfl := hnil rfl
    refine ⟨v, w, ?_, by simpa using hown, World.grownBy.refl _ _⟩
    rcases hown.2 with ⟨rfl, h0⟩ | ⟨g, cap, cur, rfl, _, _, hnc, _⟩
    · simp [Builtin.append_, run_underlying ht, sizeOf, typeInfo, hi0, Builtin.lenOf, Builtin.firstCells, loadCells, loadCellsFrom]
    · simp [Builtin.append_, run_underlying ht, sizeOf, typeInfo, hi0, Builtin.lenOf, Builtin.firstCells, loadCells, loadCellsFrom, hnc, storeCells]
  | some a =>
    have hc : ∀ j u, (ns.map sV)[j]? = some u → w.cell? (a.add j) = some u := by
      intro j u hj
      rw [List.getElem?_map] at hj
      obtain ⟨x, hx, rfl⟩ := Option.map_eq_some_iff.1 hj
      rcases hS with rfl | ⟨b, off, h, hl, hc⟩
      · simp at hx
      · cases h
        have e : Addr.add ⟨b, off, none⟩ j = ⟨b, off + j, none⟩ := by unfold Addr.add; split <;> simp_all
        rw [e]
        exact hc j x hx
    obtain ⟨v', w', hr, h2, h3, _⟩ := run_append_own (P := Tryd.prog) w B0 25 25 9 i0 (.string ⟨#[]⟩) 1 16 ht hi0 hz0 hz1 hz2 rfl (by decide) v xs.length (xs.map sV) hown a m c (ns.map sV) (by simp [hm]) hc (sV_one _) (by unfold maxLen; omega) (by omega) hB
    refine ⟨v', w', hr, ?_, h3⟩
    unfold OwnS
    rw [List.length_append, List.map_append, hm]
    exact h2
theorem wpList_append_strs {ops : Array Oper} {rest : List Oper} {o : Oper} {a : Act} {w : World} {Q : Exit → Act → World → Prop} (hgd : o.guard = none) (s x : Operand)
    (ho : o.op = .call { callee := .builtin .append, args := #[s, x], argTypes := #[25, 25] }) (hty : o.type = 25)
    (B0 : Nat) (v : Value) (xs : List B) (hs : a.eval s = v) (hown : OwnS w B0 v xs) (po : Option Addr) (m c : Nat) (ns : List B) (hx : a.eval x = .slice po m c) (hm : ns.length = m) (hnil : po = none → c = 0) (hS : SSl w po ns)
    (hl : xs.length + m ≤ 2 ^ 40) (hB : B0 ≤ w.heap.size) (h : ∀ v' w', OwnS w' B0 v' (xs ++ ns) → w.grownBy w' v.ownBlock → wpList Tryd.prog ops Q rest (a.put o.dst v') w') : wpList Tryd.prog ops Q (o :: rest) a w :=
  wpList_plain hgd fun _ hK => by
    obtain ⟨v', w', hr, h2, h3⟩ := run_append_strs w B0 v xs hown po m c ns hm hnil hS hl hB
    unfold Oper.wp execOp
    simp only [ho, hty, resolve, invoke, builtin, Sem.run_bind, Sem.run_pure, Result.andThen_ok, List.map_toArray, List.map_cons, List.map_nil, hs, hx, hr]
    exact hK _ _ (h v' w' h2 h3)
theorem step_append_strs {ops : Array Oper} {o : Oper} {a : Act} {w : World} {K : Act → World → Prop} {Q : Exit → Act → World → Prop} {E : Prop} (hgd : o.guard = none) (s x : Operand)
    (ho : o.op = .call { callee := .builtin .append, args := #[s, x], argTypes := #[25, 25] }) (hty : o.type = 25)
    (B0 : Nat) (v : Value) (xs : List B) (hs : a.eval s = v) (hown : OwnS w B0 v xs) (po : Option Addr) (m c : Nat) (ns : List B) (hx : a.eval x = .slice po m c) (hm : ns.length = m) (hnil : po = none → c = 0) (hS : SSl w po ns)
    (hl : xs.length + m ≤ 2 ^ 40) (hB : B0 ≤ w.heap.size) (h : ∀ v' w', OwnS w' B0 v' (xs ++ ns) → w.grownBy w' v.ownBlock → K (a.put o.dst v') w') :
    if Region.wanted o (yielded ops a.tmps) = true then Oper.wp Tryd.prog o a w K Q else E := by
  rw [if_pos (by simp [Region.wanted, hgd])]
  obtain ⟨v', w', hr, h2, h3⟩ := run_append_strs w B0 v xs hown po m c ns hm hnil hS hl hB
  unfold Oper.wp execOp
  simp only [ho, hty, resolve, invoke, builtin, Sem.run_bind, Sem.run_pure, Result.andThen_ok, List.map_toArray, List.map_cons, List.map_nil, hs, hx, hr]
  exact h v' w' h2 h3
/-- the tables, and where the library's length of a search lies -/
structure Tab (w : World) : Prop where
  one : ∀ k i, k < 3 → i < 20 → w.cell? ⟨3, k * 20 + i, none⟩ = some (sV ((ones k).getD i []))
  ten : ∀ k i, k < 3 → i < 8 → w.cell? ⟨4, k * 8 + i, none⟩ = some (sV ((tens k).getD i []))
  month : ∀ k i, k < 3 → i < 12 → w.cell? ⟨0, k * 12 + i, none⟩ = some (sV ((months k).getD i []))
  day : ∀ k i, k < 3 → i < 7 → w.cell? ⟨1, k * 7 + i, none⟩ = some (sV ((days k).getD i []))
  hund : ∀ i, i < 9 → w.cell? ⟨2, i, none⟩ = some (sV (hundreds.getD i []))
  max : ∃ m, w.cell? ⟨5, 0, none⟩ = some (.int .i64 m)
  lt : 6 ≤ w.heap.size
theorem Tab.next {w w' : World} (h : Tab w) (hb : Below w.heap.size w w') : Tab w' := by
  have hl := h.lt
  have c : ∀ {g o : Nat} {v : Value}, g < 6 → w.cell? ⟨g, o, none⟩ = some v → w'.cell? ⟨g, o, none⟩ = some v := fun {g o v} hg e => (hb.cell (p := ⟨g, o, none⟩) (Nat.lt_of_lt_of_le hg hl)).trans e
  exact ⟨fun k i hk hi => c (by decide) (h.one k i hk hi), fun k i hk hi => c (by decide) (h.ten k i hk hi), fun k i hk hi => c (by decide) (h.month k i hk hi), fun k i hk hi => c (by decide) (h.day k i hk hi),
    fun i hi => c (by decide) (h.hund i hi), let ⟨m, e⟩ := h.max; ⟨m, c (by decide) e⟩, Nat.le_trans hl hb.size⟩
theorem Tab.drew {w : World} (h : Tab w) (n : Nat) : Tab (w.drewN n) := h.next (below_drewN (Below.refl _ _) n)
/-- an array of strings, a part of a table, is loaded -/
theorem run_loadVar_part (w : World) (g o n : Nat) (ty e : TypeId) (l : List B) (hl : l.length = n) (hu : Tryd.prog.underlying ty = some (.array n e)) (hi : (Tryd.prog.info? ty).map (·.size) = some n) (h : ∀ i x, l[i]? = some x → w.cell? ⟨g, o + i, none⟩ = some (sV x)) : (loadVar ty ⟨g, o, none⟩).run Tryd.prog w = .ok (.agg (l.map sV).toArray) w := by
  have hl2 : (loadCells ⟨g, o, none⟩ n).run Tryd.prog w = .ok (l.map sV).toArray w := by
    have := run_loadCells_list (P := Tryd.prog) w ⟨g, o, none⟩ (l.map sV) (fun j v hv => by
      have hadd : (⟨g, o, none⟩ : Addr).add j = ⟨g, o + j, none⟩ := by unfold Addr.add; split <;> simp_all
      rw [List.getElem?_map] at hv
      obtain ⟨x, hx, rfl⟩ := Option.map_eq_some_iff.1 hv
      rw [hadd]
      exact h j x hx)
    rwa [List.length_map, hl] at this
  cases hq : Tryd.prog.info? ty with
  | none => simp [hq] at hi
  | some i =>
    have hs : i.size = n := by simpa [hq] using hi
    have hagg : (isAgg ty).run Tryd.prog w = .ok true w := by
      unfold isAgg
      rw [Sem.run_bind, run_underlying hu w]
      rfl
    unfold loadVar
    rw [Sem.run_bind, hagg]
    simp [sizeOf, typeInfo, hq, hs, hl2]
theorem wpList_load_part {ops : Array Oper} {rest : List Oper} {o : Oper} {a : Act} {w : World} {Q : Exit → Act → World → Prop} (hgd : o.guard = none) (ty : TypeId) (x : Operand) (ho : o.op = .load ty x)
    (g of n : Nat) (e : TypeId) (hx : a.eval x = .pointer (some ⟨g, of, none⟩)) (l : List B) (hl : l.length = n) (hu : Tryd.prog.underlying ty = some (.array n e)) (hi : (Tryd.prog.info? ty).map (·.size) = some n)
    (hc : ∀ i x, l[i]? = some x → w.cell? ⟨g, of + i, none⟩ = some (sV x))
    (h : wpList Tryd.prog ops Q rest (a.put o.dst (.agg (l.map sV).toArray)) w) : wpList Tryd.prog ops Q (o :: rest) a w :=
  wpList_plain hgd fun _ hK => by
    unfold Oper.wp execOp
    simp only [ho, hx, Instr.loadAt, Instr.sureAddr, Sem.run_bind, Sem.run_pure, Result.andThen_ok, run_loadVar_part w g of n ty e l hl hu hi hc]
    exact hK _ _ h
theorem run_index_strs (w : World) (t : TypeId) (n : Nat) (l : List B) (i : Nat) (x : B) (ht : Tryd.prog.underlying t = some (.array n 9)) (hi : i < n) (hx : l[i]? = some x) : (Instr.index t (.agg (l.map sV).toArray) (.int .i64 i)).run Tryd.prog w = .ok (sV x) w := by
  obtain ⟨i0, hi0, hz0, hz1, hz2⟩ := info_parts infoStr
  have hn : (0 : Int) ≤ i ∧ (i : Int) < n := by omega
  simp only [Instr.index, asIntOf, Sem.run_bind, Sem.run_pure, Result.andThen_ok, run_underlying ht, if_pos hn]
  simp [sizeOf, typeInfo, hi0, hz1, Go.part, Go.isAgg, run_underlying Tryd.underlying9, hx]
end Wo
end Go.Proofs.YtebdpdmkehfgfaaDoor
