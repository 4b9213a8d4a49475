/- A row of strings, whatever its slice is, as Number and Prefix take it; append to a clipped slice; a store into an own row. -/
import Derived.Test.YtebdpdmkehfgfaaDoorWoRN
import Derived.Test.YtebdpdmkehfgfaaDoorWoZ
set_option linter.unusedVariables false
set_option linter.unusedSimpArgs false
namespace Go.Proofs.YtebdpdmkehfgfaaDoor
open Go.RowKit
namespace Wo
def Gd (w : World) (v : Value) (l : List B) : Prop := ∃ o n c, v = .slice o n c ∧ l.length = n ∧ n ≤ 1000000 ∧ n ≤ c ∧ c ≤ 9223372036854775807 ∧ (∀ s ∈ l, s.length ≤ 1000000) ∧ SSl w o l
theorem Gd.next {w w' : World} {v : Value} {l : List B} (h : Gd w v l) (hb : Below w.heap.size w w') : Gd w' v l := by
  obtain ⟨o, n, c, h1, h2, h3, h4, h5, h6, h7⟩ := h
  exact ⟨o, n, c, h1, h2, h3, h4, h5, h6, h7.next hb⟩
theorem OwnS.gd {w : World} {B0 : Nat} {v : Value} {l : List B} (h : OwnS w B0 v l) (hn : l.length ≤ 1000) (hs : ∀ s ∈ l, s.length ≤ 1000) : Gd w v l := by
  obtain ⟨o, c, h1, h2, h3, h4, h5⟩ := h.form
  exact ⟨o, l.length, c, h1, rfl, by omega, h2, h3, fun s hm => by have := hs s hm; omega, h5⟩
theorem Vw.gd {w : World} {v : Value} {l : List B} (h : Vw w v l) (hn : l.length ≤ 1000) (hs : ∀ s ∈ l, s.length ≤ 1000) : Gd w v l := by
  obtain ⟨o, c, h1, h2, h3, h4, h5⟩ := h
  exact ⟨o, l.length, c, h1, rfl, by omega, h2, h3, fun s hm => by have := hs s hm; omega, h5⟩
theorem numE_parts (x : Option Nat) : ∃ p g : Int, numE x = .tuple #[.int .i64 p, .int .i64 g] := by
  cases x with
  | none => exact ⟨_, _, rfl⟩
  | some m => exact ⟨_, _, rfl⟩
theorem preV_parts (x : Option (Nat × Nat)) : ∃ (p g : Int) (b : Bool), preV x = .tuple #[.int .i64 p, .int .i64 g, .bool b] := by
  rcases x with _ | ⟨m, j⟩
  · exact ⟨_, _, _, rfl⟩
  · exact ⟨_, _, _, rfl⟩
/-- what Number and Prefix and the reference's say of one row -/
def SayN (Y : Int) (v : Value) (W : World) (p g : Int) : Prop :=
  (Calls Tryd.prog 26 #[.int .i64 Y, v] W fun e w' => e = .returned (.tuple #[.int .i64 p, .int .i64 g]) ∧ Below W.heap.size W w')
def SayR (Y : Int) (v : Value) (W : World) (p g : Int) : Prop :=
  (Calls Tryd.prog 27 #[.int .i64 Y, v] W fun e w' => e = .returned (.tuple #[.int .i64 p, .int .i64 g]) ∧ Below W.heap.size W w')
theorem num_g (Y : Int) (v : Value) (l : List B) : ∃ p g : Int, (∀ W, Tab W → Gd W v l → Calls Tryd.prog 26 #[.int .i64 Y, v] W fun e w' => e = .returned (.tuple #[.int .i64 p, .int .i64 g]) ∧ Below W.heap.size W w') ∧
    (∀ W, Gd W v l → Calls Tryd.prog 27 #[.int .i64 Y, v] W fun e w' => e = .returned (.tuple #[.int .i64 p, .int .i64 g]) ∧ Below W.heap.size W w') := by
  obtain ⟨p, g, e⟩ := numE_parts (nO Y l)
  refine ⟨p, g, fun W T h => ?_, fun W h => ?_⟩
  all_goals
    obtain ⟨o, n, c, rfl, h2, h3, h4, h5, h6, h7⟩ := h
    rw [← e]
  · exact Number_any Y o n c l W T h2 h3 h4 h5 h6 h7
  · exact rNumber_any Y o n c l W h2 h3 h4 h5 h6 h7
theorem pre_g (Y z : Int) (v : Value) (l : List B) : ∃ (p g : Int) (b : Bool), (∀ W, Tab W → Gd W v l → Calls Tryd.prog 28 #[.int .i64 Y, v, .int .i64 z] W fun e w' => e = .returned (.tuple #[.int .i64 p, .int .i64 g, .bool b]) ∧ Below W.heap.size W w') ∧
    (∀ W, Gd W v l → Calls Tryd.prog 29 #[.int .i64 Y, v, .int .i64 z] W fun e w' => e = .returned (.tuple #[.int .i64 p, .int .i64 g, .bool b]) ∧ Below W.heap.size W w') := by
  obtain ⟨p, g, b, e⟩ := preV_parts (pO Y l z)
  refine ⟨p, g, b, fun W T h => ?_, fun W h => ?_⟩
  all_goals
    obtain ⟨o, n, c, rfl, h2, h3, h4, h5, h6, h7⟩ := h
    rw [← e]
  · exact Prefix_any Y z o n c l W T h2 h3 h4 h5 h6 h7
  · exact rPrefix_any Y z o n c l W h2 h3 h4 h5 h6 h7
/-- append to a slice that is full: a row of one's own, or the slice as it was -/
theorem run_append_clip (w : World) (g n : Nat) (xs : List B) (hx : xs.length = n) (hS : SSl w (some ⟨g, 0, none⟩) xs) (po : Option Addr) (m c : Nat) (ns : List B) (hm : ns.length = m) (hT : SSl w po ns) (hl : n + m ≤ 100000) :
    ∃ v' w', (Builtin.append_ #[25, 25] 25 #[.slice (some ⟨g, 0, none⟩) n n, .slice po m c]).run Tryd.prog w = .ok v' w' ∧ Vw w' v' (xs ++ ns) ∧ Below w.heap.size w w' := by
  obtain ⟨i0, hi0, hz0, hz1, hz2⟩ := info_parts infoStr
  have ht := Tryd.underlying25
  have hcell : ∀ {po : Option Addr} {l : List B}, SSl w po l → ∀ a, po = some a → ∀ j u, (l.map sV)[j]? = some u → w.cell? (a.add j) = some u := by
    intro po l hS a ha j u hj
    rw [List.getElem?_map] at hj
    obtain ⟨x, hx, rfl⟩ := Option.map_eq_some_iff.1 hj
    rcases hS with rfl | ⟨b, off, h, _, hc⟩
    · simp at hx
    · rw [ha] at h
      cases h
      have e : Addr.add ⟨b, off, none⟩ j = ⟨b, off + j, none⟩ := by unfold Addr.add; split <;> simp_all
      rw [e]
      exact hc j x hx
  by_cases h0 : m = 0
  · subst h0
    have hn : ns = [] := List.eq_nil_of_length_eq_zero hm
    subst hn
    refine ⟨.slice (some ⟨g, 0, none⟩) n n, w, ?_, ⟨some ⟨g, 0, none⟩, n, by rw [List.append_nil, hx], by rw [List.append_nil, hx]; exact Nat.le_refl _, by omega, (fun h => by cases h), by rw [List.append_nil]; exact hS⟩, Below.refl _ _⟩
    cases po with
    | none => simp [Builtin.append_, run_underlying ht, sizeOf, typeInfo, hi0, Builtin.lenOf, Builtin.firstCells, loadCells, loadCellsFrom, storeCells]
    | some a => simp [Builtin.append_, run_underlying ht, sizeOf, typeInfo, hi0, Builtin.lenOf, Builtin.firstCells, loadCells, loadCellsFrom, storeCells]
  · cases po with
    | none =>
      rcases hT with rfl | ⟨b, off, h, _⟩
      · exact absurd hm.symm h0
      · cases h
    | some a =>
      have hr := run_append_grow (P := Tryd.prog) w 25 25 9 i0 (.string ⟨#[]⟩) ht hi0 hz0 ⟨g, 0, none⟩ n n (xs.map sV) (by rw [List.length_map, hx, hz1, Nat.mul_one]) (hcell hS _ rfl) a m c (ns.map sV) (by rw [List.length_map, hm, hz1, Nat.mul_one]) (hcell hT _ rfl) (by omega) (by omega) (growslice_fits (by omega) (by rw [hz2]; omega))
      refine ⟨_, _, hr, ⟨_, _, by rw [List.length_append, hx, hm], ?_, ?_, (fun h => by cases h), ?_⟩, ((Below.refl _ _).drew).alloc (Nat.le_refl _) _⟩
      · rw [List.length_append, hx, hm]
        exact grownCap_ge _ _ _ _
      · exact grownCap_le_maxLen w (n + m) n 9 (by unfold maxLen; omega)
      · refine .inr ⟨w.heap.size, 0, rfl, by simp, fun j x hj => ?_⟩
        have hlt : j < (xs ++ ns).length := (List.getElem?_eq_some_iff.1 hj).1
        rw [Nat.zero_add, cell_of_row _ w.heap.size j _ 9 (0, 0) (heap_alloc_new w.drew _)]
        have e : (((xs ++ ns).map sV))[j]? = some (sV x) := by rw [List.getElem?_map, hj]; rfl
        rw [List.map_append] at e
        rw [Array.getElem?_append_left (by simp at hlt ⊢; omega)]
        simpa using e
theorem step_append_clip {ops : Array Oper} {o : Oper} {a : Act} {w : World} {K : Act → World → Prop} {Q : Exit → Act → World → Prop} {E : Prop} (hgd : o.guard = none) (s x : Operand)
    (ho : o.op = .call { callee := .builtin .append, args := #[s, x], argTypes := #[25, 25] }) (hty : o.type = 25)
    (g n : Nat) (xs : List B) (hs : a.eval s = .slice (some ⟨g, 0, none⟩) n n) (hxl : xs.length = n) (hS : SSl w (some ⟨g, 0, none⟩) xs) (po : Option Addr) (m c : Nat) (ns : List B) (hx : a.eval x = .slice po m c) (hm : ns.length = m) (hT : SSl w po ns)
    (hl : n + m ≤ 100000) (h : ∀ v' w', Vw w' v' (xs ++ ns) → Below w.heap.size w w' → K (a.put o.dst v') w') :
    if Region.wanted o (yielded ops a.tmps) = true then Oper.wp Tryd.prog o a w K Q else E := by
  rw [if_pos (by simp [Region.wanted, hgd])]
  obtain ⟨v', w', hr, h2, h3⟩ := run_append_clip w g n xs hxl hS po m c ns hm hT hl
  unfold Oper.wp execOp
  simp only [ho, hty, resolve, invoke, builtin, Sem.run_bind, Sem.run_pure, Result.andThen_ok, List.map_toArray, List.map_cons, List.map_nil, hs, hx, hr]
  exact h v' w' h2 h3
theorem wpList_append_clip {ops : Array Oper} {rest : List Oper} {o : Oper} {a : Act} {w : World} {Q : Exit → Act → World → Prop} (hgd : o.guard = none) (s x : Operand)
    (ho : o.op = .call { callee := .builtin .append, args := #[s, x], argTypes := #[25, 25] }) (hty : o.type = 25)
    (g n : Nat) (xs : List B) (hs : a.eval s = .slice (some ⟨g, 0, none⟩) n n) (hxl : xs.length = n) (hS : SSl w (some ⟨g, 0, none⟩) xs) (po : Option Addr) (m c : Nat) (ns : List B) (hx : a.eval x = .slice po m c) (hm : ns.length = m) (hT : SSl w po ns)
    (hl : n + m ≤ 100000) (h : ∀ v' w', Vw w' v' (xs ++ ns) → Below w.heap.size w w' → wpList Tryd.prog ops Q rest (a.put o.dst v') w') : wpList Tryd.prog ops Q (o :: rest) a w :=
  wpList_plain hgd fun _ hK => by
    obtain ⟨v', w', hr, h2, h3⟩ := run_append_clip w g n xs hxl hS po m c ns hm hT hl
    unfold Oper.wp execOp
    simp only [ho, hty, resolve, invoke, builtin, Sem.run_bind, Sem.run_pure, Result.andThen_ok, List.map_toArray, List.map_cons, List.map_nil, hs, hx, hr]
    exact hK _ _ (h v' w' h2 h3)
theorem ownS_store {w : World} {B0 g n c : Nat} {l : List B} (h : OwnS w B0 (.slice (some ⟨g, 0, none⟩) n c) l) (i : Nat) (x : B) : SSl (w.setCell ⟨g, i, none⟩ (sV x)) (some ⟨g, 0, none⟩) (l.set i x) := by
  rcases h.2 with ⟨h1, _⟩ | ⟨g', cap, cur, h1, hg, hb, hn, _, hc, ht⟩
  · cases h1
  · cases h1
    have R : Row w g 9 cur.toList := hb
    have R2 := R.set i (sV x)
    refine .inr ⟨g, 0, rfl, R2.lt, fun j y hy => ?_⟩
    have hj : j < l.length := by have := (List.getElem?_eq_some_iff.1 hy).1; simpa using this
    rw [Nat.zero_add, R2.cell]
    rw [List.getElem?_set] at hy ⊢
    have hcur : ∀ y, l[j]? = some y → cur.toList[j]? = some (sV y) := fun y hy => by
      have : (cur.toList.take (l.length * 1))[j]? = some (sV y) := by
        rw [ht, List.getElem?_map, hy]
        rfl
      rw [List.getElem?_take] at this
      split at this
      · exact this
      · cases this
    split at hy
    · rename_i hij
      subst hij
      have hlc : i < cur.toList.length := by
        obtain ⟨y0, hy0⟩ : ∃ y0, l[i]? = some y0 := ⟨_, List.getElem?_eq_getElem hj⟩
        exact (List.getElem?_eq_some_iff.1 (hcur y0 hy0)).1
      rw [if_pos rfl]
      split at hy
      · cases hy
        rw [if_pos hlc]
      · rename_i hno
        exact absurd hj hno
    · rename_i hij
      rw [if_neg hij]
      exact hcur y hy
theorem ownS_at {w : World} {B0 g n c : Nat} {l : List B} (h : OwnS w B0 (.slice (some ⟨g, 0, none⟩) n c) l) {i : Nat} (hi : i < n) : (∃ v, w.cell? ⟨g, i, none⟩ = some v) ∧ w.frozen? ⟨g, i, none⟩ = false ∧ g < w.heap.size := by
  rcases h.2 with ⟨h1, _⟩ | ⟨g', cap, cur, h1, hg, hb, hn, _, hc, ht⟩
  · cases h1
  · cases h1
    have R : Row w g 9 cur.toList := hb
    have hlt : i < cur.toList.length := by
      rw [Array.length_toList, hc]
      omega
    exact ⟨⟨cur.toList[i], by rw [R.cell, List.getElem?_eq_getElem hlt]⟩, R.frozen i, R.lt⟩
/-- three rows of strings in a row -/
def Three (w : World) (b : Nat) : Prop := b < w.heap.size ∧ ∀ j, j < 3 → ∃ v l, w.cell? ⟨b, j, none⟩ = some v ∧ Gd w v l
theorem Three.next {w w' : World} {b : Nat} (h : Three w b) (hb : Below w.heap.size w w') : Three w' b :=
  ⟨Nat.lt_of_lt_of_le h.1 hb.size, fun j hj => by
    obtain ⟨v, l, h1, h2⟩ := h.2 j hj
    exact ⟨v, l, (hb.cell (p := ⟨b, j, none⟩) h.1).trans h1, h2.next hb⟩⟩
theorem three_new (w : World) (t : TypeId) (v0 v1 v2 : Value) {l0 l1 l2 : List B} (h0 : Gd w v0 l0) (h1 : Gd w v1 l1) (h2 : Gd w v2 l2) : Three (w.alloc (.cells #[v0, v1, v2] t)) w.heap.size := by
  have hb : Below w.heap.size w (w.alloc (.cells #[v0, v1, v2] t)) := (Below.refl _ _).alloc (Nat.le_refl _) _
  have R := Row.new w t [v0, v1, v2]
  refine ⟨R.lt, fun j hj => ?_⟩
  rcases (show j = 0 ∨ j = 1 ∨ j = 2 by omega) with rfl | rfl | rfl
  · exact ⟨v0, l0, R.cell 0, h0.next hb⟩
  · exact ⟨v1, l1, R.cell 1, h1.next hb⟩
  · exact ⟨v2, l2, R.cell 2, h2.next hb⟩
/-- a row of integers -/
def Nums (n : Nat) (w : World) (b : Nat) : Prop := b < w.heap.size ∧ ∀ j, j < n → ∃ y, w.cell? ⟨b, j, none⟩ = some (.int .i64 y) ∧ y ≤ 9223372036854775807
theorem Nums.next {n : Nat} {w w' : World} {b : Nat} (h : Nums n w b) (hb : Below w.heap.size w w') : Nums n w' b :=
  ⟨Nat.lt_of_lt_of_le h.1 hb.size, fun j hj => by
    obtain ⟨v, h1, h2⟩ := h.2 j hj
    exact ⟨v, (hb.cell (p := ⟨b, j, none⟩) h.1).trans h1, h2⟩⟩
theorem nums_new (w : World) (t : TypeId) (l : List Int) (h : ∀ y ∈ l, y ≤ 9223372036854775807) : Nums l.length (w.alloc (.cells (l.map (Value.int .i64)).toArray t)) w.heap.size := by
  have R := Row.new w t (l.map (Value.int .i64))
  refine ⟨R.lt, fun j hj => ⟨l[j], ?_, h _ (List.getElem_mem hj)⟩⟩
  rw [R.cell, List.getElem?_map, List.getElem?_eq_getElem hj]
  rfl
/-- new blocks alone since v -/
def SinceW (v w : World) : Prop := Below v.heap.size v w
theorem SinceW.next {v w w' : World} (h : SinceW v w) (hb : Below w.heap.size w w') : SinceW v w' := Below.andThen h hb
end Wo
end Go.Proofs.YtebdpdmkehfgfaaDoor
