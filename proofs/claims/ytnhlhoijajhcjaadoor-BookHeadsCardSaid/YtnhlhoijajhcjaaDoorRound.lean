/- A region whose order Go leaves open, inside a round of a loop over a function: what was walked outside serves; and whole arrays loaded and stored. -/
import Derived.Test.YtnhlhoijajhcjaaDoorRegion
import Derived.Test.YtnhlhoijajhcjaaDoorBytes
import Derived.RangeFuncCalls
import Derived.OwnWalkIn
import Derived.Deep.WholeRow
set_option linter.unusedVariables false
set_option linter.unusedSimpArgs false
set_option linter.unnecessarySimpa false
namespace Go.Proofs.YtnhlhoijajhcjaaDoor
open Go.RowKit

section
variable {P : Program} {ops : Array Oper} {md : Region.Mode} {Q : Exit → Act → World → Prop} {n l : Nat}
theorem rowsIn_of {row : String} {args : Array Value} {w : World} {R : Value → World → Prop} (h : Rows P row args w R) : RowsIn (Fence.wide.inRound l) n P row args w R :=
  fun c cs _ => let ⟨v, w', r, s⟩ := h c cs; ⟨v, w', r, stepsIn_wide.2 s⟩
theorem operIn_of {o : Oper} {a : Act} {w : World} {K : Act → World → Prop} (hd : ∀ c, o.op ≠ .defer c) (h : o.wp P a w K Q) : o.wpIn (Fence.wide.inRound l) n P a w K Q := by
  refine ⟨fun _ _ => trivial, ?_⟩
  rw [Oper.semAt_plain _ _ _ hd]
  unfold Oper.wp at h
  generalize (execOp a.eval o).run P w = r at *
  cases r with
  | ok x w' =>
    cases x with
    | value v => exact h
    | skip => exact h
    | defer d => exact h
    | enter f args => exact ⟨(fun h => by cases h), (callsIn_wide.2 h).inRound l⟩
    | row row args => exact ⟨(fun h => by cases h), rowsIn_of h⟩
    | _ => exact (show False from h).elim
  | halt x w' =>
    cases x with
    | panic v => exact h
    | _ => exact h
theorem anyIn_of (hd : ∀ (i : Nat) (o : Oper), ops[i]? = some o → ∀ c, o.op ≠ .defer c) (hQ : ¬ LetsOut Q) : ∀ (fuel : Nat) (listed : Array Bool) (a : Act) (w : World), wpAny P md ops Q fuel listed a w → wpAnyIn (Fence.wide.inRound l) n P md ops Q fuel listed a w
  | 0, _, _, _, h => h
  | fuel + 1, listed, a, w, h => by
    refine ⟨h.1, fun i hi => ?_⟩
    have hx := h.2 i hi
    unfold wpOp at hx
    unfold wpOpIn
    cases hop : ops[i]? with
    | none => rw [hop] at hx; exact anyIn_of hd hQ fuel _ _ _ hx
    | some o =>
      rw [hop] at hx
      dsimp only at hx ⊢
      split
      · rename_i hw
        rw [if_pos hw] at hx
        rcases hx with hx | hx
        · exact Oper.wpIn_mono (fun a w hk => anyIn_of hd hQ fuel _ _ _ hk) (operIn_of (hd i o hop) hx)
        · exact absurd hx.2 hQ
      · rename_i hw
        rw [if_neg hw] at hx
        exact ⟨fun _ _ => trivial, anyIn_of hd hQ fuel _ _ _ hx⟩
theorem noDefer_of {l : List Oper} (h : l.all (fun o => match o.op with | .defer _ => false | _ => true) = true) : ∀ (i : Nat) (o : Oper), l.toArray[i]? = some o → ∀ c, o.op ≠ .defer c := by
  intro i o ho c hc
  have := List.all_eq_true.1 h o (by
    have := List.mem_of_getElem? (l := l) (i := i) (by simpa using ho)
    exact this)
  rw [hc] at this
  cases this
/-- a region whose first m operations are quiet among the worlds with new blocks alone, in a round -/
theorem wpIn_region_kin_tail {id m : Nat} {a : Act} {w : World} {ops : List Oper} (hm : P.follows .mixedOrders = true) (hd : ops.all (fun o => match o.op with | .defer _ => false | _ => true) = true) (hQ : ¬ LetsOut Q) (hB : Region.lexTailB .any ops.toArray m = true) (B K : Nat) (hK : B + K ≤ w.heap.size)
    (h : (∀ (k : Kin w) (b o : Nat), b < B + K → k.it.cell? ⟨b, o, none⟩ = w.cell? ⟨b, o, none⟩) →
      wpQuiet P ops.toArray (fun w' => ∃ k : Kin w, w' = k.it) (fun a' => ∀ w', Below w.heap.size w w' → wpList P ops.toArray Q (ops.drop m) a' w') (ops.take m) a) : (Code.region id ops.toArray true).wpIn (Fence.wide.inRound l) n P Q a w :=
  wpIn_region_any hm (anyIn_of (noDefer_of hd) hQ _ _ _ _ (any_kin_tail m hB B K hK h))

variable {rest : List Oper} {o : Oper} {a : Act} {w : World} {C : World → Prop} {K : Act → Prop}
/-- a whole array is loaded: its cells are known by their row -/
theorem wpQuiet_load_row (hgd : o.guard = none) (ty : TypeId) (x : Operand) (ho : o.op = .load ty x)
    (g : Nat) (hx : a.eval x = .pointer (some ⟨g, 0, none⟩)) (t : TypeId) (cs : Array Value) (fr : Nat × Nat) (d : TypeDesc) (hg : ∀ w', C w' → w'.heap[g]? = some (.cells cs t fr))
    (hu : P.underlying ty = some d) (hd : (match d with | .struct _ | .array _ _ => true | _ => false) = true) (hi : (P.info? ty).map (·.size) = some cs.size)
    (h : wpQuiet P ops C K rest (a.put o.dst (.agg cs))) : wpQuiet P ops C K (o :: rest) a := by
  unfold wpQuiet
  rw [if_pos (by simp [Region.wanted, hgd])]
  refine ⟨.agg cs, fun w' hw' => ?_, h⟩
  unfold Oper.quietAt execOp
  simp only [ho, hx, Instr.loadAt, Instr.sureAddr, Sem.run_bind, Sem.run_pure, Result.andThen_ok, run_loadVar_row w' g t ty cs fr d (hg w' hw') hu hd hi]
  exact ⟨rfl, rfl⟩
theorem wpListIn_load_row {F : Fence} (hgd : o.guard = none) (ty : TypeId) (x : Operand) (ho : o.op = .load ty x)
    (g : Nat) (hx : a.eval x = .pointer (some ⟨g, 0, none⟩)) (t : TypeId) (cs : Array Value) (fr : Nat × Nat) (d : TypeDesc) (hg : w.heap[g]? = some (.cells cs t fr))
    (hu : P.underlying ty = some d) (hd : (match d with | .struct _ | .array _ _ => true | _ => false) = true) (hi : (P.info? ty).map (·.size) = some cs.size)
    (h : wpListIn F n P ops Q rest (a.put o.dst (.agg cs)) w) : wpListIn F n P ops Q (o :: rest) a w := by
  refine wpListIn_plain hgd fun K hK' => ?_
  unfold Oper.wpIn
  refine ⟨by simp [Oper.about, ho], ?_⟩
  rw [Oper.semAt_plain F _ _ (by rw [ho]; intro c hc; cases hc)]
  unfold execOp
  simp only [ho, hx, Instr.loadAt, Instr.sureAddr, Sem.run_bind, Sem.run_pure, Result.andThen_ok, run_loadVar_row w g t ty cs fr d hg hu hd hi]
  exact hK' _ _ h
theorem wpListIn_store_row {F : Fence} (hgd : o.guard = none) (ty : TypeId) (x y : Operand) (ho : o.op = .store ty x y)
    (g : Nat) (cells : Array Value) (hx : a.eval x = .pointer (some ⟨g, 0, none⟩)) (hy : a.eval y = .agg cells)
    (t : TypeId) (old : Array Value) (hg : w.heap[g]? = some (.cells old t (0, 0))) (hi : (P.info? ty).map (·.size) = some cells.size)
    (hold : old.size = cells.size) (h1 : cells.all (·.oneCell') = true)
    (h : wpListIn F n P ops Q rest (a.put o.dst undef) (w.setRow g cells)) : wpListIn F n P ops Q (o :: rest) a w := by
  refine wpListIn_plain hgd fun K hK' => ?_
  unfold Oper.wpIn
  refine ⟨by simp [Oper.about, ho], ?_⟩
  rw [Oper.semAt_plain F _ _ (by rw [ho]; intro c hc; cases hc)]
  unfold execOp
  simp only [ho, hx, hy, Instr.storeAt, Instr.sureAddr, Sem.run_bind, Sem.run_pure, Result.andThen_ok, run_storeVar_row w g t ty old cells hg hi hold h1]
  exact hK' _ _ h
end

theorem Row.setRow {w : World} {b : Nat} {t : TypeId} {C : List Value} (h : Row w b t C) (D : List Value) : Row (w.setRow b D.toArray) b t D := setRow_heap w b _ _ t _ h
theorem setRow_grown (w : World) (b : Nat) (D : Array Value) : w.grownBy (w.setRow b D) (some b) := ⟨rfl, rfl, rfl, by simp, fun k _ hk => setRow_other w b k D (fun e => hk (by rw [e]))⟩
theorem Row.cellsBlock {w : World} {b : Nat} {t : TypeId} {C : List Value} (h : Row w b t C) : ∀ (j : Nat) (o : Obj), some b = some j → w.heap[j]? = some o → o.isCells = true := by
  intro j o e ho
  cases e
  rw [show w.heap[b]? = _ from h] at ho
  cases ho
  rfl
theorem grown_keeps {w w' : World} {b : Nat} {t : TypeId} {C : List Value} (h : Row w b t C) (hg : w.grownBy w' (some b)) : KeepsOthers w w' := KeepsOthers.of_grownBy hg h.cellsBlock
theorem below_grown {w w' : World} (h : Below w.heap.size w w') (r : Option Nat) : w.grownBy w' r := ⟨h.os, h.tape, h.output, h.size, fun k hk _ => h.block k hk⟩
theorem below_keeps {w w' : World} (h : Below w.heap.size w w') : KeepsOthers w w' := ⟨h.size, fun k _ hk _ => (h.block k (Array.getElem?_eq_some_iff.1 hk).1).trans hk⟩
theorem wpIn_named {F : Fence} {n : Nat} {P : Program} {c : Code} {Q : Exit → Act → World → Prop} {a : Act} {w : World} (h : ∀ W, W = w → c.wpIn F n P Q a W) : c.wpIn F n P Q a w := h w rfl
end Go.Proofs.YtnhlhoijajhcjaaDoor
