/- append to an own row: the row is where it was, or it is new. -/
import Derived.Test.YthjolojpjajppaaGreatLGA
import Derived.ArgAppend
set_option linter.unusedVariables false
set_option linter.unusedSimpArgs false
set_option linter.unnecessarySimpa false
namespace Go.Proofs.YthjolojpjajppaaGreat
open Go.RowKit
namespace Sq
variable {α : Type} {E : El α} {t e : TypeId}
theorem run_append_fresh (T : Ty E t e) (ty : TypeId) (w : World) (B0 : Nat) (v : Value) (xs : List α) (hown : Own E e w B0 v xs) (a : Addr) (m c : Nat) (ns : List α) (hm : ns.length = m) (hS : Sl E w (some a) ns)
    (hl : xs.length + m ≤ 2 ^ 36) (hB : B0 ≤ w.heap.size) :
    ∃ v' w', (Builtin.append_ #[t, t] ty #[v, .slice (some a) m c]).run Tryz.prog w = .ok v' w' ∧ Own E e w' B0 v' (xs ++ ns) ∧ w.grownBy w' v.ownBlock ∧ (∀ j, v'.ownBlock = some j → v.ownBlock = some j ∨ w.heap.size ≤ j) := by
  obtain ⟨i0, z, hi0, hz0, hz1, hz2, hz3⟩ := T.info
  have ht := T.und
  have hbytes : (xs.length + m) * i0.bytes ≤ 140737488355328 := by
    have h1 : (xs.length + m) * i0.bytes ≤ 2 ^ 36 * 1024 := Nat.mul_le_mul hl hz2
    omega
  obtain ⟨v', w', hr, h2, h3, _⟩ := run_append_own (P := Tryz.prog) w B0 t ty e i0 z E.k i0.bytes ht hi0 hz0 hz1 rfl hz3 E.pos v xs.length (xs.flatMap E.f) hown a m c (ns.flatMap E.f) (by rw [flat_len, hm]) hS.holds (flat_one E ns) (by unfold maxLen; omega) hbytes hB
  refine ⟨v', w', hr, ?_, h3, fun j hj => ?_⟩
  · unfold Own
    rw [List.length_append, List.flatMap_append, hm]
    exact h2
  · rcases hown.2 with ⟨rfl, h0⟩ | ⟨g, cap, cur, rfl, _, hg, hnc, _, hcs, _⟩
    · have hx : xs = [] := List.eq_nil_of_length_eq_zero h0
      subst hx
      obtain ⟨v2, w2, hr2, k2, _, _⟩ := run_append_own (P := Tryz.prog) w w.heap.size t ty e i0 z E.k i0.bytes ht hi0 hz0 hz1 rfl hz3 E.pos (.slice none 0 0) 0 [] (World.ownsRow_nil _ _ _ _) a m c (ns.flatMap E.f) (by rw [flat_len, hm]) hS.holds (flat_one E ns) (by unfold maxLen; omega) (by simpa using hbytes) (Nat.le_refl _)
      rw [hr] at hr2
      cases hr2
      exact .inr (own_block k2 j hj)
    · by_cases hroom : xs.length + m ≤ cap
      · have hr2 := run_append_room (P := Tryz.prog) (ty := ty) (w := w) t e i0 ht hi0 g xs.length cap cur hg a m c (ns.flatMap E.f) (by rw [flat_len, hm, hz1]) hS.holds (flat_one E ns) hroom (by rw [flat_len, hm, hz1, hcs, ← Nat.add_mul]; exact Nat.mul_le_mul_right _ hroom)
        rw [hr] at hr2
        cases hr2
        exact .inl hj
      · obtain ⟨v2, w2, hr2, k2, _⟩ := run_append_arg_grows (P := Tryz.prog) (ty := ty) (w := w) t e i0 z E.k i0.bytes ht hi0 hz0 hz1 rfl hz3 E.pos ⟨g, 0, none⟩ xs.length cap (xs.flatMap E.f) (flat_len E xs) (hown.cells (g := g) rfl) a m c (ns.flatMap E.f) (by rw [flat_len, hm]) hS.holds (by omega) (by unfold maxLen; omega) hbytes
        rw [hr] at hr2
        cases hr2
        exact .inr (own_block k2 j hj)
theorem wpList_append_fresh (T : Ty E t e) {ops : Array Oper} {rest : List Oper} {o : Oper} {a : Act} {w : World} {Q : Exit → Act → World → Prop} (hgd : o.guard = none) (s x : Operand)
    (ho : o.op = .call { callee := .builtin .append, args := #[s, x], argTypes := #[t, t] })
    (B0 : Nat) (v : Value) (xs : List α) (hs : a.eval s = v) (hown : Own E e w B0 v xs) (p : Addr) (m c : Nat) (ns : List α) (hx : a.eval x = .slice (some p) m c) (hm : ns.length = m) (hS : Sl E w (some p) ns)
    (hl : xs.length + m ≤ 2 ^ 36) (hB : B0 ≤ w.heap.size) (h : ∀ v' w', Own E e w' B0 v' (xs ++ ns) → w.grownBy w' v.ownBlock → (∀ j, v'.ownBlock = some j → v.ownBlock = some j ∨ w.heap.size ≤ j) → wpList Tryz.prog ops Q rest (a.put o.dst v') w') : wpList Tryz.prog ops Q (o :: rest) a w :=
  wpList_plain hgd fun _ hK => by
    obtain ⟨v', w', hr, h2, h3, h4⟩ := run_append_fresh T o.type w B0 v xs hown p m c ns hm hS hl hB
    unfold Oper.wp execOp
    simp only [ho, resolve, invoke, builtin, Sem.run_bind, Sem.run_pure, Result.andThen_ok, List.map_toArray, List.map_cons, List.map_nil, hs, hx, hr]
    exact hK _ _ (h v' w' h2 h3 h4)
/-- two own rows of one kind in two blocks: the one grows, the other stays -/
theorem own_beside {β : Type} {E' : El β} {e' : TypeId} {w w' : World} {B' : Nat} {v u : Value} {m : List β} (hu : Own E' e' w B' u m) (hg : w.grownBy w' v.ownBlock) (hne : ∀ j, u.ownBlock = some j → v.ownBlock ≠ some j) : Own E' e' w' B' u m := by
  refine World.ownsRow.kept (row := v.ownBlock) hu hg ?_
  cases h : u.ownBlock with
  | none => exact .inl rfl
  | some j => exact .inr fun e => hne j h e.symm
end Sq
end Go.Proofs.YthjolojpjajppaaGreat
