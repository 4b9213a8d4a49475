/- The field's laws: what the walk needs. -/
import Derived.Test.YtlehjmanlccncaaGreatDoorRatQC
import Derived.Deep.DeepCutAuto
set_option linter.unusedVariables false
set_option linter.unusedSimpArgs false
namespace Go.Proofs.YtlehjmanlccncaaGreatDoor
open Go.RowKit

theorem op_all (o : Option (Int × Int)) : ∃ (s1 s2 : ByteArray) (es : Int), resV o = .tuple #[ratV (s1, s2), .int .i64 es] ∧ Ra.tx o = (s1, s2) ∧ ((es = 40 ∧ o = none) ∨ (es = 0 ∧ o ≠ none)) := by
  cases o with
  | none => exact ⟨_, _, _, rfl, rfl, .inl ⟨rfl, rfl⟩⟩
  | some r => exact ⟨_, _, _, rfl, rfl, .inr ⟨rfl, fun h => by cases h⟩⟩
theorem val_of {o : Option (Int × Int)} {s1 s2 : ByteArray} (ok : Ra.OkO o) (h : Ra.tx o = (s1, s2)) : Ra.val (s1, s2) = o := by rw [← h]; exact Ra.val_txO ok
theorem small_fits {p q : Int × Int} (hp : Ra.Ok p) (hq : Ra.Ok q) (h1 : p.1.natAbs ≤ 999) (h2 : p.2.natAbs ≤ 60) (h3 : q.1.natAbs ≤ 999) (h4 : q.2.natAbs ≤ 60) : Ra.addO (some p) (some q) ≠ none ∧ Ra.mulO (some p) (some q) ≠ none := by
  have a1 : p.1.natAbs < 10 ^ 3 := by omega
  have a2 : p.2.natAbs < 10 ^ 3 := by omega
  have a3 : q.1.natAbs < 10 ^ 3 := by omega
  have a4 : q.2.natAbs < 10 ^ 3 := by omega
  have hne : p.2 * q.2 ≠ 0 := Int.mul_ne_zero (Ra.ok_ne hp) (Ra.ok_ne hq)
  constructor
  · show Ra.redO _ _ _ ≠ none
    rw [Ra.redO_is ⟨In.fit_of (In.abs_mul a1 a4) (by decide), In.fit_of (In.abs_mul a3 a2) (by decide), In.fit_of (In.abs_add (In.abs_mul a1 a4) (In.abs_mul a3 a2)) (by decide), In.fit_of (In.abs_mul a2 a4) (by decide)⟩ hne]
    exact fun h => by cases h
  · show Ra.redO _ _ _ ≠ none
    rw [Ra.redO_is ⟨In.fit_of (In.abs_mul a1 a3) (by decide), In.fit_of (In.abs_mul a2 a4) (by decide)⟩ hne]
    exact fun h => by cases h
theorem four_rows (w W : World) (a0 a1 a2 a3 a4 a5 a6 a7 e0 e1 e2 e3 : Value)
    (h : W = (w.alloc (.cells #[a0, a1, a2, a3, a4, a5, a6, a7] 31)).alloc (.cells #[e0, e1, e2, e3] 33)) :
    Row W w.heap.size 31 [a0, a1, a2, a3, a4, a5, a6, a7] ∧ Row W (w.heap.size + 1) 33 [e0, e1, e2, e3] ∧ Below w.heap.size w W := by
  subst h
  have h0 := Row.new w 31 [a0, a1, a2, a3, a4, a5, a6, a7]
  have h1 := Row.new (w.alloc (.cells #[a0, a1, a2, a3, a4, a5, a6, a7] 31)) 33 [e0, e1, e2, e3]
  rw [World.size_alloc] at h1
  exact ⟨h0.alloc _, h1, ((Below.refl _ _).alloc (Nat.le_refl _) _).alloc (by simp) _⟩
theorem rows3 (w : World) (t0 t1 t2 : TypeId) (C0 C1 C2 : List Value) (W : World)
    (e : W = ((w.alloc (.cells C0.toArray t0)).alloc (.cells C1.toArray t1)).alloc (.cells C2.toArray t2)) :
    Row W w.heap.size t0 C0 ∧ Row W (w.heap.size + 1) t1 C1 ∧ Row W (w.heap.size + 1 + 1) t2 C2 ∧ Below w.heap.size w W := by
  subst e
  have h0 := Row.new w t0 C0
  have h1 := Row.new (w.alloc (.cells C0.toArray t0)) t1 C1
  have h2 := Row.new ((w.alloc (.cells C0.toArray t0)).alloc (.cells C1.toArray t1)) t2 C2
  simp only [World.size_alloc] at h1 h2
  exact ⟨(h0.alloc _).alloc _, h1.alloc _, h2, by (repeat' first | exact Below.refl _ _ | assumption | (refine below_drewN ?_ _) | (refine Below.drew ?_) | (refine Below.alloc ?_ ?_ _) | (refine Below.setCell ?_ ?_ _) | (simp; done) | (simp; omega) | omega)⟩
end Go.Proofs.YtlehjmanlccncaaGreatDoor
