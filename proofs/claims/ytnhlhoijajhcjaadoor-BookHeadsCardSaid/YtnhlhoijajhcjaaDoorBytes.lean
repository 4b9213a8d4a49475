/- Blocks of bytes that a function makes and fills. -/
import Derived.Test.YtnhlhoijajhcjaaDoorRegion
import Derived.Lib.MinMax
import Derived.Laws.MakeOwn
import Derived.Laws.IdiomStrings
set_option linter.unusedVariables false
set_option linter.unusedSimpArgs false
set_option linter.unnecessarySimpa false
namespace Go.Proofs.YtnhlhoijajhcjaaDoor
open Go.RowKit

section
variable {P : Program}
theorem run_min4 (w : World) (ts : Array TypeId) (t : TypeId) (x y z v : Int) : (Builtin.min_ ts t #[.int .i64 x, .int .i64 y, .int .i64 z, .int .i64 v]).run P w = .ok (.int .i64 (min (min (min x y) z) v)) w := by
  have e : ∀ p q : Int, (if q < p then q else p) = min p q := fun p q => by rw [Int.min_def]; split <;> split <;> omega
  simp [Builtin.min_, Builtin.min2, e]
theorem run_min3 (w : World) (ts : Array TypeId) (t : TypeId) (x y z : Int) : (Builtin.min_ ts t #[.int .i64 x, .int .i64 y, .int .i64 z]).run P w = .ok (.int .i64 (min (min x y) z)) w := by
  have e : ∀ p q : Int, (if q < p then q else p) = min p q := fun p q => by rw [Int.min_def]; split <;> split <;> omega
  simp [Builtin.min_, Builtin.min2, e]

/-- Block b is a row of cells of type t. -/
def Row (w : World) (b : Nat) (t : TypeId) (C : List Value) : Prop := w.heap[b]? = some (.cells C.toArray t (0, 0))
theorem Row.lt {w : World} {b : Nat} {t : TypeId} {C : List Value} (h : Row w b t C) : b < w.heap.size := (Array.getElem?_eq_some_iff.1 h).1
theorem Row.cell {w : World} {b : Nat} {t : TypeId} {C : List Value} (h : Row w b t C) (j : Nat) : w.cell? ⟨b, j, none⟩ = C[j]? := by
  simp [World.cell?, show w.heap[b]? = _ from h]
theorem Row.frozen {w : World} {b : Nat} {t : TypeId} {C : List Value} (h : Row w b t C) (j : Nat) : w.frozen? ⟨b, j, none⟩ = false := by
  simp [World.frozen?, show w.heap[b]? = _ from h]
theorem Row.new (w : World) (t : TypeId) (C : List Value) : Row (w.alloc (.cells C.toArray t)) w.heap.size t C := by
  show (w.heap.push _)[w.heap.size]? = _
  simp
theorem Row.next {w w' : World} {b : Nat} {t : TypeId} {C : List Value} (h : Row w b t C) (hb : Below w.heap.size w w') : Row w' b t C := (hb.block b h.lt).trans h
theorem Row.drew {w : World} {b : Nat} {t : TypeId} {C : List Value} (h : Row w b t C) : Row w.drew b t C := h
theorem Row.alloc {w : World} {b : Nat} {t : TypeId} {C : List Value} (h : Row w b t C) (o : Obj) : Row (w.alloc o) b t C := (Below.heap_alloc w o b h.lt).trans h
theorem Row.set {w : World} {b : Nat} {t : TypeId} {C : List Value} (h : Row w b t C) (j : Nat) (v : Value) : Row (w.setCell ⟨b, j, none⟩ v) b t (C.set j v) := by
  obtain ⟨hlt, hk⟩ := Array.getElem?_eq_some_iff.1 h
  show (w.heap.modify b _)[b]? = _
  rw [Array.getElem?_eq_getElem (by rw [Array.size_modify]; exact hlt), Array.getElem_modify_self, hk]
  simp
theorem Row.other {w : World} {b b' : Nat} {t : TypeId} {C : List Value} (h : Row w b t C) (hne : b ≠ b') (j : Nat) (v : Value) : Row (w.setCell ⟨b', j, none⟩ v) b t C := (Below.heap_setCell _ _ _ _ hne).trans h

/-- 'string(b)' of a row of bytes. -/
theorem Row.text {w : World} {b : Nat} {t : TypeId} {l : List UInt8} (h : Row w b t (l.map fun x => .int .u8 x.toNat)) (src dst e : TypeId) (cap : Nat) (hs : P.underlying src = some (.slice e)) (he : P.underlying e = some (.int .u8)) (hd : P.underlying dst = some .string) :
    (convert src dst (.slice (some ⟨b, 0, none⟩) l.length cap)).run P w = .ok (.string ⟨l.toArray⟩) w :=
  run_convert_bytes_back w src dst e ⟨b, 0, none⟩ cap l hs he hd fun j hj => by
    have e : Addr.add ⟨b, 0, none⟩ j = ⟨b, j, none⟩ := by unfold Addr.add; split <;> simp_all
    rw [e, h.cell]
    simp [hj]

theorem madeCells_one (z : Value) (hz : z.cells = #[z]) (n : Nat) : madeCells z.cells n = (List.replicate n z).toArray := by
  rw [hz]
  apply Array.ext
  · simp [madeCells]
  · intro i h1 h2
    simp [madeCells, Nat.mod_one]
theorem run_make_row (w : World) (t e : TypeId) (i : TypeInfo) (z : Value) (bytes : Nat) (ht : P.underlying t = some (.slice e)) (hi : P.info? e = some i) (hz : i.zero = some z) (hs : i.size = 1) (hb : i.bytes = bytes) (hc : z.cells = #[z]) (n : Nat) (hn : bytes * n ≤ 281474976710656) (h63 : n ≤ 9223372036854775807) :
    (Instr.makeSlice t (.int .i64 n) (.int .i64 n)).run P w = .ok (.slice (some ⟨w.heap.size, 0, none⟩) n n) (w.alloc (.cells (List.replicate n z).toArray e)) := by
  have h := run_make (P := P) w t e i z ht hi hz .i64 .i64 n n (by omega) (Int.le_refl _) (by rw [hb, ← Int.natCast_mul]; omega) (by omega)
  rw [Int.toNat_natCast, hs, Nat.mul_one, madeCells_one z hc] at h
  exact h
end
end Go.Proofs.YtnhlhoijajhcjaaDoor
