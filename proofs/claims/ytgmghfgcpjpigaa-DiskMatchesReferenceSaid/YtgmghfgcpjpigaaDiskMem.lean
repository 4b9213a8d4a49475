/- A disk in memory: the blocks that it lies in, and what stays when some of them turn. -/
import Derived.Test.YtgmghfgcpjpigaaBytes
import Derived.Test.YtgmghfgcpjpigaaMem
import Derived.Test.YtgmghfgcpjpigaaDiskSpec
import Derived.Maps.AppendAt
import Derived.Lib.BufferWrite
import Derived.Lib.SliceRun
import Derived.OwnWalk
namespace Go.Proofs.Ytgmghfgcpjpigaa
open Go.RowKit

/-- Of the blocks of w, those of S alone may have turned. -/
structure Only (S : Nat → Prop) (w w' : World) : Prop where
  os : w'.os = w.os
  tape : w'.tape = w.tape
  output : w'.output = w.output
  size : w.heap.size ≤ w'.heap.size
  block : ∀ k, k < w.heap.size → ¬ S k → w'.heap[k]? = w.heap[k]?

section
variable {S T : Nat → Prop} {w w' w'' : World}
theorem Only.refl (S : Nat → Prop) (w : World) : Only S w w := ⟨rfl, rfl, rfl, Nat.le_refl _, fun _ _ _ => rfl⟩
theorem Only.trans (h : Only S w w') (k : Only T w' w'') (hT : ∀ j, T j → S j ∨ w.heap.size ≤ j) : Only S w w'' :=
  ⟨k.os.trans h.os, k.tape.trans h.tape, k.output.trans h.output, Nat.le_trans h.size k.size, fun j hj hS =>
    (k.block j (Nat.lt_of_lt_of_le hj h.size) (fun hTj => (hT j hTj).elim hS (by omega))).trans (h.block j hj hS)⟩
theorem Only.mono (h : Only S w w') (hT : ∀ j, S j → T j) : Only T w w' := ⟨h.os, h.tape, h.output, h.size, fun j hj hS => h.block j hj (fun hs => hS (hT j hs))⟩
theorem Only.drew (h : Only S w w') : Only S w w'.drew := ⟨h.os, h.tape, h.output, h.size, h.block⟩
theorem Only.of_below (h : Below w.heap.size w w') : Only S w w' := ⟨h.os, h.tape, h.output, h.size, fun j hj _ => h.block j hj⟩
theorem Only.then_below (h : Only S w w') (k : Below w'.heap.size w' w'') : Only S w w'' := h.trans (Only.of_below (S := fun _ => False) k) (fun _ hf => hf.elim)
theorem Only.alloc (h : Only S w w') (o : Obj) : Only S w (w'.alloc o) := h.then_below ((Below.refl _ _).alloc (Nat.le_refl _) o)
theorem Only.setCell (h : Only S w w') {p : Addr} (hp : S p.block ∨ w.heap.size ≤ p.block) (u : Value) : Only S w (w'.setCell p u) :=
  h.trans (T := fun j => j = p.block) ⟨rfl, rfl, rfl, by simp [World.setCell], fun j _ hj => Below.heap_setCell _ _ _ _ hj⟩ (fun j hj => by subst hj; exact hp)
theorem Only.setRow (h : Only S w w') {g : Nat} (hp : S g ∨ w.heap.size ≤ g) (cs : Array Value) : Only S w (w'.setRow g cs) :=
  h.trans (T := fun j => j = g) ⟨rfl, rfl, rfl, by simp [World.setRow], fun j _ hj => setRow_other w' g j cs hj⟩ (fun j hj => by subst hj; exact hp)
theorem Only.grown {row : Option Nat} (h : Only S w w') (hg : w'.grownBy w'' row) (hr : ∀ k, row = some k → S k ∨ w.heap.size ≤ k) : Only S w w'' :=
  h.trans (T := fun j => row = some j) ⟨hg.os, hg.tape, hg.output, hg.size, fun j hj hne => hg.block j hj (fun e => hne e.symm)⟩ (fun j hj => hr j hj)
theorem Only.below {B : Nat} (h : Only S w w') (hB : B ≤ w.heap.size) (hS : ∀ k, S k → B ≤ k) : Below B w w' :=
  ⟨h.os, h.tape, h.output, h.size, fun j hj => h.block j (Nat.lt_of_lt_of_le hj hB) (fun hs => by have := hS j hs; omega)⟩
theorem Only.row {b : Nat} {t : TypeId} {C : List Value} (h : Only S w w') (hR : Row w b t C) (hb : ¬ S b) : Row w' b t C := (h.block b hR.lt hb).trans hR
theorem Only.cell (h : Only S w w') {a : Addr} {v : Value} (hc : w.cell? a = some v) (hb : ¬ S a.block) : w'.cell? a = some v :=
  (World.cell?_of_block (h.block _ (World.block_lt_of_cell? w a hc) hb)).trans hc
end

theorem Row.setRow {w : World} {b : Nat} {t : TypeId} {C : List Value} (h : Row w b t C) (D : List Value) : Row (w.setRow b D.toArray) b t D := setRow_heap w b _ _ t _ h
theorem Row.beside {w : World} {b g : Nat} {t : TypeId} {C : List Value} (h : Row w b t C) (hne : b ≠ g) (D : Array Value) : Row (w.setRow g D) b t C := (setRow_other w g b D hne).trans h
theorem Row.same {w w' : World} {b : Nat} {t : TypeId} {C : List Value} (h : Row w b t C) (e : w'.heap[b]? = w.heap[b]?) : Row w' b t C := e.trans h

abbrev byteV (b : UInt8) : Value := .int .u8 b.toNat
def pendC (l : List (Nat × ByteArray)) : List Value := l.flatMap fun p => [.int .i64 p.1, .string p.2]
theorem pendC_length (l : List (Nat × ByteArray)) : (pendC l).length = l.length * 2 := by
  induction l with
  | nil => rfl
  | cons p l ih => simp only [pendC, List.flatMap_cons, List.length_append, List.length_cons, List.length_nil] at ih ⊢; omega
theorem pendC_append (l m : List (Nat × ByteArray)) : pendC (l ++ m) = pendC l ++ pendC m := by simp [pendC]
theorem pendC_at (l : List (Nat × ByteArray)) : ∀ (i : Nat) (p : Nat × ByteArray), l[i]? = some p → (pendC l)[2 * i]? = some (.int .i64 p.1) ∧ (pendC l)[2 * i + 1]? = some (.string p.2) := by
  induction l with
  | nil => intro i p h; simp at h
  | cons q l ih =>
    intro i p h
    cases i with
    | zero =>
      obtain rfl : q = p := by simpa using h
      exact ⟨rfl, rfl⟩
    | succ i =>
      have := ih i p (by simpa using h)
      exact this

/-- The disk at block D, with its contents in G1 and G2 and the slice pv of pending writes. -/
structure DiskAt (w : World) (D G1 G2 : Nat) (pv : Value) (n : Nat) (s : DS) : Prop where
  head : Row w D 65 [.bool s.off, .int .i64 s.after, .slice (some ⟨G1, 0, none⟩) n n, .slice (some ⟨G2, 0, none⟩) n n, pv]
  sure : Row w G1 5 (s.sure.map byteV)
  vis : Row w G2 5 (s.vis.map byteV)
  apart : G1 ≠ G2
  pend : w.ownsRow 0 69 2 pv s.pend.length (pendC s.pend)
  good : s.Good n
  room : n ≤ 4194304

def Foot (D G1 G2 : Nat) (pv : Value) (k : Nat) : Prop := k = D ∨ k = G1 ∨ k = G2 ∨ pv.ownBlock = some k

/-- The disk at block D lies in the blocks of F. -/
def Disk (w : World) (F : Nat → Prop) (D n : Nat) (s : DS) : Prop := ∃ G1 G2 pv, DiskAt w D G1 G2 pv n s ∧ F = Foot D G1 G2 pv

theorem ownsRow_same {w w' : World} {b0 : Nat} {e : TypeId} {size k : Nat} {v : Value} {xs : List Value} (h : w.ownsRow b0 e size v k xs) (hk : ∀ g, v.ownBlock = some g → w'.heap[g]? = w.heap[g]?) : w'.ownsRow b0 e size v k xs := by
  obtain ⟨h1, h2⟩ := h
  refine ⟨h1, ?_⟩
  rcases h2 with h2 | ⟨g, cap, cur, rfl, h4, h5, h6⟩
  · exact .inl h2
  · exact .inr ⟨g, cap, cur, rfl, h4, (hk g rfl).trans h5, h6⟩

theorem DiskAt.keep {w w' : World} {D G1 G2 n : Nat} {pv : Value} {s : DS} (h : DiskAt w D G1 G2 pv n s) (hk : ∀ k, Foot D G1 G2 pv k → w'.heap[k]? = w.heap[k]?) : DiskAt w' D G1 G2 pv n s :=
  ⟨h.head.same (hk _ (.inl rfl)), h.sure.same (hk _ (.inr (.inl rfl))), h.vis.same (hk _ (.inr (.inr (.inl rfl)))), h.apart, ownsRow_same h.pend (fun g hg => hk g (.inr (.inr (.inr hg)))), h.good, h.room⟩
theorem Row.type {w : World} {b : Nat} {t t' : TypeId} {C C' : List Value} (h : Row w b t C) (h' : Row w b t' C') : t = t' := by
  have := h.symm.trans h'
  simp at this
  exact this.2
theorem DiskAt.pend_ne {w : World} {D G1 G2 n : Nat} {pv : Value} {s : DS} (h : DiskAt w D G1 G2 pv n s) : pv.ownBlock ≠ some D ∧ pv.ownBlock ≠ some G1 ∧ pv.ownBlock ≠ some G2 := by
  rcases h.pend.2 with ⟨rfl, _⟩ | ⟨g, cap, cur, rfl, h4, h5, h6⟩
  · simp [Value.ownBlock]
  · have key : ∀ (b : Nat) (t : TypeId) (C : List Value), Row w b t C → t ≠ 69 → g ≠ b := by
      rintro b t C hR ht rfl
      have := hR.symm.trans h5
      simp at this
      exact ht this.2
    simp only [Value.ownBlock, ne_eq, Option.some.injEq]
    exact ⟨key _ _ _ h.head (by decide), key _ _ _ h.sure (by decide), key _ _ _ h.vis (by decide)⟩
theorem DiskAt.ne {w : World} {D G1 G2 n : Nat} {pv : Value} {s : DS} (h : DiskAt w D G1 G2 pv n s) : D ≠ G1 ∧ D ≠ G2 ∧ G1 ≠ G2 := by
  refine ⟨?_, ?_, h.apart⟩
  · rintro rfl
    have := h.head.type h.sure
    revert this; decide
  · rintro rfl
    have := h.head.type h.vis
    revert this; decide
theorem DiskAt.lt {w : World} {D G1 G2 n : Nat} {pv : Value} {s : DS} (h : DiskAt w D G1 G2 pv n s) : ∀ k, Foot D G1 G2 pv k → k < w.heap.size := by
  rintro k (rfl | rfl | rfl | hk)
  · exact h.head.lt
  · exact h.sure.lt
  · exact h.vis.lt
  · exact (h.pend.lt k hk).2

theorem Disk.keep {w w' : World} {F : Nat → Prop} {D n : Nat} {s : DS} (h : Disk w F D n s) (hk : ∀ k, F k → w'.heap[k]? = w.heap[k]?) : Disk w' F D n s := by
  obtain ⟨G1, G2, pv, h1, rfl⟩ := h
  exact ⟨G1, G2, pv, h1.keep hk, rfl⟩
theorem Disk.lt {w : World} {F : Nat → Prop} {D n : Nat} {s : DS} (h : Disk w F D n s) : ∀ k, F k → k < w.heap.size := by
  obtain ⟨G1, G2, pv, h1, rfl⟩ := h
  exact h1.lt
theorem Disk.next {w w' : World} {F : Nat → Prop} {D n : Nat} {s : DS} (h : Disk w F D n s) (hb : Below w.heap.size w w') : Disk w' F D n s := h.keep (fun k hk => hb.block k (h.lt k hk))
theorem Disk.only {w w' : World} {F S : Nat → Prop} {D n : Nat} {s : DS} (h : Disk w F D n s) (hb : Only S w w') (hS : ∀ k, S k → ¬ F k) : Disk w' F D n s := h.keep (fun k hk => hb.block k (h.lt k hk) (fun hs => hS k hs hk))
theorem Disk.good {w : World} {F : Nat → Prop} {D n : Nat} {s : DS} (h : Disk w F D n s) : s.Good n ∧ n ≤ 4194304 := by
  obtain ⟨G1, G2, pv, h1, rfl⟩ := h
  exact ⟨h1.good, h1.room⟩

/-- What a call on the disk leaves. -/
def DStep (w w' : World) (F : Nat → Prop) (D n : Nat) (s' : DS) : Prop := Only F w w' ∧ ∃ F', Disk w' F' D n s' ∧ ∀ k, F' k → F k ∨ w.heap.size ≤ k
end Go.Proofs.Ytgmghfgcpjpigaa
