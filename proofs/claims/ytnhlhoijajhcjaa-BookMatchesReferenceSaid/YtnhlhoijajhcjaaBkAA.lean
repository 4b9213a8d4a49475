/- What BookMatchesReference asks of both, in forms without cases. -/
import Derived.Test.YtnhlhoijajhcjaaBkY
set_option linter.unusedVariables false
set_option linter.unusedSimpArgs false
namespace Go.Proofs.Ytnhlhoijajhcjaa
open Go.RowKit
namespace Bk
open Sq
def erS (x : Option (List Int)) : Int := match x with | none => 310 | some _ => 0
def balV (acc : Int) (l : List Po) (cl a m : Int) : Int := if BalP acc l cl a m then sT l m a.toNat else 0
def balE (acc : Int) (l : List Po) (cl a m : Int) : Int := if BalP acc l cl a m then 0 else 310
theorem ins_of {B0 : Nat} {x : Option (List Int)} {e : Ending} {w : World} (h : InEr B0 x e w) : ∃ o N c, e = .returned (.tuple #[.slice o N c, .int .i64 (erS x)]) ∧ InW w B0 o N c (x.getD []) := by
  obtain ⟨o, N, c, rfl, h1, h2⟩ := h
  refine ⟨o, N, c, ?_, h1, h2⟩
  cases x <;> rfl
theorem bal_of {acc cl a m : Int} {l : List Po} : (if StP acc l cl m ∧ 0 ≤ a ∧ a < acc then (.tuple #[.int .i64 (sT l m a.toNat), .int .i64 0] : Value) else errZ) = .tuple #[.int .i64 (balV acc l cl a m), .int .i64 (balE acc l cl a m)] := by
  unfold balV balE
  by_cases h : BalP acc l cl a m
  · rw [if_pos (show StP acc l cl m ∧ 0 ≤ a ∧ a < acc from h), if_pos h, if_pos h]
  · rw [if_neg (show ¬ (StP acc l cl m ∧ 0 ≤ a ∧ a < acc) from h), if_neg h, if_neg h]
/-- a book's data -/
structure Bd where
  acc : Int
  cl : Int
  o : Option Addr
  N : Nat
  c : Nat
  l : List Po
def Bd.ok (X : Bd) (w : World) : Prop := BkW w X.o X.N X.c X.l ∧ X.N ≤ 48 ∧ ∀ p ∈ X.l, inI p.day
theorem Bd.ok.next {X : Bd} {w w' : World} (h : X.ok w) (hb : Below w.heap.size w w') : X.ok w' := ⟨h.1.next hb, h.2⟩
/-- two books in a row -/
def Two (w : World) (b : Nat) (X Y : Bd) : Prop := Row w b 24 [.int .i64 X.acc, .slice X.o X.N X.c, .int .i64 X.cl, .int .i64 Y.acc, .slice Y.o Y.N Y.c, .int .i64 Y.cl] ∧ X.ok w ∧ Y.ok w
theorem Two.next {w w' : World} {b : Nat} {X Y : Bd} (h : Two w b X Y) (hb : Below w.heap.size w w') : Two w' b X Y := ⟨h.1.next hb, h.2.1.next hb, h.2.2.next hb⟩
theorem Two.at {w : World} {b j : Nat} {X Y : Bd} (h : Two w b X Y) (hj : j < 2) : ∃ Z : Bd, Z.ok w ∧ b < w.heap.size ∧ w.cell? ⟨b, j * 3, none⟩ = some (.int .i64 Z.acc) ∧ w.cell? ⟨b, j * 3 + 1, none⟩ = some (.slice Z.o Z.N Z.c) ∧ w.cell? ⟨b, j * 3 + 2, none⟩ = some (.int .i64 Z.cl) := by
  match j, hj with
  | 0, _ => exact ⟨X, h.2.1, h.1.lt, h.1.cell 0, h.1.cell 1, h.1.cell 2⟩
  | 1, _ => exact ⟨Y, h.2.2, h.1.lt, h.1.cell 3, h.1.cell 4, h.1.cell 5⟩
/-- a few numbers in a row -/
theorem few_at {w : World} {b : Nat} {vs : List Int} (h : Row w b 3 (vs.map (Value.int .i64))) {t : Nat} (ht : t < vs.length) : ∃ v, v ∈ vs ∧ b < w.heap.size ∧ w.cell? ⟨b, t, none⟩ = some (.int .i64 v) := by
  refine ⟨vs[t], List.getElem_mem ht, h.lt, ?_⟩
  rw [h.cell, List.getElem?_map, List.getElem?_eq_getElem ht]
  rfl
theorem stB_len (acc : Int) (l : List Po) (cl m : Int) : ((stB acc l cl m).getD []).length ≤ 12 := by
  unfold stB
  split
  · rename_i h
    have := (vd_iff.1 h.1).1.2.1
    simp
    omega
  · simp
theorem owB_len (acc : Int) (l : List Po) (cl m : Int) : ((owB acc l cl m).getD []).length ≤ 12 := by
  unfold owB
  split
  · rename_i h
    have := (vd_iff.1 h.1).1.2.1
    simp
    omega
  · simp
theorem Balance_w (acc cl a m : Int) (o : Option Addr) (N c : Nat) (l : List Po) (w : World) (hd : ∀ p ∈ l, inI p.day) (h : BkW w o N c l) :
    Calls Try.prog 21 #[bookV acc o N c cl, .int .i64 a, .int .i64 m] w fun e w' => e = .returned (.tuple #[.int .i64 (balV acc l cl a m), .int .i64 (balE acc l cl a m)]) ∧ Below w.heap.size w w' := by
  have q := Balance_u acc cl a m o N c l w hd h
  rw [bal_of] at q
  exact q
theorem rBalance_w (acc cl a m : Int) (o : Option Addr) (N c : Nat) (l : List Po) (w : World) (h : BkW w o N c l) :
    Calls Try.prog 22 #[bookV acc o N c cl, .int .i64 a, .int .i64 m] w fun e w' => e = .returned (.tuple #[.int .i64 (balV acc l cl a m), .int .i64 (balE acc l cl a m)]) ∧ Below w.heap.size w w' := by
  have q := rBalance_any acc cl a m o N c l w h
  rw [bal_of] at q
  exact q
theorem Statement_u_w (acc cl m : Int) (o : Option Addr) (N c : Nat) (l : List Po) (w : World) (hd : ∀ p ∈ l, inI p.day) (h : BkW w o N c l) :
    Calls Try.prog 19 #[bookV acc o N c cl, .int .i64 m] w fun e w' => (∃ o' N' c', e = .returned (.tuple #[.slice o' N' c', .int .i64 (erS (stB acc l cl m))]) ∧ InW w' w.heap.size o' N' c' ((stB acc l cl m).getD [])) ∧ Below w.heap.size w w' := by
  first
    | exact (Statement_u acc cl m o N c l w hd h).mono fun _ _ q => ⟨ins_of q.1, q.2⟩
    | exact (Statement_u acc cl m o N c l w h).mono fun _ _ q => ⟨ins_of q.1, q.2⟩
theorem rStatement_u_w (acc cl m : Int) (o : Option Addr) (N c : Nat) (l : List Po) (w : World) (hd : ∀ p ∈ l, inI p.day) (h : BkW w o N c l) :
    Calls Try.prog 20 #[bookV acc o N c cl, .int .i64 m] w fun e w' => (∃ o' N' c', e = .returned (.tuple #[.slice o' N' c', .int .i64 (erS (stB acc l cl m))]) ∧ InW w' w.heap.size o' N' c' ((stB acc l cl m).getD [])) ∧ Below w.heap.size w w' := by
  first
    | exact (rStatement_u acc cl m o N c l w hd h).mono fun _ _ q => ⟨ins_of q.1, q.2⟩
    | exact (rStatement_u acc cl m o N c l w h).mono fun _ _ q => ⟨ins_of q.1, q.2⟩
theorem Owed_u_w (acc cl m : Int) (o : Option Addr) (N c : Nat) (l : List Po) (w : World) (hd : ∀ p ∈ l, inI p.day) (h : BkW w o N c l) :
    Calls Try.prog 24 #[bookV acc o N c cl, .int .i64 m] w fun e w' => (∃ o' N' c', e = .returned (.tuple #[.slice o' N' c', .int .i64 (erS (owB acc l cl m))]) ∧ InW w' w.heap.size o' N' c' ((owB acc l cl m).getD [])) ∧ Below w.heap.size w w' := by
  first
    | exact (Owed_u acc cl m o N c l w hd h).mono fun _ _ q => ⟨ins_of q.1, q.2⟩
    | exact (Owed_u acc cl m o N c l w h).mono fun _ _ q => ⟨ins_of q.1, q.2⟩
theorem rOwed_u_w (acc cl m : Int) (o : Option Addr) (N c : Nat) (l : List Po) (w : World) (hd : ∀ p ∈ l, inI p.day) (h : BkW w o N c l) :
    Calls Try.prog 25 #[bookV acc o N c cl, .int .i64 m] w fun e w' => (∃ o' N' c', e = .returned (.tuple #[.slice o' N' c', .int .i64 (erS (owB acc l cl m))]) ∧ InW w' w.heap.size o' N' c' ((owB acc l cl m).getD [])) ∧ Below w.heap.size w w' := by
  first
    | exact (rOwed_u acc cl m o N c l w hd h).mono fun _ _ q => ⟨ins_of q.1, q.2⟩
    | exact (rOwed_u acc cl m o N c l w h).mono fun _ _ q => ⟨ins_of q.1, q.2⟩
/-- the same book twice -/
theorem same_is {x : Option Bo} {o1 o2 : Option Addr} {n1 c1 n2 c2 : Nat} {w : World} (h1 : BkW w o1 n1 c1 (boV x).l) (h2 : BkW w o2 n2 c2 (boV x).l) (hn : n1 ≤ 2 ^ 40) :
    Calls Try.prog 13 #[bookV (boV x).acc o1 n1 c1 (boV x).cl, bookV (boV x).acc o2 n2 c2 (boV x).cl] w fun e w' => e = .returned (.bool true) ∧ Below w.heap.size w w' := by
  have q := rSame_any (boV x).acc (boV x).cl o1 n1 c1 (boV x).acc (boV x).cl o2 n2 c2 (boV x).l (boV x).l w hn h1 h2
  rw [decide_eq_true (show SameP _ _ _ _ _ _ from ⟨rfl, rfl, rfl⟩)] at q
  exact q
theorem inw_same {B1 B2 : Nat} {o1 o2 : Option Addr} {N1 c1 N2 c2 : Nat} {l : List Int} {w : World} (h1 : InW w B1 o1 N1 c1 l) (h2 : InW w B2 o2 N2 c2 l) (hn : l.length ≤ 12) :
    Calls Try.prog 23 #[.slice o1 N1 c1, .slice o2 N2 c2] w fun e w' => e = .returned (.bool true) ∧ Below w.heap.size w w' := by
  have q := rInts_any o1 N1 c1 o2 N2 c2 l l w h1.1 h2.1 (by have := h1.1; omega) h1.cap h2.cap h1.2.sl h2.2.sl
  rw [decide_eq_true rfl] at q
  exact q
theorem postB_len {acc cl : Int} {l : List Po} {p : Po} {N : Nat} (h : l.length = N) : (boV (postB acc l cl p)).l.length ≤ N + 1 := by
  unfold postB post
  split
  · show (l ++ [p]).length ≤ _
    rw [len_snoc]
    omega
  · exact Nat.zero_le _
theorem dispB_len {acc cl i day amt : Int} {l : List Po} {N : Nat} (h : l.length = N) : (boV (dispB acc l cl i day amt)).l.length ≤ N + 2 := by
  by_cases hc : 0 ≤ i ∧ i < l.length ∧ 0 ≤ amt ∧ amt ≤ 1000000000
  · rw [dispB_ok hc]
    have h1 := postB_len (acc := acc) (cl := cl) (p := back (at' l i.toNat) i day) h
    cases hp : postB acc l cl (back (at' l i.toNat) i day) with
    | none => exact Nat.zero_le _
    | some C =>
      rw [hp] at h1
      have h3 : C.l.length ≤ N + 1 := h1
      show (boV (if amt = 0 then some C else postB C.acc C.l C.cl (again (at' l i.toNat) day amt))).l.length ≤ N + 2
      split
      · show C.l.length ≤ _
        omega
      · have := postB_len (acc := C.acc) (cl := C.cl) (l := C.l) (p := again (at' l i.toNat) day amt) rfl
        omega
  · rw [dispB_bad hc]
    exact Nat.zero_le _
theorem closeB_len {acc cl m : Int} {l : List Po} {N : Nat} (h : l.length = N) : (boV (closeB acc l cl m)).l.length ≤ N := by
  unfold closeB
  split
  · show l.length ≤ _
    omega
  · exact Nat.zero_le _
theorem bkw_take {w : World} {o : Option Addr} {N c M : Nat} {l : List Po} (h : BkW w o N c l) (hM : M ≤ N) : BkW w o M c (l.take M) :=
  ⟨by rw [List.length_take, h.1]; omega, by have := h.2.1; omega, h.2.2.1, h.2.2.2.1, h.2.2.2.2.take M⟩
theorem fv_apart {w w0 : World} {o : Option Addr} {n b i : Nat} {L : List F5} (h : Fv w o n L) (h0 : Fv w0 o n L) (hb : w0.heap.size ≤ b) (v : Value) : Fv (w.setCell ⟨b, i, none⟩ v) o n L :=
  ⟨h.1, h.2.1, h.2.2.1, sl_ex (S := fun j => j = b) h.2.2.2 h0.2.2.2 hb (fun j hj e => by omega) ((Ex.refl (fun j => j = b) _).set (b := b) rfl _ _)⟩
end Bk
end Go.Proofs.Ytnhlhoijajhcjaa
