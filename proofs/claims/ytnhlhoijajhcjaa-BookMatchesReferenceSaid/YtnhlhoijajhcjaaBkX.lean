/- Worlds that differ in some blocks alone; bounds of sums. -/
import Derived.Test.YtnhlhoijajhcjaaBkU
import Derived.Test.YtnhlhoijajhcjaaBkV
set_option linter.unusedVariables false
set_option linter.unusedSimpArgs false
namespace Go.Proofs.Ytnhlhoijajhcjaa
open Go.RowKit
namespace Bk
open Sq
/-- from w to w' old blocks change in S alone -/
structure Ex (S : Nat → Prop) (w w' : World) : Prop where
  size : w.heap.size ≤ w'.heap.size
  block : ∀ j, j < w.heap.size → ¬ S j → w'.heap[j]? = w.heap[j]?
section
variable {S : Nat → Prop} {w w' v : World}
theorem Ex.refl (S : Nat → Prop) (w : World) : Ex S w w := ⟨Nat.le_refl _, fun _ _ _ => rfl⟩
theorem Ex.below (h : Ex S v w) (hb : Below w.heap.size w w') : Ex S v w' := ⟨Nat.le_trans h.size hb.size, fun j h1 h2 => (hb.block j (Nat.lt_of_lt_of_le h1 h.size)).trans (h.block j h1 h2)⟩
theorem Ex.set (h : Ex S v w) {b : Nat} (hb : S b) (i : Nat) (x : Value) : Ex S v (w.setCell ⟨b, i, none⟩ x) := ⟨by simpa using h.size, fun j h1 h2 => (Below.heap_setCell _ _ _ _ (fun e => h2 (by have e' : j = b := e; rw [e']; exact hb))).trans (h.block j h1 h2)⟩
theorem Ex.next (h : Ex S v w) (hb : Below w.heap.size w w') : Ex S v w' := h.below hb
theorem Ex.trans {u : World} (h : Ex S v w) (k : Ex S w u) : Ex S v u := ⟨Nat.le_trans h.size k.size, fun j h1 h2 => (k.block j (Nat.lt_of_lt_of_le h1 h.size) h2).trans (h.block j h1 h2)⟩
theorem cell_of_block {b off : Nat} (h : w'.heap[b]? = w.heap[b]?) : w'.cell? ⟨b, off, none⟩ = w.cell? ⟨b, off, none⟩ := by
  unfold World.cell?
  simp only [h]
theorem row_ex {b : Nat} {t : TypeId} {C : List Value} (h : Row w b t C) (hx : Ex S w w') (hb : ¬ S b) : Row w' b t C := (hx.block b h.lt hb).trans h
theorem sl_ex {α : Type} {E : El α} {o : Option Addr} {l : List α} {n : Nat} (h : Sl E w o l) (h0 : Sl E v o l) (hn : v.heap.size ≤ n) (hS : ∀ j, j < n → ¬ S j) (hx : Ex S w w') : Sl E w' o l := by
  rcases h with rfl | ⟨b, off, rfl, hl, hc⟩
  · exact .inl rfl
  · rcases h0 with rfl | ⟨b', off', e, hb, _⟩
    · exact .inl rfl
    · cases e
      exact .inr ⟨b, off, rfl, Nat.lt_of_lt_of_le hl hx.size, fun j x hx' i u hu => (cell_of_block (hx.block b hl (hS b (by omega)))).trans (hc j x hx' i u hu)⟩
theorem BkW.ex {o : Option Addr} {N c n : Nat} {l : List Po} (h : BkW w o N c l) (h0 : BkW v o N c l) (hn : v.heap.size ≤ n) (hS : ∀ j, j < n → ¬ S j) (hx : Ex S w w') : BkW w' o N c l := ⟨h.1, h.2.1, h.2.2.1, h.2.2.2.1, sl_ex h.2.2.2.2 h0.2.2.2.2 hn hS hx⟩
theorem own_ex {α : Type} {E : El α} {e : TypeId} {B0 : Nat} {v : Value} {l : List α} (h : Sq.Own E e w B0 v l) (hS : ∀ j, B0 ≤ j → ¬ S j) (hx : Ex S w w') : Sq.Own E e w' B0 v l := by
  refine ⟨h.1, ?_⟩
  rcases h.2 with h1 | ⟨g, cap, cur, e, hg, hb, h2⟩
  · exact .inl h1
  · exact .inr ⟨g, cap, cur, e, hg, (hx.block g (Array.getElem?_eq_some_iff.1 hb).1 (hS g hg)).trans hb, h2⟩
theorem InW.ex {B0 : Nat} {o : Option Addr} {N c : Nat} {l : List Int} (h : InW w B0 o N c l) (hS : ∀ j, B0 ≤ j → ¬ S j) (hx : Ex S w w') : InW w' B0 o N c l := ⟨h.1, own_ex h.2 hS hx⟩
theorem InW.at {B0 : Nat} {o : Option Addr} {N c : Nat} {l : List Int} (h : InW w B0 o N c l) {k : Nat} {x : Int} (hk : l[k]? = some x) : ∃ b, o = some ⟨b, 0, none⟩ ∧ b < w.heap.size ∧ B0 ≤ b ∧ w.cell? ⟨b, k, none⟩ = some (.int .i64 x) ∧ w.frozen? ⟨b, k, none⟩ = false := by
  have hs := h.2.sl
  have hn : 0 < l.length := by have := (List.getElem?_eq_some_iff.1 hk).1; omega
  rcases h.2.2 with ⟨h1, h2⟩ | ⟨g, cap, cur, h1, hg, hb, _⟩
  · omega
  · obtain ⟨rfl, -, -⟩ := Value.slice.inj h1
    obtain ⟨q1, q2⟩ := int_at hs hk
    rw [Nat.zero_add] at q2
    exact ⟨g, rfl, q1, hg, q2, (show Row w g _ cur.toList from hb).frozen k⟩
end
theorem sumK_bd {f : Nat → Int} {n : Nat} (h : ∀ k, k < n → -1000000000000 ≤ f k ∧ f k ≤ 1000000000000) : -(1000000000000 * (n : Int)) ≤ sumK f n ∧ sumK f n ≤ 1000000000000 * (n : Int) := by
  induction n with
  | zero => simp [sumK]
  | succ n ih =>
    have h1 := ih (fun k hk => h k (by omega))
    have h2 := h n (by omega)
    rw [sumK]
    omega
theorem map_at (f : Nat → Int) {A k : Nat} (h : k < A) : ((List.range A).map f)[k]? = some (f k) := by rw [List.getElem?_map, List.getElem?_range h]; rfl
/-- a valid book's numbers are small -/
theorem Vd.fm {acc cl : Int} {l : List Po} (h : Vd acc l cl) : ∀ p ∈ l, FmP acc p := fun p hp => by
  obtain ⟨i, hi, rfl⟩ := at_of_mem hp
  exact (h.2 i hi).1
theorem Vd.sT {acc cl : Int} {l : List Po} (h : Vd acc l cl) (m : Int) (t : Nat) : -1000000000000 ≤ sT l m t ∧ sT l m t ≤ 1000000000000 := sum_small h.fm (by have := h.1.2.2.2.2; omega) List.prefix_rfl t
theorem Vd.oT {acc cl : Int} {l : List Po} (h : Vd acc l cl) (m : Int) (t : Nat) : -1000000000000 ≤ oT l m t ∧ oT l m t ≤ 1000000000000 := alive_small h.fm (by have := h.1.2.2.2.2; omega) List.prefix_rfl t
theorem Vd.days {acc cl : Int} {l : List Po} (h : Vd acc l cl) : ∀ p ∈ l, inI p.day := fun p hp => by
  have := (h.fm p hp).2.1
  exact ⟨by omega, by omega⟩
theorem stB_some {acc cl m : Int} {l : List Po} (h : Vd acc l cl) (h1 : 0 ≤ m) (h2 : m < 12) : stB acc l cl m = some ((List.range acc.toNat).map (Bk.sT l m)) := if_pos ⟨vd_iff.2 h, h1, h2⟩
theorem owB_some {acc cl m : Int} {l : List Po} (h : Vd acc l cl) (h1 : 0 ≤ m) (h2 : m ≤ 999) : owB acc l cl m = some ((List.range acc.toNat).map (Bk.oT l m)) := if_pos ⟨vd_iff.2 h, h1, h2⟩
theorem stmt_at {cl : Int} {A : Nat} {o : Option Addr} {N c : Nat} {l : List Po} {w : World} (k : Nat) (hk : k < 12) (hv : Vd A l cl) (h : BkW w o N c l) :
    Calls Try.prog 19 #[bookV A o N c cl, .int .i64 k] w fun e w' => (∃ o' c', e = .returned (.tuple #[.slice o' A c', .int .i64 0]) ∧ InW w' w.heap.size o' A c' ((List.range A).map (Bk.sT l k))) ∧ Below w.heap.size w w' := by
  have q := stmt_is (s := (List.range A).map (Bk.sT l k)) (stB_some (m := k) hv (by omega) (by omega)) hv.days h
  simp only [List.length_map, List.length_range] at q
  exact q
theorem owed_at {cl : Int} {A : Nat} {o : Option Addr} {N c : Nat} {l : List Po} {w : World} (k : Nat) (hk : k < 6) (hv : Vd A l cl) (h : BkW w o N c l) :
    Calls Try.prog 24 #[bookV A o N c cl, .int .i64 k] w fun e w' => (∃ o' c', e = .returned (.tuple #[.slice o' A c', .int .i64 0]) ∧ InW w' w.heap.size o' A c' ((List.range A).map (Bk.oT l k))) ∧ Below w.heap.size w w' := by
  have q := owed_is (s := (List.range A).map (Bk.oT l k)) (owB_some (m := k) hv (by omega) (by omega)) h
  simp only [List.length_map, List.length_range] at q
  exact q
theorem bal_at {cl : Int} {A : Nat} {o : Option Addr} {N c : Nat} {l : List Po} {w : World} (t k : Nat) (ht : t < A) (hk : k < 12) (hv : Vd A l cl) (h : BkW w o N c l) :
    Calls Try.prog 21 #[bookV A o N c cl, .int .i64 t, .int .i64 k] w fun e w' => e = .returned (.tuple #[.int .i64 (Bk.sT l k t), .int .i64 0]) ∧ Below w.heap.size w w' := by
  have q := Balance_u A cl t k o N c l w hv.days h
  rw [if_pos ⟨⟨vd_iff.2 hv, by omega, by omega⟩, by omega, by omega⟩, Int.toNat_natCast] at q
  exact q
end Bk
end Go.Proofs.Ytnhlhoijajhcjaa
