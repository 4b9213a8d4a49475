/- LabelSeparates: its mathematics, and what lies in memory while it collects all keys. -/
import Derived.Test.YthjolojpjajppaaGreatLbMG
set_option linter.unusedVariables false
set_option linter.unusedSimpArgs false
set_option linter.unnecessarySimpa false
namespace Go.Proofs.YthjolojpjajppaaGreat
open Go.RowKit
namespace Lb
open Sq
/-- all numbers below n -/
def kr : Nat → List Int
  | 0 => []
  | n + 1 => kr n ++ [(n : Int)]
theorem kr_len : ∀ n, (kr n).length = n
  | 0 => rfl
  | n + 1 => by
    show (kr n ++ [(n : Int)]).length = n + 1
    rw [List.length_append, kr_len n]
    rfl
theorem kr_in : ∀ (n : Nat) (x : Int), x ∈ kr n → 0 ≤ x ∧ x < n
  | n + 1, x, h => by
    rcases List.mem_append.1 h with h | h
    · have := kr_in n x h; omega
    · rw [List.mem_singleton] at h; omega
theorem kr_asc : ∀ n, ascB (ltB cmpI) (kr n) = true
  | 0 => rfl
  | n + 1 => by
    rw [ltB_I]
    exact asc_snoc _ _ (by rw [← ltB_I]; exact kr_asc n) (fun x hx => (kr_in n x hx).2)
def anyN (f : Nat → Bool) : Nat → Bool
  | 0 => false
  | n + 1 => anyN f n || f n
theorem anyN_iff {f : Nat → Bool} : ∀ {n : Nat}, anyN f n = true ↔ ∃ i, i < n ∧ f i = true
  | 0 => by simp [anyN]
  | n + 1 => by
    unfold anyN
    rw [Bool.or_eq_true, anyN_iff (n := n)]
    constructor
    · rintro (⟨i, h1, h2⟩ | h)
      · exact ⟨i, by omega, h2⟩
      · exact ⟨n, by omega, h⟩
    · rintro ⟨i, h1, h2⟩
      by_cases e : i = n
      · subst e; exact .inr h2
      · exact .inl ⟨i, by omega, h2⟩
/-- the moment at which b demands nothing more -/
def mB (b : Lb) (o : Option Addr) (c : Nat) : Mo := ⟨b.till, 0, b.eo, b.en, b.ec, b.ev, b.co, b.cn, b.cc, b.cs, o, 20, c, kr 20⟩
theorem mB_vm {b : Lb} {o : Option Addr} {c : Nat} (h : Vd b.p) : Vm (mB b o c) :=
  ⟨h.t0, h.t1, Int.le_refl 0, (show (0 : Int) ≤ 1440 by decide), h.ea, h.ef, h.ca, fun x hx => (by have := h.cf x hx; omega), kr_asc 20, fun x hx => (by have := kr_in 20 x hx; omega)⟩
def F9 (b : Lb) (m : Mo) (i : Nat) : Bool := openL b ((i / 8 : Nat) : Int) ((i % 8 : Nat) : Int) m
def F10 (a b : Lb) (m : Mo) (i : Nat) : Bool := F9 b m i && !F9 a m i
theorem F9_at (b : Lb) (m : Mo) {t c : Nat} (h : c < 8) : F9 b m (8 * t + c) = openL b t c m := by
  unfold F9
  rw [show (8 * t + c) / 8 = t by omega, show (8 * t + c) % 8 = c by omega]
theorem separates_law {a b : Lb} {o : Option Addr} {c : Nat} (ha : vdL a = true) (hb : vdL b = true) (va : Vd a.p) (vb : Vd b.p) (hk : a.lk = []) (h : anyN (F9 b (mB b o c)) 64 = true) : anyN (F10 a b (mB b o c)) 64 = !belowL a b := by
  have hm := mB_vm (o := o) (c := c) vb
  have op : ∀ (x : Lb), vdL x = true → Vd x.p → ∀ t d, t ≤ 7 → d ≤ 7 → (F9 x (mB b o c) (8 * t + d) = true ↔ Opn x.p t d (mB b o c)) := fun x h1 h2 t d ht hd => by
    rw [F9_at _ _ (by omega), open_iff h1 h2 ht hd hm]
  have split : ∀ i, i < 64 → ∃ t d, t ≤ 7 ∧ d ≤ 7 ∧ i = 8 * t + d := fun i hi => ⟨i / 8, i % 8, by omega, by omega, by omega⟩
  obtain ⟨i0, hi0, h0⟩ := anyN_iff.1 h
  obtain ⟨t0, d0, ht0, hd0, rfl⟩ := split i0 hi0
  have o0 := (op b hb vb t0 d0 ht0 hd0).1 h0
  cases hz : belowL a b with
  | true =>
    have g := (below_iff ha hb va vb).1 hz
    cases h10 : anyN (F10 a b (mB b o c)) 64 with
    | false => rfl
    | true =>
      obtain ⟨i, hi, h1⟩ := anyN_iff.1 h10
      obtain ⟨t, d, ht, hd, rfl⟩ := split i hi
      unfold F10 at h1
      rw [Bool.and_eq_true] at h1
      have h2 := opn_ble g ((op b hb vb t d ht hd).1 h1.1)
      rw [(op a ha va t d ht hd).2 h2] at h1
      exact absurd h1.2 (by decide)
  | false =>
    show _ = true
    rw [anyN_iff]
    refine Decidable.by_contra fun hn => ?_
    have all : ∀ t d, t ≤ 7 → d ≤ 7 → Opn b.p t d (mB b o c) → Opn a.p t d (mB b o c) := fun t d ht hd hO => by
      cases h3 : F9 a (mB b o c) (8 * t + d) with
      | true => exact (op a ha va t d ht hd).1 h3
      | false =>
        refine absurd ⟨8 * t + d, by omega, ?_⟩ hn
        unfold F10
        rw [(op b hb vb t d ht hd).2 hO, h3]
        rfl
    have a0 := all t0 d0 ht0 hd0 o0
    have g : Ble a.p b.p := by
      refine ⟨?_, a0.e, a0.c, fun k hk => ?_, fun k hk => ?_, fun q hq => ?_⟩
      · have h1 : a.p.till ≤ b.till - 0 := a0.t
        have h2 : b.p.till = b.till := rfl
        omega
      · have hk7 := tB_lt vb.tr.2 hk
        exact (all k d0 (by omega) hd0 ⟨hk, o0.cl, o0.t, o0.e, o0.c, o0.k⟩).tr
      · have hk7 := tB_lt vb.cl.2 hk
        exact (all t0 k ht0 (by omega) ⟨o0.tr, hk, o0.t, o0.e, o0.c, o0.k⟩).cl
      · have : a.p.ks = [] := by show a.lk.map pK = []; rw [hk]; rfl
        rw [this] at hq
        cases hq
    rw [(below_iff ha hb va vb).2 g] at hz
    cases hz
/-- the moment's variable while its keys grow -/
def SG (w6 W : World) (bM : Nat) (b : Lb) (l : List Int) : Prop := ∃ o c, Row W bM 30 [.int .i64 b.till, .int .i64 0, .slice b.eo b.en b.ec, .slice b.co b.cn b.cc, .slice o l.length c] ∧ Sq.Own intE 3 W w6.heap.size (.slice o l.length c) l ∧ Below w6.heap.size w6 W
theorem sg_next {w6 W W1 w4 : World} {bM n c n4 c4 : Nat} {b : Lb} {l l4 : List Int} {o o4 : Option Addr} (rm : Row W bM 30 [.int .i64 b.till, .int .i64 0, .slice b.eo b.en b.ec, .slice b.co b.cn b.cc, .slice o n c]) (ow : Sq.Own intE 3 W w6.heap.size (.slice o n c) l) (hw : Below w6.heap.size w6 W) (hM : w6.heap.size ≤ bM)
    (hB : Below W.heap.size W W1) (hg : W1.grownBy w4 (Value.slice o n c).ownBlock) (ho : Sq.Own intE 3 w4 w6.heap.size (.slice o4 n4 c4) l4) (hl : l4.length = n4) : SG w6 (w4.setCell ⟨bM, 4, none⟩ (.slice o4 n4 c4)) bM b l4 := by
  subst hl
  have r4 := row_beside (rm.next hB) (ow.next hB) (by decide) hg
  have b1 := Below.andThen hw hB
  exact ⟨o4, c4, r4.set 4 _, own_set ho r4 (by decide), (Below.grown b1 hg b1.size (own_block (ow.next hB))).setCell (p := ⟨bM, 4, none⟩) hM _⟩
end Lb
end Go.Proofs.YthjolojpjajppaaGreat
