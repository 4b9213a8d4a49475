/- the reference's Made: what lies in memory; its order of locks. -/
import Derived.Test.YthjolojpjajppaaGreatLGM
import Derived.Test.YthjolojpjajppaaGreatLbRC
import Derived.Test.YthjolojpjajppaaGreatLbKA
import Derived.Test.YthjolojpjajppaaGreatLGE
set_option linter.unusedVariables false
set_option linter.unusedSimpArgs false
set_option linter.unnecessarySimpa false
namespace Go.Proofs.YthjolojpjajppaaGreat
open Go.RowKit
namespace Lb
open Sq
theorem rcmp_lt : ∀ (l m : List Int), (∀ x ∈ l, 0 ≤ x ∧ x ≤ 1000) → (∀ x ∈ m, 0 ≤ x ∧ x ≤ 1000) → (rcmp l m < 0 ↔ cmpL l m < 0)
  | [], [], _, _ => by simp [rcmp, cmpL]
  | [], _ :: _, _, _ => by first | (simp [rcmp, cmpL]; done) | (simp [rcmp, cmpL]; omega)
  | _ :: _, [], _, _ => by first | (simp [rcmp, cmpL]; done) | (simp [rcmp, cmpL]; omega)
  | a :: l, b :: m, hl, hm => by
    have h1 := hl a List.mem_cons_self
    have h2 := hm b List.mem_cons_self
    have ih := rcmp_lt l m (fun x hx => hl x (List.mem_cons_of_mem _ hx)) (fun x hx => hm x (List.mem_cons_of_mem _ hx))
    have h3 := cmpI_eq a b
    have h4 := cmpI_lt a b
    unfold cmpL
    by_cases e : a = b
    · rw [if_pos (h3.2 e), show rcmp (a :: l) (b :: m) = rcmp l m from if_pos e, ih]
    · rw [if_neg (fun q => e (h3.1 q)), show rcmp (a :: l) (b :: m) = wrap64 (a - b) from if_neg e]
      unfold wrap64
      omega
/-- keys that are few numbers -/
def inK (l : List Int) : Prop := ∀ x ∈ l, 0 ≤ x ∧ x ≤ 1000
theorem rbK_is {x y : Lk} (hx : inK x.keys) (hy : inK y.keys) : rbK x y = ltB cmpA (pK x) (pK y) := by
  have h1 := cmpI_eq x.need y.need
  have h2 := cmpI_lt x.need y.need
  have h3 := rcmp_lt _ _ hx hy
  refine bool_iff ?_
  unfold rbK ltB
  rw [cmpA_is, Bool.or_eq_true, Bool.and_eq_true, decide_eq_true_eq, decide_eq_true_eq, decide_eq_true_eq, decide_eq_true_eq, h3]
  show _ ↔ (if cmpI x.need y.need = 0 then cmpL x.keys y.keys else cmpI x.need y.need) < 0
  split <;> omega
theorem chs_inK (P : Int) {n : Nat} (hn : n ≤ 1000) : inK (chs P n) := fun x hx => by have := chs_lt P n x hx; omega
/-- an empty label's cells -/
abbrev zC6 : List Value := [.int .i64 0, .slice none 0 0, .slice none 0 0, .int .i64 0, .int .i64 0, .slice none 0 0]
def c7 (x0 x1 x2 x3 x4 x5 x6 : Int) : List Value := [.int .i64 x0, .int .i64 x1, .int .i64 x2, .int .i64 x3, .int .i64 x4, .int .i64 x5, .int .i64 x6]
/-- what lies in memory while Made works: its argument, the result's variable, the label x -/
structure MG (w W : World) (bx bR bl : Nat) (X : List Value) (x : Lb) : Prop where
  rx : Row W bx 22 X
  rr : Row W bR 28 zC6
  rl : Row W bl 28 x.cells
  ow : x.own W w.heap.size
  below : Below w.heap.size w W
theorem MG.next {w W W' : World} {bx bR bl : Nat} {X : List Value} {x : Lb} (h : MG w W bx bR bl X x) (hb : Below W.heap.size W W') : MG w W' bx bR bl X x := ⟨h.rx.next hb, h.rr.next hb, h.rl.next hb, h.ow.next hb, Below.andThen h.below hb⟩
theorem row_zero {W w4 : World} {n : Nat} (hb : Below (W.alloc (.cells #[.int .i64 0, .slice none 0 0, .slice none 0 0, .int .i64 0, .int .i64 0, .slice none 0 0] 28)).drew.heap.size (W.alloc (.cells #[.int .i64 0, .slice none 0 0, .slice none 0 0, .int .i64 0, .int .i64 0, .slice none 0 0] 28)).drew w4) (hW : W.heap.size = n) : Row w4 n 28 zC6 := by
  subst hW
  exact Row.next (w := World.drew (W.alloc (.cells #[.int .i64 0, .slice none 0 0, .slice none 0 0, .int .i64 0, .int .i64 0, .slice none 0 0] 28))) (Row.new W 28 zC6) hb
section
variable {w w4 : World} {bx bR bl c n : Nat} {X : List Value} {till tr cl : Int} {ev : List Int} {o : Option Addr}
/-- a label with events alone -/
def evL (till : Int) (o : Option Addr) (n c : Nat) (ev : List Int) (tr cl : Int) : Lb := ⟨till, o, n, c, ev, none, 0, 0, [], tr, cl, none, 0, 0, []⟩
theorem mg_new (rx : Row w4 bx 22 X) (rr : Row w4 bR 28 zC6) (ow : Sq.Own intE 3 w4 w.heap.size (.slice o n c) ev) (hb : Below w.heap.size w w4) :
    MG w (w4.alloc (.cells #[.int .i64 till, .slice o n c, .slice none 0 0, .int .i64 tr, .int .i64 cl, .slice none 0 0] 28)) bx bR w4.heap.size X (evL till o n c ev tr cl) :=
  have hA := (Below.refl w4.heap.size w4).alloc (Nat.le_refl _) (.cells #[.int .i64 till, .slice o n c, .slice none 0 0, .int .i64 tr, .int .i64 cl, .slice none 0 0] 28)
  ⟨rx.next hA, rr.next hA, Row.new _ _ _, ⟨ow.next hA, own_nil _ _ _, own_nil _ _ _, fun q hq => (by cases hq)⟩, Below.andThen hb hA⟩
theorem mg_set (rx : Row w4 bx 22 X) (rr : Row w4 bR 28 zC6) (rl : Row w4 bl 28 zC6) (ow : Sq.Own intE 3 w4 w.heap.size (.slice o n c) ev) (hb : Below w.heap.size w w4) (n1 : bx ≠ bl) (n2 : bR ≠ bl) (n3 : w.heap.size ≤ bl) :
    MG w ((((((w4.setCell ⟨bl, 0, none⟩ (.int .i64 till)).setCell ⟨bl, 1, none⟩ (.slice o n c)).setCell ⟨bl, 2, none⟩ (.slice none 0 0)).setCell ⟨bl, 3, none⟩ (.int .i64 tr)).setCell ⟨bl, 4, none⟩ (.int .i64 cl)).setCell ⟨bl, 5, none⟩ (.slice none 0 0)) bx bR bl X (evL till o n c ev tr cl) :=
  ⟨(((((rx.other n1 _ _).other n1 _ _).other n1 _ _).other n1 _ _).other n1 _ _).other n1 _ _, (((((rr.other n2 _ _).other n2 _ _).other n2 _ _).other n2 _ _).other n2 _ _).other n2 _ _, (((((rl.set 0 _).set 1 _).set 2 _).set 3 _).set 4 _).set 5 _,
    ⟨own_set6 ow rl (by decide) _ _ _ _ _ _, own_nil _ _ _, own_nil _ _ _, fun q hq => (by cases hq)⟩, set6_below hb n3⟩
end
theorem fitA_parts {q : Int × List Int} (h : fitA q = true) : inK q.2 ∧ q.2.length ≤ 20 := by
  unfold fitA at h
  simp only [Bool.and_eq_true] at h
  have h1 := numB_len h.1.1 (by decide)
  exact ⟨fun x hx => by have := (numB_iff.1 h.1.1).2 x hx; omega, by omega⟩
theorem tdiv_in {x n : Int} (h : inM1 x) (hn : 2 ≤ n) : inM1 (x.tdiv n) := by
  have h1 := Int.natAbs_tdiv x n
  have h2 : x.natAbs / n.natAbs ≤ x.natAbs / 2 := Nat.div_le_div_left (by omega) (by decide)
  have h3 : (x.tdiv n).natAbs ≤ x.natAbs / 2 := by rw [h1]; exact h2
  clear h1 h2
  obtain ⟨a, b⟩ := h
  generalize x.tdiv n = y at *
  unfold inM1
  omega
theorem made_vd {D0 D3 D4 : Int} {l1 : List Int} {cs : List Cn} {lk : List Lk} (hd : 0 ≤ D0 ∧ D0 < 30 ∧ 0 ≤ D3 ∧ D3 < 4 ∧ 0 ≤ D4 ∧ D4 < 8) (h1 : numB l1 0 19 = true) (h2 : cntB cs 1 = true) (h3 : lk.length ≤ 2) (h4 : ascB (ltB cmpA) (lk.map pK) = true) (h5 : ∀ q ∈ lk, fitA (pK q) = true) : Vd ⟨D0 * 10, l1, cs, 255 - D3, 255 - D4, lk.map pK⟩ :=
  ⟨by show 0 ≤ D0 * 10; omega, by show D0 * 10 ≤ 50000000; omega, (numB_iff.1 h1).1, (numB_iff.1 h1).2, (cntB_iff.1 h2).1, (cntB_iff.1 h2).2, (by show 0 ≤ 255 - D3 ∧ 255 - D3 ≤ 255; omega), (by show 0 ≤ 255 - D4 ∧ 255 - D4 ≤ 255; omega), (by show (lk.map pK).length ≤ 4; rw [List.length_map]; omega), h4, fun q hq => by obtain ⟨p, hp, rfl⟩ := List.mem_map.1 hq; exact h5 p hp⟩
/-- the counts that Made collects -/
def csL (l : List Int) (p : Int) (k : Nat) : List Cn := (l.take k).map fun f => ⟨f, p⟩
theorem csL_next {l : List Int} {p f : Int} {k : Nat} (h : l[k]? = some f) : csL l p (k + 1) = csL l p k ++ [⟨f, p⟩] := by
  unfold csL
  rw [List.take_add_one, h, List.map_append]
  rfl
theorem csL_len {l : List Int} {p : Int} {k : Nat} (h : k ≤ l.length) : (csL l p k).length = k := by
  unfold csL
  rw [List.length_map, List.length_take]
  omega
theorem csL_ok {l : List Int} {p : Int} (h : numB l 0 15 = true) (h1 : 1 ≤ p) (h2 : p ≤ 12) : cntB (csL l p l.length) 1 = true := by
  obtain ⟨ha, hm⟩ := numB_iff.1 h
  rw [cntB_iff]
  unfold csL
  rw [List.take_length, ascB_map]
  refine ⟨ha, fun x hx => ?_⟩
  obtain ⟨f, hf, rfl⟩ := List.mem_map.1 hx
  have := hm f hf
  dsimp only
  omega
section
variable {w W W1 w4 : World} {bx bR bl n4 c4 : Nat} {X : List Value} {o4 : Option Addr}
theorem mg_app_c {till : Int} {eo : Option Addr} {en ec : Nat} {ev : List Int} {co : Option Addr} {cn cc : Nat} {cs : List Cn} {tr cl : Int} {lo : Option Addr} {ln lc : Nat} {lk : List Lk} (M : MG w W bx bR bl X ⟨till, eo, en, ec, ev, co, cn, cc, cs, tr, cl, lo, ln, lc, lk⟩) (hB : Below W.heap.size W W1) (hg : W1.grownBy w4 (Value.slice co cn cc).ownBlock)
    {l4 : List Cn} (ho : Sq.Own cnE 67 w4 w.heap.size (.slice o4 n4 c4) l4) (n1 : bx ≠ bl) (n2 : bR ≠ bl) (n3 : w.heap.size ≤ bl) :
    MG w (w4.setCell ⟨bl, 2, none⟩ (.slice o4 n4 c4)) bx bR bl X ⟨till, eo, en, ec, ev, o4, n4, c4, l4, tr, cl, lo, ln, lc, lk⟩ := by
  have hc := M.ow.2.1.next hB
  have rl4 := row_beside (M.rl.next hB) hc (by decide) hg
  refine ⟨(row_beside (M.rx.next hB) hc (by decide) hg).other n1 _ _, (row_beside (M.rr.next hB) hc (by decide) hg).other n2 _ _, rl4.set 2 _,
    ⟨own_set (own_keep hc (M.ow.1.next hB) (by decide) hg) rl4 (by decide), own_set ho rl4 (by decide), own_set (own_keep hc (M.ow.2.2.1.next hB) (by decide) hg) rl4 (by decide), fun q hq => own_set (own_keep hc ((M.ow.2.2.2 q hq).next hB) (by decide) hg) rl4 (by decide)⟩, ?_⟩
  have b1 := Below.andThen M.below hB
  exact (Below.grown b1 hg b1.size (own_block hc)).setCell (p := ⟨bl, 2, none⟩) n3 _
theorem mg_app_k {till : Int} {eo : Option Addr} {en ec : Nat} {ev : List Int} {co : Option Addr} {cn cc : Nat} {cs : List Cn} {tr cl : Int} {lo : Option Addr} {ln lc : Nat} {lk : List Lk} (M : MG w W bx bR bl X ⟨till, eo, en, ec, ev, co, cn, cc, cs, tr, cl, lo, ln, lc, lk⟩) (hB : Below W.heap.size W W1) (hg : W1.grownBy w4 (Value.slice lo ln lc).ownBlock)
    {q : Lk} (ho : Sq.Own lkE 70 w4 w.heap.size (.slice o4 n4 c4) (lk ++ [q])) (hq : q.own W w.heap.size) (n1 : bx ≠ bl) (n2 : bR ≠ bl) (n3 : w.heap.size ≤ bl) :
    MG w (w4.setCell ⟨bl, 5, none⟩ (.slice o4 n4 c4)) bx bR bl X ⟨till, eo, en, ec, ev, co, cn, cc, cs, tr, cl, o4, n4, c4, lk ++ [q]⟩ := by
  have hc := M.ow.2.2.1.next hB
  have rl4 := row_beside (M.rl.next hB) hc (by decide) hg
  refine ⟨(row_beside (M.rx.next hB) hc (by decide) hg).other n1 _ _, (row_beside (M.rr.next hB) hc (by decide) hg).other n2 _ _, rl4.set 5 _,
    ⟨own_set (own_keep hc (M.ow.1.next hB) (by decide) hg) rl4 (by decide), own_set (own_keep hc (M.ow.2.1.next hB) (by decide) hg) rl4 (by decide), own_set ho rl4 (by decide), fun p hp => ?_⟩, ?_⟩
  · rcases List.mem_append.1 hp with hp | hp
    · exact own_set (own_keep hc ((M.ow.2.2.2 p hp).next hB) (by decide) hg) rl4 (by decide)
    · rw [List.mem_singleton.1 hp]
      exact own_set (own_keep hc (hq.next hB) (by decide) hg) rl4 (by decide)
  · have b1 := Below.andThen M.below hB
    exact (Below.grown b1 hg b1.size (own_block hc)).setCell (p := ⟨bl, 5, none⟩) n3 _
theorem mg_put_k {till : Int} {eo : Option Addr} {en ec : Nat} {ev : List Int} {co : Option Addr} {cn cc : Nat} {cs : List Cn} {tr cl : Int} {lo : Option Addr} {ln lc : Nat} {lk : List Lk} (M : MG w W bx bR bl X ⟨till, eo, en, ec, ev, co, cn, cc, cs, tr, cl, lo, ln, lc, lk⟩) (hB : Below W.heap.size W w4)
    {l4 : List Lk} (ho : Sq.Own lkE 70 w4 w.heap.size (.slice o4 n4 c4) l4) (hq : ∀ q ∈ l4, q.own W w.heap.size) (n1 : bx ≠ bl) (n2 : bR ≠ bl) (n3 : w.heap.size ≤ bl) :
    MG w (w4.setCell ⟨bl, 5, none⟩ (.slice o4 n4 c4)) bx bR bl X ⟨till, eo, en, ec, ev, co, cn, cc, cs, tr, cl, o4, n4, c4, l4⟩ := by
  have rl4 := M.rl.next hB
  exact ⟨(M.rx.next hB).other n1 _ _, (M.rr.next hB).other n2 _ _, rl4.set 5 _, ⟨own_set (M.ow.1.next hB) rl4 (by decide), own_set (M.ow.2.1.next hB) rl4 (by decide), own_set ho rl4 (by decide), fun p hp => own_set ((hq p hp).next hB) rl4 (by decide)⟩, (Below.andThen M.below hB).setCell (p := ⟨bl, 5, none⟩) n3 _⟩
theorem mg_two_k {till : Int} {eo : Option Addr} {en ec : Nat} {ev : List Int} {co : Option Addr} {cn cc : Nat} {cs : List Cn} {tr cl : Int} {lo : Option Addr} {ln lc : Nat} {lk : List Lk} (M : MG w W bx bR bl X ⟨till, eo, en, ec, ev, co, cn, cc, cs, tr, cl, lo, ln, lc, lk⟩)
    {p q : Lk} (hp : p.own W w.heap.size) (hq : q.own W w.heap.size) (n1 : bx ≠ bl) (n2 : bR ≠ bl) (n3 : w.heap.size ≤ bl) :
    MG w ((W.setCell ⟨bl, 5, none⟩ (.slice (some ⟨W.heap.size, 0, none⟩) 2 2)).alloc (.cells #[.int .i64 p.need, .slice p.o p.n p.c, .int .i64 q.need, .slice q.o q.n q.c] 70)).drew bx bR bl X ⟨till, eo, en, ec, ev, co, cn, cc, cs, tr, cl, some ⟨W.heap.size, 0, none⟩, 2, 2, [p, q]⟩ := by
  have hs := M.below.size
  have hA := ((Below.refl (W.setCell ⟨bl, 5, none⟩ (.slice (some ⟨W.heap.size, 0, none⟩) 2 2)).heap.size (W.setCell ⟨bl, 5, none⟩ (.slice (some ⟨W.heap.size, 0, none⟩) 2 2))).alloc (Nat.le_refl _) (.cells #[.int .i64 p.need, .slice p.o p.n p.c, .int .i64 q.need, .slice q.o q.n q.c] 70)).drew
  have ho := (made_own lkE 70 (W.setCell ⟨bl, 5, none⟩ (.slice (some ⟨W.heap.size, 0, none⟩) 2 2)) [p, q] (B0 := w.heap.size) (n := W.heap.size) (N := 2) (by rw [World.size_setCell]; exact hs) (World.size_setCell ..) rfl (by decide)).next ((Below.refl _ _).drew)
  exact ⟨(M.rx.other n1 _ _).next hA, (M.rr.other n2 _ _).next hA, (M.rl.set 5 _).next hA, ⟨(own_set M.ow.1 M.rl (by decide)).next hA, (own_set M.ow.2.1 M.rl (by decide)).next hA, ho, fun r hr => by
    rcases List.mem_cons.1 hr with h | h
    · rw [h]; exact Sq.Own.next (own_set hp M.rl (by decide)) hA
    · rw [List.mem_singleton.1 h]; exact Sq.Own.next (own_set hq M.rl (by decide)) hA⟩, Below.andThen (M.below.setCell (p := ⟨bl, 5, none⟩) n3 _) hA⟩
end
end Lb
end Go.Proofs.YthjolojpjajppaaGreat
