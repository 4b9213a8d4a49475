/- Books as they lie in memory, under one word; posts, disputes and closed months in one form; the reference's Dispute. -/
import Derived.Test.YtnhlhoijajhcjaaDoorBkRC
set_option linter.unusedVariables false
set_option linter.unusedSimpArgs false
set_option linter.unnecessarySimpa false
namespace Go.Proofs.YtnhlhoijajhcjaaDoor
open Go.RowKit
namespace Bk
open Sq
theorem bodyPost_named {P : Program} {fn : Func} {R : Ending → World → Prop} {x : Exit} {a : Act} {w : World} (h : ∀ W, W = w → bodyPost P fn R x a W) : bodyPost P fn R x a w := h w rfl
/-- the postings of a book -/
def BkW (w : World) (o : Option Addr) (N c : Nat) (l : List Po) : Prop := l.length = N ∧ N ≤ c ∧ c ≤ 9223372036854775807 ∧ (o = none → c = 0) ∧ Sl poE w o l
theorem BkW.next {w w' : World} {o : Option Addr} {N c : Nat} {l : List Po} (h : BkW w o N c l) (hb : Below w.heap.size w w') : BkW w' o N c l := ⟨h.1, h.2.1, h.2.2.1, h.2.2.2.1, h.2.2.2.2.next hb⟩
theorem own_bkw {w : World} {B0 n c N : Nat} {o : Option Addr} {l : List Po} {t : TypeId} (h : Sq.Own poE t w B0 (.slice o n c) l) (hl : l.length = N) (hn : n = N) : BkW w o N c l := by
  obtain ⟨o', c', e, h1, h2, h3, h4⟩ := h.vw
  obtain ⟨rfl, -, rfl⟩ := Value.slice.inj e
  exact ⟨hl, by omega, h2, h3, h4⟩
/-- the slice is nil, or lies in a block from B0 on -/
def Fr (B0 : Nat) (o : Option Addr) : Prop := ∀ a, o = some a → B0 ≤ a.block
theorem Fr.lower {A B : Nat} {o : Option Addr} (h : Fr B o) (hA : A ≤ B) : Fr A o := fun a e => Nat.le_trans hA (h a e)
theorem fr_own {w : World} {B0 n c : Nat} {o : Option Addr} {l : List Po} {t : TypeId} (h : Sq.Own poE t w B0 (.slice o n c) l) : Fr B0 o := fun a e => by
  subst e
  exact own_block h a.block (by simp [Value.ownBlock])
theorem BkW.set {w : World} {o : Option Addr} {N c B0 b i : Nat} {l : List Po} (h : BkW w o N c l) (hf : Fr B0 o) (hb : b < B0) (v : Value) : BkW (w.setCell ⟨b, i, none⟩ v) o N c l := by
  refine ⟨h.1, h.2.1, h.2.2.1, h.2.2.2.1, ?_⟩
  rcases h.2.2.2.2 with e | ⟨b', off, e, hl, hc⟩
  · exact .inl e
  · have := hf _ e
    refine .inr ⟨b', off, e, by simpa using hl, fun j x hx n u hu => ?_⟩
    rw [← hc j x hx n u hu]
    exact World.cell?_setCell_far _ _ _ _ (show b ≠ b' from fun e2 => by dsimp only at this; omega)
structure Bo where
  acc : Int
  l : List Po
  cl : Int
def zeroBo : Bo := ⟨0, [], 0⟩
def boV (x : Option Bo) : Bo := x.getD zeroBo
def erI (x : Option Bo) : Int := match x with | none => 310 | some _ => 0
def nI (x : Option Bo) (n : Nat) : Int := match x with | none => 0 | some _ => n
def postB (acc : Int) (l : List Po) (cl : Int) (p : Po) : Option Bo := (post acc l cl p).map fun l2 => ⟨acc, l2, cl⟩
def dispB (acc : Int) (l : List Po) (cl i day amt : Int) : Option Bo := (disp acc l cl i day amt).map fun l2 => ⟨acc, l2, cl⟩
def closeB (acc : Int) (l : List Po) (cl m : Int) : Option Bo := if CloseP acc l cl m then some ⟨acc, l, cl + 1⟩ else none
theorem bkw_zero (w : World) : BkW w none 0 0 [] := ⟨rfl, Nat.le_refl _, by decide, fun _ => rfl, .inl rfl⟩
/-- a book and an error, as results -/
def BoEr (B0 : Nat) (x : Option Bo) (e : Ending) (w : World) : Prop := ∃ o N c, e = .returned (.tuple #[bookV (boV x).acc o N c (boV x).cl, .int .i64 (erI x)]) ∧ BkW w o N c (boV x).l ∧ Fr B0 o
def BoNEr (B0 : Nat) (x : Option Bo) (n : Nat) (e : Ending) (w : World) : Prop := ∃ o N c, e = .returned (.tuple #[bookV (boV x).acc o N c (boV x).cl, .int .i64 (nI x n), .int .i64 (erI x)]) ∧ BkW w o N c (boV x).l ∧ Fr B0 o
theorem post_u {acc cl : Int} {l : List Po} {p : Po} {N : Nat} {e : Ending} {w' : World} {B0 : Nat} (hl : l.length = N) (h : (PostP acc l cl p → ∃ o' c', e = .returned (.tuple #[bookV acc o' (N + 1) c' cl, .int .i64 N, .int .i64 0]) ∧ Sq.Own poE 27 w' B0 (.slice o' (N + 1) c') (l ++ [p])) ∧
      (¬ PostP acc l cl p → e = .returned (.tuple #[zeroBook, .int .i64 0, .int .i64 310]))) : BoNEr B0 (postB acc l cl p) N e w' := by
  unfold postB post
  by_cases hp : PostP acc l cl p
  · rw [if_pos hp]
    obtain ⟨o', c', h1, h2⟩ := h.1 hp
    exact ⟨o', N + 1, c', h1, own_bkw h2 (by show (l ++ [p]).length = _; rw [List.length_append, hl]; rfl) rfl, fr_own h2⟩
  · rw [if_neg hp]
    exact ⟨none, 0, 0, h.2 hp, bkw_zero _, fun a e => by cases e⟩
theorem disp_u {acc cl i day amt : Int} {l : List Po} {e : Ending} {w' : World} {B0 : Nat} (h : (∀ l2, disp acc l cl i day amt = some l2 → ∃ o' c', e = .returned (.tuple #[bookV acc o' l2.length c' cl, .int .i64 0]) ∧ Sq.Own poE 27 w' B0 (.slice o' l2.length c') l2) ∧
      (disp acc l cl i day amt = none → e = .returned (.tuple #[zeroBook, .int .i64 310]))) : BoEr B0 (dispB acc l cl i day amt) e w' := by
  unfold dispB
  cases hd : disp acc l cl i day amt with
  | none => exact ⟨none, 0, 0, h.2 hd, bkw_zero _, fun a e => by cases e⟩
  | some l2 =>
    obtain ⟨o', c', h1, h2⟩ := h.1 l2 hd
    exact ⟨o', l2.length, c', h1, own_bkw h2 rfl rfl, fr_own h2⟩
theorem Post_u (acc cl : Int) (o : Option Addr) (N c : Nat) (l : List Po) (p : Po) (w : World) (hN : N ≤ 2 ^ 30) (hd : inI p.day) (h : BkW w o N c l) : Calls Tryd.prog 17 #[bookV acc o N c cl, p.v] w fun e w' => BoNEr w.heap.size (postB acc l cl p) N e w' ∧ Below w.heap.size w w' :=
  (Post_any acc cl o N c l p w h.1 hN h.2.1 h.2.2.1 h.2.2.2.1 h.2.2.2.2 hd).mono fun _ _ q => ⟨post_u h.1 q.1, q.2⟩
theorem rPost_u (acc cl : Int) (o : Option Addr) (N c : Nat) (l : List Po) (p : Po) (w : World) (hN : N ≤ 2 ^ 30) (hd : inI p.day) (h : BkW w o N c l) : Calls Tryd.prog 29 #[bookV acc o N c cl, p.v] w fun e w' => BoNEr w.heap.size (postB acc l cl p) N e w' ∧ Below w.heap.size w w' :=
  (rPost_any acc cl o N c l p w h.1 hN h.2.1 h.2.2.1 h.2.2.2.1 h.2.2.2.2 hd).mono fun _ _ q => ⟨post_u h.1 q.1, q.2⟩
theorem Dispute_u (acc cl i day amt : Int) (o : Option Addr) (N c : Nat) (l : List Po) (w : World) (hN : N ≤ 2 ^ 29) (hd : inI day) (h : BkW w o N c l) : Calls Tryd.prog 19 #[bookV acc o N c cl, .int .i64 i, .int .i64 day, .int .i64 amt] w fun e w' => BoEr w.heap.size (dispB acc l cl i day amt) e w' ∧ Below w.heap.size w w' :=
  (Dispute_any acc cl i day amt o N c l w h.1 hN h.2.1 h.2.2.1 h.2.2.2.1 h.2.2.2.2 hd).mono fun _ _ q => ⟨disp_u q.1, q.2⟩
theorem dispB_bad {acc cl i day amt : Int} {l : List Po} (h : ¬ (0 ≤ i ∧ i < l.length ∧ 0 ≤ amt ∧ amt ≤ 1000000000)) : dispB acc l cl i day amt = none := by
  unfold dispB
  rw [disp_none h]
  rfl
theorem dispB_ok {acc cl i day amt : Int} {l : List Po} (h : 0 ≤ i ∧ i < l.length ∧ 0 ≤ amt ∧ amt ≤ 1000000000) : dispB acc l cl i day amt = match postB acc l cl (back (at' l i.toNat) i day) with | none => none | some B => if amt = 0 then some B else postB B.acc B.l B.cl (again (at' l i.toNat) day amt) := by
  unfold dispB disp postB
  rw [if_pos h]
  cases hp : post acc l cl (back (at' l i.toNat) i day) with
  | none => rfl
  | some l1 =>
    by_cases h0 : amt = 0
    · simp [h0]
    · simp [h0]
set_option maxRecDepth 100000 in
set_option maxHeartbeats 2000000 in
theorem rdispute_bad (acc cl i day amt : Int) (o : Option Addr) (N c : Nat) (w : World) (h : ¬ (0 ≤ i ∧ i < N ∧ 0 ≤ amt ∧ amt ≤ 1000000000)) : Calls Tryd.prog 30 #[bookV acc o N c cl, .int .i64 i, .int .i64 day, .int .i64 amt] w fun e w' => e = .returned (.tuple #[zeroBook, .int .i64 310]) ∧ Below w.heap.size w w' := by
  have g : i < 0 ∨ (¬ i < 0 ∧ (N : Int) ≤ i) ∨ (¬ i < 0 ∧ ¬ (N : Int) ≤ i ∧ ¬ (0 ≤ amt ∧ amt ≤ 1000000000)) := by omega
  clear h
  have CI := Lib.hid rIn_any
  rcases g with h | ⟨h, h1⟩ | ⟨h, h1, h2⟩
  · go_enter Tryd.func30, Tryd.ntmps30
    go_wp2_with fail
    refine bodyPost_ret (v := .tuple #[zeroBook, .int .i64 310]) (by first | (simp [results, Tryd.results30, go_sem]; done) | simp [results, Tryd.results30, go_sem, *]) rfl ⟨rfl, by (repeat' first | exact Below.refl _ _ | assumption | (refine below_drewN ?_ _) | (refine Below.drew ?_) | (refine Below.alloc ?_ ?_ _) | (refine Below.setCell ?_ ?_ _) | (simp; done) | (simp; omega) | omega)⟩
  · go_enter Tryd.func30, Tryd.ntmps30
    go_wp2_with fail
    refine bodyPost_ret (v := .tuple #[zeroBook, .int .i64 310]) (by first | (simp [results, Tryd.results30, go_sem]; done) | simp [results, Tryd.results30, go_sem, *]) rfl ⟨rfl, by (repeat' first | exact Below.refl _ _ | assumption | (refine below_drewN ?_ _) | (refine Below.drew ?_) | (refine Below.alloc ?_ ?_ _) | (refine Below.setCell ?_ ?_ _) | (simp; done) | (simp; omega) | omega)⟩
  · have hin : decide (0 ≤ amt ∧ amt ≤ 1000000000) = false := decide_eq_false h2
    clear h2
    go_enter Tryd.func30, Tryd.ntmps30
    go_wp2_with (go_at_call 62; with_reducible refine Calls.mono (CI.out _ _ _ _) ?_; rintro e w' ⟨rfl, rfl⟩)
    refine bodyPost_ret (v := .tuple #[zeroBook, .int .i64 310]) (by first | (simp [results, Tryd.results30, go_sem]; done) | simp [results, Tryd.results30, go_sem, *]) rfl ⟨rfl, by (repeat' first | exact Below.refl _ _ | assumption | (refine below_drewN ?_ _) | (refine Below.drew ?_) | (refine Below.alloc ?_ ?_ _) | (refine Below.setCell ?_ ?_ _) | (simp; done) | (simp; omega) | omega)⟩
set_option maxRecDepth 100000 in
set_option maxHeartbeats 8000000 in
theorem rdispute_go (acc cl i day amt : Int) (k : Nat) (hi : i = k) (o : Option Addr) (N c : Nat) (l : List Po) (w : World) (h : BkW w o N c l) (hN : N ≤ 2 ^ 29) (hd : inI day) (hk : k < N) (ha : 0 ≤ amt) (ha2 : amt ≤ 1000000000) (x y : Option Bo)
    (hx : postB acc l cl (back (at' l k) k day) = x) (hy : ∀ B, x = some B → ¬ amt = 0 → postB B.acc B.l B.cl (again (at' l k) day amt) = y ∧ B.l.length ≤ 2 ^ 30) (hxy : amt = 0 → y = x) (hn : x = none → y = none) :
    Calls Tryd.prog 30 #[bookV acc o N c cl, .int .i64 i, .int .i64 day, .int .i64 amt] w fun e w' => BoEr w.heap.size y e w' ∧ Below w.heap.size w w' := by
  subst hi
  have BW := Lib.hid h
  have CI := Lib.hid rIn_any
  have CP1 := Lib.hid (fun W (h : BkW W o N c l) => rPost_u acc cl o N c l (back (at' l k) k day) W (by omega) hd h)
  rw [hx] at CP1
  have CP2 := Lib.hid (fun B (e : x = some B) (h0 : ¬ amt = 0) o N c W (h : BkW W o N c B.l) => (show Calls Tryd.prog 29 #[bookV B.acc o N c B.cl, (again (at' l k) day amt).v] W fun e w' => BoNEr W.heap.size y N e w' ∧ Below W.heap.size W w' from by
    have q := rPost_u B.acc B.cl o N c B.l (again (at' l k) day amt) W (by rw [← h.1]; exact (hy B e h0).2) hd h
    rw [(hy B e h0).1] at q
    exact q))
  have HXY := Lib.hid hxy
  have HN := Lib.hid hn
  have CELL := Lib.hid (show ∃ b off, o = some ⟨b, off, none⟩ ∧ Sl poE w (some ⟨b, off, none⟩) l from by
    obtain ⟨b, off, rfl, -, -⟩ := h.2.2.2.2.cells (fun e => by have := h.1; rw [e] at this; simp at this; omega)
    exact ⟨b, off, rfl, h.2.2.2.2⟩)
  have HKL := Lib.hid (show k < l.length by rw [h.1]; exact hk)
  have d1 : ¬ (k : Int) < 0 := by omega
  have d2 : ¬ (N : Int) ≤ k := by omega
  have hin : decide (0 ≤ amt ∧ amt ≤ 1000000000) = true := decide_eq_true ⟨ha, ha2⟩
  clear h hx hy hxy hn hd ha ha2
  unfold back Po.v at CP1
  unfold again Po.v at CP2
  dsimp only at CP1 CP2
  go_enter Tryd.func30, Tryd.ntmps30
  go_upto_region 1 with (fail)
  refine wp_named fun w1 hq => ?_
  obtain ⟨bA, eA⟩ : ∃ b, b = w.heap.size := ⟨_, rfl⟩
  obtain ⟨br, er⟩ : ∃ b, b = w.heap.size + 1 := ⟨_, rfl⟩
  obtain ⟨r0, r1, hB, hs⟩ := rows2 w 24 24 [.int .i64 acc, .slice o N c, .int .i64 cl] [.int .i64 0, .slice none 0 0, .int .i64 0] w1 hq
  have HS := Lib.hid (show w.heap.size ≤ bA ∧ bA < br ∧ br < w1.heap.size by omega)
  rw [← er, ← eA]
  rw [← eA] at r0
  rw [← er] at r1
  have BB := Lib.hid hB
  replace BW := Lib.hid (BW.out.next hB)
  have RA := Lib.hid r0
  have RR := Lib.hid r1
  obtain ⟨bo, off, eo, hsl⟩ := CELL.out
  subst eo
  have SL := Lib.hid (hsl.next hB)
  clear hq er eA hB hs r0 r1 hsl CELL
  obtain ⟨lbe, e0, e1, e2, e3, e4, e5, e6⟩ := sl_at SL.out HKL.out
  generalize at' l k = q at *
  obtain ⟨kind, day', deb, cre, amt', sub, of⟩ := q
  dsimp only at *
  have a0 := RA.out.cell 0
  have a1 := RA.out.cell 1
  have a2 := RA.out.cell 2
  have la := RA.out.lt
  simp only [List.getElem?_cons_zero, List.getElem?_cons_succ] at a0 a1 a2
  go_upto_region 5 with (go_at_call 62; with_reducible refine Calls.mono (CI.out _ _ _ _) ?_; rintro e w' ⟨rfl, rfl⟩)
  clear hin d1 d2 CI
  refine wp_named fun w2 hq => ?_
  obtain ⟨bO, eO⟩ : ∃ b, b = w1.heap.size := ⟨_, rfl⟩
  obtain ⟨bP, eP⟩ : ∃ b, b = w1.heap.size + 1 := ⟨_, rfl⟩
  obtain ⟨r0, r1, hB, hs⟩ := rows2 w1 27 27 [.int .i64 kind, .int .i64 day', .int .i64 deb, .int .i64 cre, .int .i64 amt', .int .i64 sub, .int .i64 of] [.int .i64 2, .int .i64 day, .int .i64 cre, .int .i64 deb, .int .i64 amt', .int .i64 sub, .int .i64 k] w2 hq
  have HS2 := Lib.hid (show br < bO ∧ bO < bP ∧ bP < w2.heap.size ∧ w.heap.size ≤ bO by have := HS.out; omega)
  rw [← eP, ← eO]
  rw [← eO] at r0
  rw [← eP] at r1
  have RO := Lib.hid r0
  have RP := Lib.hid r1
  replace RA := Lib.hid (RA.out.next hB)
  replace RR := Lib.hid (RR.out.next hB)
  replace BW := Lib.hid (BW.out.next hB)
  replace BB := Lib.hid (Below.andThen BB.out hB)
  clear hq eO eP hB hs r0 r1 SL lbe e0 e1 e2 e3 e4 e5 e6
  clear a0 a1 a2 la
  have a0 := RA.out.cell 0
  have a1 := RA.out.cell 1
  have a2 := RA.out.cell 2
  have la := RA.out.lt
  simp only [List.getElem?_cons_zero, List.getElem?_cons_succ] at a0 a1 a2
  have p0 := RP.out.cell 0
  have p1 := RP.out.cell 1
  have p2 := RP.out.cell 2
  have p3 := RP.out.cell 3
  have p4 := RP.out.cell 4
  have p5 := RP.out.cell 5
  have p6 := RP.out.cell 6
  have lp := RP.out.lt
  simp only [List.getElem?_cons_zero, List.getElem?_cons_succ] at p0 p1 p2 p3 p4 p5 p6
  go_wp2_with fail
  with_reducible refine Calls.mono (CP1.out _ BW.out) ?_
  rintro e w3 ⟨⟨o3, N3, c3, rfl, hw, hf⟩, hb⟩
  have HF := Lib.hid hf
  have HB2 := Lib.hid hb.size
  have BW3 := Lib.hid hw
  replace RO := Lib.hid (RO.out.next hb)
  replace RR := Lib.hid (RR.out.next hb)
  replace BB := Lib.hid (Below.andThen BB.out hb)
  clear hb hw CP1 hf
  clear a0 a1 a2 la
  clear p0 p1 p2 p3 p4 p5 p6 lp
  have hbr : w.heap.size ≤ br := by have := HS.out; omega
  have ho : w.heap.size ≤ bO := HS2.out.2.2.2
  have nRO : bO ≠ br := by have := HS2.out; omega
  have nOR : br ≠ bO := by have := HS2.out; omega
  cases x with
  | none =>
    obtain rfl := HN.out rfl
    obtain ⟨a3, ha3⟩ : ∃ a, (boV none).acc = a := ⟨_, rfl⟩
    obtain ⟨l3, hl3⟩ : ∃ a, (boV none).cl = a := ⟨_, rfl⟩
    have HA3 := Lib.hid ha3
    have HL3 := Lib.hid hl3
    rw [ha3, hl3, show erI none = 310 from rfl]
    clear ha3 hl3
    have q0 := RR.out.cell 0
    have q1 := RR.out.cell 1
    have q2 := RR.out.cell 2
    have lq := RR.out.lt
    simp only [List.getElem?_cons_zero, List.getElem?_cons_succ] at q0 q1 q2
    have fq0 := RR.out.frozen 0
    have fq1 := RR.out.frozen 1
    have fq2 := RR.out.frozen 2
    go_wp2_with fail
    have RXx := ((((RR.out.set 0 (.int .i64 a3)).set 1 (.slice o3 N3 c3)).set 2 (.int .i64 l3))).alloc (.cells #[.int .i64 a3, .slice o3 N3 c3, .int .i64 l3] 24)
    have x0 := RXx.cell 0
    have x1 := RXx.cell 1
    have x2 := RXx.cell 2
    simp only [List.set_cons_zero, List.set_cons_succ, List.getElem?_cons_zero, List.getElem?_cons_succ] at x0 x1 x2
    clear q0 q1 q2 lq
    have BW4 := Lib.hid ((((BW3.out.set (b := br) (i := 0) HF.out (by have := HS2.out; omega) (.int .i64 a3)).set (b := br) (i := 1) HF.out (by have := HS2.out; omega) (.slice o3 N3 c3)).set (b := br) (i := 2) HF.out (by have := HS2.out; omega) (.int .i64 l3)).next ((Below.refl _ _).alloc (Nat.le_refl _) (.cells #[.int .i64 a3, .slice o3 N3 c3, .int .i64 l3] 24)))
    refine bodyPost_ret (v := .tuple #[bookV a3 o3 N3 c3 l3, .int .i64 310]) (by first | (simp [results, Tryd.results30, go_sem]; done) | simp [results, Tryd.results30, go_sem, *]) rfl ⟨⟨o3, N3, c3, by rw [HA3.out, HL3.out]; rfl, BW4.out, HF.out.lower (by have := BB.out.size; have := HS2.out; omega)⟩, by (repeat' first | exact Below.refl _ _ | assumption | (refine Below.andThen ?_ BB.out) | (exact BB.out.size) | (simpa using BB.out.size) | (refine below_drewN ?_ _) | (refine Below.drew ?_) | (refine Below.alloc ?_ ?_ _) | (refine Below.setCell ?_ ?_ _) | (simp; done) | (simp; omega) | omega)⟩
  | some B =>
    by_cases h0 : amt = 0
    · obtain rfl := HXY.out h0
      subst h0
      obtain ⟨a3, ha3⟩ : ∃ a, (boV (some B)).acc = a := ⟨_, rfl⟩
      obtain ⟨l3, hl3⟩ : ∃ a, (boV (some B)).cl = a := ⟨_, rfl⟩
      have HA3 := Lib.hid ha3
      have HL3 := Lib.hid hl3
      rw [ha3, hl3, show erI (some B) = 0 from rfl]
      clear ha3 hl3
      have q0 := RR.out.cell 0
      have q1 := RR.out.cell 1
      have q2 := RR.out.cell 2
      have lq := RR.out.lt
      simp only [List.getElem?_cons_zero, List.getElem?_cons_succ] at q0 q1 q2
      have fq0 := RR.out.frozen 0
      have fq1 := RR.out.frozen 1
      have fq2 := RR.out.frozen 2
      go_wp2_with fail
      have RXx := ((((RR.out.set 0 (.int .i64 a3)).set 1 (.slice o3 N3 c3)).set 2 (.int .i64 l3))).alloc (.cells #[.int .i64 a3, .slice o3 N3 c3, .int .i64 l3] 24)
      have x0 := RXx.cell 0
      have x1 := RXx.cell 1
      have x2 := RXx.cell 2
      simp only [List.set_cons_zero, List.set_cons_succ, List.getElem?_cons_zero, List.getElem?_cons_succ] at x0 x1 x2
      clear q0 q1 q2 lq
      have BW4 := Lib.hid ((((BW3.out.set (b := br) (i := 0) HF.out (by have := HS2.out; omega) (.int .i64 a3)).set (b := br) (i := 1) HF.out (by have := HS2.out; omega) (.slice o3 N3 c3)).set (b := br) (i := 2) HF.out (by have := HS2.out; omega) (.int .i64 l3)).next ((Below.refl _ _).alloc (Nat.le_refl _) (.cells #[.int .i64 a3, .slice o3 N3 c3, .int .i64 l3] 24)))
      refine bodyPost_ret (v := .tuple #[bookV a3 o3 N3 c3 l3, .int .i64 0]) (by first | (simp [results, Tryd.results30, go_sem]; done) | simp [results, Tryd.results30, go_sem, *]) rfl ⟨⟨o3, N3, c3, by rw [HA3.out, HL3.out]; rfl, BW4.out, HF.out.lower (by have := BB.out.size; have := HS2.out; omega)⟩, by (repeat' first | exact Below.refl _ _ | assumption | (refine Below.andThen ?_ BB.out) | (exact BB.out.size) | (simpa using BB.out.size) | (refine below_drewN ?_ _) | (refine Below.drew ?_) | (refine Below.alloc ?_ ?_ _) | (refine Below.setCell ?_ ?_ _) | (simp; done) | (simp; omega) | omega)⟩
    · have CP3 := Lib.hid (CP2.out B rfl h0)
      clear CP2 HXY HN
      have hA3 : (boV (some B)).acc = B.acc := rfl
      have hL3 : (boV (some B)).cl = B.cl := rfl
      have hM3 : (boV (some B)).l = B.l := rfl
      rw [hA3, hL3, show erI (some B) = 0 from rfl]
      rw [hM3] at BW3
      clear hA3 hL3 hM3
      generalize B.acc = a3 at *
      generalize B.cl = l3 at *
      generalize B.l = m3 at *
      have w1' := RO.out.cell 1
      have w4' := RO.out.cell 4
      simp only [List.getElem?_cons_zero, List.getElem?_cons_succ] at w1' w4'
      have u1 := RO.out.frozen 1
      have u4 := RO.out.frozen 4
      have lO := RO.out.lt
      go_upto_region 10 with (fail)
      refine wp_named fun w4 hq => ?_
      obtain ⟨bX, eX⟩ : ∃ b, b = w3.heap.size := ⟨_, rfl⟩
      have RX := Lib.hid (show Row w4 bX 24 [.int .i64 a3, .slice o3 N3 c3, .int .i64 l3] from by
        rw [hq, eX]
        have := Row.new ((w3.setCell ⟨bO, 1, none⟩ (.int .i64 day)).setCell ⟨bO, 4, none⟩ (.int .i64 amt)) 24 [.int .i64 a3, .slice o3 N3 c3, .int .i64 l3]
        rw [World.size_setCell, World.size_setCell] at this
        exact this)
      replace RO := Lib.hid (show Row w4 bO 27 [.int .i64 kind, .int .i64 day, .int .i64 deb, .int .i64 cre, .int .i64 amt, .int .i64 sub, .int .i64 of] from by rw [hq]; exact ((RO.out.set 1 _).set 4 _).alloc _)
      replace RR := Lib.hid (show Row w4 br _ _ from by rw [hq]; exact ((RR.out.other nOR _ _).other nOR _ _).alloc _)
      replace BB := Lib.hid (show Below w.heap.size w w4 from by rw [hq]; exact ((BB.out.setCell (p := ⟨bO, 1, none⟩) ho _).setCell (p := ⟨bO, 4, none⟩) ho _).alloc (by simpa using BB.out.size) _)
      replace BW3 := Lib.hid (show BkW w4 o3 N3 c3 m3 from by
        rw [hq]
        exact ((BW3.out.set (b := bO) (i := 1) HF.out (by have := HS2.out; omega) _).set (b := bO) (i := 4) HF.out (by have := HS2.out; omega) _).next ((Below.refl _ _).alloc (Nat.le_refl _) _))
      have HS3 := Lib.hid (show br < bX ∧ bO < bX from by rw [eX]; have := HS2.out; have := HB2.out; omega)
      rw [← eX]
      clear hq eX w1' w4' u1 u4 lO
      have s0 := RX.out.cell 0
      have s1 := RX.out.cell 1
      have s2 := RX.out.cell 2
      have ls := RX.out.lt
      simp only [List.getElem?_cons_zero, List.getElem?_cons_succ] at s0 s1 s2
      have p0 := RO.out.cell 0
      have p1 := RO.out.cell 1
      have p2 := RO.out.cell 2
      have p3 := RO.out.cell 3
      have p4 := RO.out.cell 4
      have p5 := RO.out.cell 5
      have p6 := RO.out.cell 6
      have lp := RO.out.lt
      simp only [List.getElem?_cons_zero, List.getElem?_cons_succ] at p0 p1 p2 p3 p4 p5 p6
      go_wp2_with fail
      with_reducible refine Calls.mono (CP3.out _ _ _ _ BW3.out) ?_
      rintro e w5 ⟨⟨o5, N5, c5, rfl, hw, hf⟩, hb⟩
      have BW5 := Lib.hid hw
      have HF5 := Lib.hid hf
      have HB5 := Lib.hid hb.size
      replace RX := Lib.hid (RX.out.next hb)
      replace RR := Lib.hid (RR.out.next hb)
      replace BB := Lib.hid (Below.andThen BB.out hb)
      have HS5 := Lib.hid (show br < w4.heap.size ∧ bX < w4.heap.size from ⟨by have := HS3.out; omega, ls⟩)
      clear hb hw CP3 hf BW3
      clear s0 s1 s2 ls
      clear p0 p1 p2 p3 p4 p5 p6 lp
      obtain ⟨a5, ha5⟩ : ∃ a, (boV y).acc = a := ⟨_, rfl⟩
      obtain ⟨l5, hl5⟩ : ∃ a, (boV y).cl = a := ⟨_, rfl⟩
      obtain ⟨e5, he5⟩ : ∃ a, erI y = a := ⟨_, rfl⟩
      have HA5 := Lib.hid ha5
      have HL5 := Lib.hid hl5
      have HE5 := Lib.hid he5
      rw [ha5, hl5, he5]
      clear ha5 hl5 he5
      have nX : bX ≠ br := fun e => by have := HS3.out; omega
      have nX2 : br ≠ bX := fun e => by have := HS3.out; omega
      have hbX : w.heap.size ≤ bX := by have := HS3.out; omega
      have s0 := RX.out.cell 0
      have s1 := RX.out.cell 1
      have s2 := RX.out.cell 2
      have ls := RX.out.lt
      simp only [List.getElem?_cons_zero, List.getElem?_cons_succ] at s0 s1 s2
      have fs0 := RX.out.frozen 0
      have fs1 := RX.out.frozen 1
      have fs2 := RX.out.frozen 2
      have q0 := RR.out.cell 0
      have q1 := RR.out.cell 1
      have q2 := RR.out.cell 2
      have lq := RR.out.lt
      simp only [List.getElem?_cons_zero, List.getElem?_cons_succ] at q0 q1 q2
      have fq0 := RR.out.frozen 0
      have fq1 := RR.out.frozen 1
      have fq2 := RR.out.frozen 2
      go_wp2_with fail
      have RRX := Lib.hid (((RR.out.other nX2 (j := 0) (.int .i64 a5)).other nX2 (j := 1) (.slice o5 N5 c5)).other nX2 (j := 2) (.int .i64 l5))
      clear q0 q1 q2 lq
      clear s0 s1 s2 ls
      refine bodyPost_named fun WW hq => ?_
      have RXn := Lib.hid (show Row WW _ _ _ from by rw [hq]; exact ((RRX.out.set 0 (.int .i64 a5)).set 1 (.slice o5 N5 c5)).set 2 (.int .i64 l5))
      have BW6 := Lib.hid (show BkW WW o5 N5 c5 (boV y).l from by rw [hq]; exact (((((BW5.out.set (b := bX) (i := 0) HF5.out HS5.out.2 (.int .i64 a5)).set (b := bX) (i := 1) HF5.out HS5.out.2 (.slice o5 N5 c5)).set (b := bX) (i := 2) HF5.out HS5.out.2 (.int .i64 l5)).set (b := br) (i := 0) HF5.out HS5.out.1 (.int .i64 a5)).set (b := br) (i := 1) HF5.out HS5.out.1 (.slice o5 N5 c5)).set (b := br) (i := 2) HF5.out HS5.out.1 (.int .i64 l5))
      have BB6 := Lib.hid (show Below w.heap.size w WW from by rw [hq]; exact (((((BB.out.setCell (p := ⟨bX, 0, none⟩) hbX _).setCell (p := ⟨bX, 1, none⟩) hbX _).setCell (p := ⟨bX, 2, none⟩) hbX _).setCell (p := ⟨br, 0, none⟩) hbr _).setCell (p := ⟨br, 1, none⟩) hbr _).setCell (p := ⟨br, 2, none⟩) hbr _)
      clear hq
      have xr0 := RXn.out.cell 0
      have xr1 := RXn.out.cell 1
      have xr2 := RXn.out.cell 2
      simp only [List.set_cons_zero, List.set_cons_succ, List.getElem?_cons_zero, List.getElem?_cons_succ] at xr0 xr1 xr2
      refine bodyPost_ret (v := .tuple #[bookV a5 o5 N5 c5 l5, .int .i64 e5]) (by first | (simp [results, Tryd.results30, go_sem]; done) | simp [results, Tryd.results30, go_sem, *]) rfl ⟨⟨o5, N5, c5, by rw [HA5.out, HL5.out, HE5.out], BW6.out, HF5.out.lower (by have := HS3.out; have := HS5.out; omega)⟩, BB6.out⟩
end Bk
end Go.Proofs.YtnhlhoijajhcjaaDoor
