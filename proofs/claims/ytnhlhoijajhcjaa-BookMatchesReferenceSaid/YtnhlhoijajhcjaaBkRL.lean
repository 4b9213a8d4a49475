/- The reference's Made. -/
import Derived.Test.YtnhlhoijajhcjaaBkRF
import Derived.Test.YtnhlhoijajhcjaaBkRG
set_option linter.unusedVariables false
set_option linter.unusedSimpArgs false
namespace Go.Proofs.Ytnhlhoijajhcjaa
open Go.RowKit
namespace Bk
open Sq
/-- five numbers -/
structure F5 where
  x0 : Int
  x1 : Int
  x2 : Int
  x3 : Int
  x4 : Int
def F5.fit (p : F5) : Prop := inI p.x0 ∧ inI p.x1 ∧ inI p.x2 ∧ inI p.x3 ∧ inI p.x4
def f5E : El F5 := ⟨5, fun p => [.int .i64 p.x0, .int .i64 p.x1, .int .i64 p.x2, .int .i64 p.x3, .int .i64 p.x4], by decide, fun _ => rfl, fun x u hu => by simp at hu; rcases hu with rfl | rfl | rfl | rfl | rfl <;> rfl⟩
theorem sl_at5 {w : World} {o : Option Addr} {l : List F5} (h : Sl f5E w o l) {k : Nat} {p : F5} (hk : l[k]? = some p) : ∃ b off, o = some ⟨b, off, none⟩ ∧ b < w.heap.size ∧ w.cell? ⟨b, off + k * 5, none⟩ = some (.int .i64 p.x0) ∧ w.cell? ⟨b, off + k * 5 + 1, none⟩ = some (.int .i64 p.x1) ∧ w.cell? ⟨b, off + k * 5 + 2, none⟩ = some (.int .i64 p.x2) ∧ w.cell? ⟨b, off + k * 5 + 3, none⟩ = some (.int .i64 p.x3) ∧ w.cell? ⟨b, off + k * 5 + 4, none⟩ = some (.int .i64 p.x4) := by
  rcases h with rfl | ⟨b, off, e, hb, hc⟩
  · simp at hk
  · exact ⟨b, off, e, hb, hc k p hk 0 _ rfl, hc k p hk 1 _ rfl, hc k p hk 2 _ rfl, hc k p hk 3 _ rfl, hc k p hk 4 _ rfl⟩
/-- a book that deeds have led to -/
def Good (acc : Int) (n : Nat) (B : Bo) : Prop := B.acc = acc ∧ Vd B.acc B.l B.cl ∧ B.l.length ≤ n ∧ ∀ p ∈ B.l, 0 ≤ p.sub ∧ p.sub < 6
theorem Good.more {acc : Int} {n m : Nat} {B : Bo} (h : Good acc n B) (hm : n ≤ m) : Good acc m B := ⟨h.1, h.2.1, Nat.le_trans h.2.2.1 hm, h.2.2.2⟩
theorem good_post {acc cl : Int} {n : Nat} {l : List Po} {p : Po} (h : Good acc n ⟨acc, l, cl⟩) (hs : 0 ≤ p.sub ∧ p.sub < 6) {B : Bo} (e : postB acc l cl p = some B) : Good acc (n + 1) B := by
  unfold postB post at e
  split at e
  · rename_i hp
    cases e
    refine ⟨rfl, hp.2.1, ?_, ?_⟩
    · show (l ++ [p]).length ≤ n + 1
      rw [List.length_append]
      have h1 : l.length ≤ n := h.2.2.1
      show l.length + 1 ≤ n + 1
      omega
    · intro q hq
      rcases List.mem_append.1 hq with h1 | h1
      · exact h.2.2.2 q h1
      · rw [List.mem_singleton.1 h1]
        exact hs
  · cases e
theorem good_disp {acc cl i day amt : Int} {n : Nat} {l : List Po} (h : Good acc n ⟨acc, l, cl⟩) {B : Bo} (e : dispB acc l cl i day amt = some B) : Good acc (n + 2) B := by
  by_cases hc : 0 ≤ i ∧ i < l.length ∧ 0 ≤ amt ∧ amt ≤ 1000000000
  · rw [dispB_ok hc] at e
    have hm := h.2.2.2 _ (at_mem (l := l) (i := i.toNat) (by omega))
    cases hp : postB acc l cl (back (at' l i.toNat) i day) with
    | none => rw [hp] at e; cases e
    | some C =>
      rw [hp] at e
      dsimp only at e
      have g := good_post h (p := back (at' l i.toNat) i day) hm hp
      by_cases h0 : amt = 0
      · rw [show (if amt = 0 then some C else postB C.acc C.l C.cl (again (at' l i.toNat) day amt)) = some C from if_pos h0] at e
        cases e
        exact g.more (by omega)
      · rw [show (if amt = 0 then some C else postB C.acc C.l C.cl (again (at' l i.toNat) day amt)) = postB C.acc C.l C.cl (again (at' l i.toNat) day amt) from if_neg h0] at e
        obtain ⟨a, m, c⟩ := C
        obtain rfl : a = acc := g.1
        exact good_post g (p := again (at' l i.toNat) day amt) hm e
  · rw [dispB_bad hc] at e
    cases e
theorem good_close {acc cl m : Int} {n : Nat} {l : List Po} (h : Good acc n ⟨acc, l, cl⟩) {B : Bo} (e : closeB acc l cl m = some B) : Good acc n B := by
  unfold closeB at e
  split at e
  · rename_i hp
    cases e
    obtain ⟨h1, rfl, h3, h4⟩ := hp
    obtain ⟨⟨q1, q2, q3, q4, q5⟩, q6⟩ := h1
    exact ⟨rfl, ⟨⟨q1, q2, by show 0 ≤ m + 1; omega, by show m + 1 ≤ 12; omega, q5⟩, q6⟩, h.2.2.1, h.2.2.2⟩
  · cases e
theorem Good.cl {acc : Int} {n : Nat} {B : Bo} (h : Good acc n B) : 0 ≤ B.cl ∧ B.cl ≤ 12 := ⟨h.2.1.1.2.2.1, h.2.1.1.2.2.2.1⟩
theorem Good.acc {acc : Int} {n : Nat} {B : Bo} (h : Good acc n B) : 2 ≤ acc ∧ acc ≤ 12 := by rw [← h.1]; exact ⟨h.2.1.1.1, h.2.1.1.2.1⟩
theorem good_new {acc : Int} (h1 : 2 ≤ acc) (h2 : acc ≤ 12) : Good acc 0 ⟨acc, [], 0⟩ := ⟨rfl, ⟨⟨h1, h2, Int.le_refl _, show (0 : Int) ≤ 12 by decide, Nat.zero_le _⟩, fun i hi => absurd hi (Nat.not_lt_zero _)⟩, Nat.le_refl _, fun p hp => by cases hp⟩
theorem BkW.apart {w w0 : World} {o : Option Addr} {N c b i : Nat} {l : List Po} (h : BkW w o N c l) (h0 : BkW w0 o N c l) (hb : w0.heap.size ≤ b) (v : Value) : BkW (w.setCell ⟨b, i, none⟩ v) o N c l :=
  ⟨h.1, h.2.1, h.2.2.1, h.2.2.2.1, sl_set h.2.2.2.2 h0.2.2.2.2 hb v⟩
/-- the last word of a round: a book, or the old one -/
def pickB (x : Option Bo) (B : Bo) : Bo := match x with | none => B | some C => C
theorem far3 {w : World} {b b' j : Nat} {x0 x1 x2 : Value} {v : Option Value} (h : b' ≠ b) (hc : w.cell? ⟨b, j, none⟩ = v) : (((w.setCell ⟨b', 0, none⟩ x0).setCell ⟨b', 1, none⟩ x1).setCell ⟨b', 2, none⟩ x2).cell? ⟨b, j, none⟩ = v :=
  (World.cell?_setCell_far _ _ _ _ (show b' ≠ b from h)).trans ((World.cell?_setCell_far _ _ _ _ (show b' ≠ b from h)).trans ((World.cell?_setCell_far _ _ _ _ (show b' ≠ b from h)).trans hc))
/-- at least so many blocks -/
def Up (n : Nat) (w : World) : Prop := n ≤ w.heap.size
theorem Up.next {n : Nat} {w w' : World} (h : Up n w) (hb : Below w.heap.size w w') : Up n w' := Nat.le_trans h hb.size
theorem min_bd {d v : Int} (h : 0 ≤ d) (hv : 0 ≤ v) : 0 ≤ min 359 (d + v) ∧ min 359 (d + v) ≤ 359 := by omega
set_option maxRecDepth 100000 in
set_option maxHeartbeats 16000000 in
theorem rMade_any (na : Int) (ol : Option Addr) (n cap : Nat) (L : List F5) (w : World) (hna : inI na) (hL : L.length = n) (hn : n ≤ 9223372036854775807) (hF : ∀ x ∈ L, x.fit) (hS : Sl f5E w ol L) :
    Calls Try.prog 8 #[.int .i64 na, .slice ol n cap] w fun e w' => ∃ B o N c, e = .returned (bookV B.acc o N c B.cl) ∧ BkW w' o N c B.l ∧ Good (2 + pickZ na 11) 48 B ∧ Below w.heap.size w w' := by
  have SL := Lib.hid hS
  have HL := Lib.hid hL
  have HFT := Lib.hid hF
  have PA := Lib.hid (fun W => rpick_any na 11 W hna (by decide) (by decide))
  have hv := pick_in na (n := 11) (by decide)
  obtain ⟨acc, hacc⟩ : ∃ a, 2 + pickZ na 11 = a := ⟨_, rfl⟩
  have a1 : 2 ≤ acc := by omega
  have a2 : acc ≤ 12 := by omega
  have HAC := Lib.hid hacc
  rw [hacc]
  generalize pickZ na 11 = v at *
  clear hS hL hF hna
  go_enter Try.func8, Try.ntmps8
  go_upto_region 2 with (go_at_call 27; with_reducible refine Calls.mono (PA.out _) ?_; rintro e w' ⟨rfl, rfl⟩)
  try rw [hacc]
  refine wp_named fun w1 hq => ?_
  obtain ⟨br, er⟩ : ∃ b, b = w.heap.size := ⟨_, rfl⟩
  obtain ⟨bb, eb⟩ : ∃ b, b = w.heap.size + 1 := ⟨_, rfl⟩
  obtain ⟨r0, r1, hB, hs⟩ := rows2 w 24 24 [.int .i64 0, .slice none 0 0, .int .i64 0] [.int .i64 acc, .slice none 0 0, .int .i64 0] w1 hq
  have HS := Lib.hid (show w.heap.size ≤ br ∧ br < bb ∧ bb < w1.heap.size by omega)
  rw [← er] at r0 ⊢
  rw [← eb] at r1
  rw [show br + 1 = bb by omega]
  have RR := Lib.hid r0
  have RB := Lib.hid r1
  have BB := Lib.hid hB
  have hbb : w.heap.size ≤ bb := by have := HS.out; omega
  have hbr : w.heap.size ≤ br := by have := HS.out; omega
  have nRB : br ≠ bb := by have := HS.out; omega
  clear hq er eb hB hs r0 r1 hacc hv PA HAC
  go_wp2_with fail
  go_loopw [6, 7] (fun dv jv wr => ∃ (k : Nat) (d : Int) (B : Bo) (o : Option Addr) (N c : Nat), dv = .int .i64 d ∧ jv = .int .i64 k ∧ k ≤ 24 ∧ 0 ≤ d ∧ d ≤ 359 ∧ Row wr br 24 [.int .i64 0, .slice none 0 0, .int .i64 0] ∧ Row wr bb 24 [.int .i64 B.acc, .slice o N c, .int .i64 B.cl] ∧ BkW wr o N c B.l ∧ Good acc (2 * k) B ∧ Below w.heap.size w wr ∧ Fr w1.heap.size o ∧ w1.heap.size ≤ wr.heap.size) (fun _ jv _ => 24 - (intOf jv).toNat)
  case atStart => exact ⟨0, 0, ⟨acc, [], 0⟩, none, 0, 0, rfl, rfl, by decide, by decide, by decide, RR.out, RB.out, bkw_zero _, good_new a1 a2, BB.out, (fun a e => by cases e), Nat.le_refl _⟩
  case round =>
    obtain ⟨k, d, ⟨acc', l0, c0⟩, o, N, c, rfl, rfl, hk, hd0, hd1, hRR, hRB, hBW, hG, hB, hFr, hSz⟩ := hrel
    obtain rfl : acc = acc' := hG.1.symm
    rename World => wr
    dsimp only at hRB hBW
    replace RR := Lib.hid hRR
    replace RB := Lib.hid hRB
    replace BB := Lib.hid hB
    have BW := Lib.hid hBW
    have HG := Lib.hid hG
    have HC := Lib.hid hG.cl
    have HN := Lib.hid (show N ≤ 48 from by have := hG.2.2.1; have e := hBW.1; dsimp only at this; omega)
    have SLr := Lib.hid (SL.out.next hB)
    have HSr := Lib.hid (show bb < wr.heap.size from hRB.lt)
    have HFr := Lib.hid hFr
    have HSz := Lib.hid (show Up w1.heap.size wr from hSz)
    have HS1 := Lib.hid (show bb < w1.heap.size ∧ br < w1.heap.size from by have := HS.out; omega)
    clear hFr hSz hRR hRB hB hBW hG
    by_cases hc : (k : Int) < n ∧ (k : Int) < 24
    · obtain ⟨h1, h2⟩ := hc
      obtain ⟨p, hp⟩ : ∃ p, L[k]? = some p := ⟨_, List.getElem?_eq_getElem (by rw [HL.out]; omega)⟩
      have hfit := HFT.out p (List.mem_of_getElem? hp)
      obtain ⟨f0, f1, f2, f3, f4⟩ := hfit
      have HP := Lib.hid hp
      have hN := HN.out
      have CK := Lib.hid (fun W (h : Sl f5E W ol L) => sl_at5 h HP.out)
      obtain ⟨x0, x1, x2, x3, x4⟩ := p
      dsimp only at f0 f1 f2 f3 f4 CK
      have P0 := Lib.hid (fun W => rpick_any x0 6 W f0 (by decide) (by decide))
      have P1 := Lib.hid (fun W => rpick_any x1 20 W f1 (by decide) (by decide))
      have P2 := Lib.hid (fun W => rpick_any x2 acc W f2 (by omega) (by omega))
      have P3 := Lib.hid (fun W => rpick_any x3 (acc - 1) W f3 (by omega) (by omega))
      have P4 := Lib.hid (fun W => rpick_any x4 1000 W f4 (by decide) (by decide))
      have P5 := Lib.hid (fun W => rpick_any x4 6 W f4 (by decide) (by decide))
      have P6 := Lib.hid (fun W => rpick_any x3 (N + 1) W f3 (by omega) (by omega))
      have q1 := pick_in x1 (n := 20) (by decide)
      have q2 := pick_in x2 (n := acc) (by omega)
      have q3 := pick_in x3 (n := acc - 1) (by omega)
      have q4 := pick_in x4 (n := 1000) (by decide)
      have q5 := pick_in x4 (n := 6) (by decide)
      have q6 := pick_in x3 (n := (N : Int) + 1) (by omega)
      generalize pickZ x0 6 = v0 at *
      generalize pickZ x1 20 = v1 at *
      generalize pickZ x2 acc = v2 at *
      generalize pickZ x3 (acc - 1) = v3 at *
      generalize pickZ x4 1000 = v4 at *
      generalize pickZ x4 6 = v5 at *
      generalize pickZ x3 (N + 1) = v6 at *
      clear f0 f1 f2 f3 f4 hp
      obtain ⟨bl, off, rfl, lbl, y0, y1, y2, y3, y4⟩ := CK.out _ SLr.out
      have i0 : (0 : Int) ≤ k := by omega
      go_upto_region 7 with (go_at_call 27; with_reducible refine Calls.mono (P1.out _) ?_; rintro e w' ⟨rfl, rfl⟩)
      have hd2 := min_bd hd0 q1.1
      generalize min 359 (d + v1) = d' at *
      clear P1 q1
      have t0 := RB.out.cell 0
      have t1 := RB.out.cell 1
      have t2 := RB.out.cell 2
      have lt := RB.out.lt
      simp only [List.getElem?_cons_zero, List.getElem?_cons_succ] at t0 t1 t2
      refine wp_region_kin (by kernel_rfl) (by kernel_rfl) wr.heap.size 0 (by simp) (fun hk => ?_)
      repeat (go_big_quiet_step ((go_at_call 27; with_reducible exact Calls.kin_same (P2.out _))))
      refine wpQuiet_nil ?_
      clear hk
      intro w2 hb
      replace RR := Lib.hid (RR.out.next hb)
      replace RB := Lib.hid (RB.out.next hb)
      replace BW := Lib.hid (BW.out.next hb)
      replace SLr := Lib.hid (SLr.out.next hb)
      replace HSz := Lib.hid (HSz.out.next hb)
      replace BB := Lib.hid (Below.andThen BB.out hb)
      clear hb
      clear P2 lbl y0 y1 y2 y3 y4
      clear t0 t1 t2 lt
      have t0 := RB.out.cell 0
      have t1 := RB.out.cell 1
      have t2 := RB.out.cell 2
      have lt := RB.out.lt
      simp only [List.getElem?_cons_zero, List.getElem?_cons_succ] at t0 t1 t2
      obtain ⟨bl', off', e, lbl, y0, y1, y2, y3, y4⟩ := CK.out _ SLr.out
      cases e
      go_upto_region 8 with (fail)
      refine wp_region_float 31 32 _ (.cells #[.int .i64 0, .int .i64 0, .int .i64 0, .int .i64 0, .int .i64 0, .int .i64 0, .int .i64 0] 27) (by kernel_rfl) (by kernel_rfl) rfl rfl (fun ρ w1 => by go_simp) w2.heap.size 0 (by simp) (fun WW hk hWW => ?_)
      simp only [List.take_succ_cons, List.take_zero, List.drop_succ_cons, List.drop_zero, List.cons_append, List.nil_append]
      repeat (go_big_quiet_step ((go_at_call 27; first | with_reducible exact Calls.kin_same (P3.out _) | with_reducible exact Calls.kin_same (P4.out _) | with_reducible exact Calls.kin_same (P5.out _))))
      refine wpQuiet_nil ?_
      clear hk hWW
      intro w3 bP hfb hfl hfo
      have HFB := Lib.hid hfb
      have HFL := Lib.hid hfl
      have HFO := Lib.hid (show Row w3 bP 27 [.int .i64 0, .int .i64 0, .int .i64 0, .int .i64 0, .int .i64 0, .int .i64 0, .int .i64 0] from hfo)
      obtain ⟨oc, of'⟩ := block_cells hfo
      have os := HFO.out.lt
      clear hfb hfl hfo P3 P5 y0 y1 y2 y3 y4 lbl
      clear t0 t1 t2 lt
      simp only [Act.put, List.setIfInBounds_toArray, List.set_cons_zero, List.set_cons_succ]
      go_upto_region 9 with (fail)
      refine wp_named fun w4 hq => ?_
      clear oc of' os
      obtain ⟨X, RP⟩ : ∃ X, Row w4 bP 27 [.int .i64 1, .int .i64 d', .int .i64 v2, .int .i64 X, .int .i64 (1 + v4), .int .i64 v5, .int .i64 (-1)] := ⟨_, by rw [hq]; exact ((((((HFO.out.set 0 _).set 1 _).set 2 _).set 3 _).set 4 _).set 5 _).set 6 _⟩
      have hB : Below w2.heap.size w2 w4 := by
        rw [hq]
        exact ((((((HFB.out.setCell (p := ⟨bP, 0, none⟩) HFL.out _).setCell (p := ⟨bP, 1, none⟩) HFL.out _).setCell (p := ⟨bP, 2, none⟩) HFL.out _).setCell (p := ⟨bP, 3, none⟩) HFL.out _).setCell (p := ⟨bP, 4, none⟩) HFL.out _).setCell (p := ⟨bP, 5, none⟩) HFL.out _).setCell (p := ⟨bP, 6, none⟩) HFL.out _
      replace RP := Lib.hid RP
      replace RR := Lib.hid (RR.out.next hB)
      replace RB := Lib.hid (RB.out.next hB)
      replace BW := Lib.hid (BW.out.next hB)
      replace SLr := Lib.hid (SLr.out.next hB)
      replace HSz := Lib.hid (HSz.out.next hB)
      replace BB := Lib.hid (Below.andThen BB.out hB)
      clear hq hB HFB HFL HFO
      obtain ⟨x, hx⟩ : ∃ x, postB acc l0 c0 ⟨1, d', v2, X, 1 + v4, v5, -1⟩ = x := ⟨_, rfl⟩
      have CP := Lib.hid (fun W (h : BkW W o N c l0) => (show Calls Try.prog 10 #[bookV acc o N c c0, .agg #[.int .i64 1, .int .i64 d', .int .i64 v2, .int .i64 X, .int .i64 (1 + v4), .int .i64 v5, .int .i64 (-1)]] W fun e w' => BoNEr W.heap.size x N e w' ∧ Below W.heap.size W w' from by
        rw [← hx]
        exact rPost_u acc c0 o N c l0 ⟨1, d', v2, X, 1 + v4, v5, -1⟩ W (by omega) (show inI d' from ⟨by omega, by omega⟩) h))
      have HX := Lib.hid hx
      clear hx
      have t0 := RB.out.cell 0
      have t1 := RB.out.cell 1
      have t2 := RB.out.cell 2
      have lt := RB.out.lt
      simp only [List.getElem?_cons_zero, List.getElem?_cons_succ] at t0 t1 t2
      have p0 := RP.out.cell 0
      have p1 := RP.out.cell 1
      have p2 := RP.out.cell 2
      have p3 := RP.out.cell 3
      have p4 := RP.out.cell 4
      have p5 := RP.out.cell 5
      have p6 := RP.out.cell 6
      have lp := RP.out.lt
      simp only [List.getElem?_cons_zero, List.getElem?_cons_succ] at p0 p1 p2 p3 p4 p5 p6
      go_wp2_with fail
      with_reducible refine Calls.mono (CP.out _ BW.out) ?_
      rintro e w5 ⟨⟨o5, N5, c5, rfl, hw, hf⟩, hb⟩
      have BW5 := Lib.hid hw
      have HF5 := Lib.hid hf
      have HS45 := Lib.hid (show bb < w4.heap.size ∧ w1.heap.size ≤ w4.heap.size ∧ w4.heap.size ≤ w5.heap.size from ⟨lt, HSz.out, hb.size⟩)
      replace RR := Lib.hid (RR.out.next hb)
      replace RB := Lib.hid (RB.out.next hb)
      replace BW := Lib.hid (BW.out.next hb)
      replace SLr := Lib.hid (SLr.out.next hb)
      replace HSz := Lib.hid (HSz.out.next hb)
      replace BB := Lib.hid (Below.andThen BB.out hb)
      clear hb hw hf CP
      clear t0 t1 t2 lt
      clear p0 p1 p2 p3 p4 p5 p6 lp
      clear RP
      go_upto_region 10 with (fail)
      refine wp_named fun w6 hq => ?_
      obtain ⟨bX, eX⟩ : ∃ b, b = w5.heap.size := ⟨_, rfl⟩
      have RX := Lib.hid (show Row w6 bX 24 [.int .i64 (boV x).acc, .slice o5 N5 c5, .int .i64 (boV x).cl] from by rw [hq, eX]; exact Row.new w5 _ _)
      have hB : Below w5.heap.size w5 w6 := by rw [hq]; (repeat' first | exact Below.refl _ _ | assumption | (refine below_drewN ?_ _) | (refine Below.drew ?_) | (refine Below.alloc ?_ ?_ _) | (refine Below.setCell ?_ ?_ _) | (simp; done) | (simp; omega) | omega)
      have BWo := Lib.hid BW.out
      have HX5 := Lib.hid (show w5.heap.size ≤ bX by omega)
      have HX6 := Lib.hid (show bb < bX ∧ br < bX by rw [eX]; have := HS45.out; have := HS.out; omega)
      replace RR := Lib.hid (RR.out.next hB)
      replace RB := Lib.hid (RB.out.next hB)
      replace BW := Lib.hid (BW.out.next hB)
      replace BW5 := Lib.hid (BW5.out.next hB)
      replace SLr := Lib.hid (SLr.out.next hB)
      replace HSz := Lib.hid (HSz.out.next hB)
      replace BB := Lib.hid (Below.andThen BB.out hB)
      rw [← eX]
      clear hq hB eX
      have nBX : bb ≠ bX := by have := HX6.out; omega
      have nRX : br ≠ bX := by have := HX6.out; omega
      have hbX : w.heap.size ≤ bX := by have := HX6.out; omega
      obtain ⟨bl', off', e, lbl, y0, y1, y2, y3, y4⟩ := CK.out _ SLr.out
      cases e
      by_cases e4 : v0 = 4
      · subst e4
        go_upto_region 12 with (go_at_call 27; with_reducible refine Calls.mono (P0.out _) ?_; rintro e w' ⟨rfl, rfl⟩)
        clear BW5 HF5
        obtain ⟨y, hy⟩ : ∃ y, dispB acc l0 c0 v6 d' v4 = y := ⟨_, rfl⟩
        have CD := Lib.hid (fun W (h : BkW W o N c l0) => rDispute_u acc c0 v6 d' v4 o N c l0 W (by omega) (show inI d' from ⟨by omega, by omega⟩) h)
        rw [hy] at CD
        have HY := Lib.hid hy
        clear hy
        have t0 := RB.out.cell 0
        have t1 := RB.out.cell 1
        have t2 := RB.out.cell 2
        have lt := RB.out.lt
        simp only [List.getElem?_cons_zero, List.getElem?_cons_succ] at t0 t1 t2
        clear y0 y1 y2
        have z6 : (0 : Int) ≤ v6 := q6.1
        have hw1 : IntKind.i64.wrap ((N : Int) + 1) = N + 1 := by simp [IntKind.wrap, IntKind.bits, IntKind.signed]; omega
        have nXB : bX ≠ bb := Ne.symm nBX
        have nXL : bX ≠ bl := by
          obtain ⟨_, _, e, h, _⟩ := sl_at5 SL.out HP.out
          cases e
          omega
        (go_region_held3 (fun w' => w'.cell? ⟨bb, 0, none⟩ = some (.int .i64 acc) ∧ w'.cell? ⟨bb, 1, none⟩ = some (.slice o N c) ∧ w'.cell? ⟨bb, 2, none⟩ = some (.int .i64 c0) ∧ w'.cell? ⟨bl, off + k * 5 + 3, none⟩ = some (.int .i64 x3) ∧ w'.cell? ⟨bl, off + k * 5 + 4, none⟩ = some (.int .i64 x4)) (first | exact ⟨by assumption, by assumption, by assumption, by assumption, by assumption⟩ | exact ⟨far3 nXB (by assumption), far3 nXB (by assumption), far3 nXB (by assumption), far3 nXL (by assumption), far3 nXL (by assumption)⟩ | go_keep) (first
            | (go_at_call 27; first | (with_reducible refine Calls.mono (P6.out _) ?_; rintro e w' ⟨rfl, rfl⟩) | (with_reducible refine Calls.mono (P4.out _) ?_; rintro e w' ⟨rfl, rfl⟩))
            | (go_at_call 16; refine Calls.mono (CD.out _ (BW.out.next (by repeat (first | exact Below.refl _ _ | refine Below.drew ?_)))) ?_; rintro e w8 ⟨⟨o8, N8, c8, rfl, hw, hf⟩, hb⟩; have HB8 := Lib.hid (show Below w6.heap.size w6 w8 from Below.andThen (by repeat (first | exact Below.refl _ _ | refine Below.drew ?_)) hb); have BW8 := Lib.hid hw; have HF8 := Lib.hid (show Fr w6.heap.size o8 from hf); clear hb hw hf; have t0' := (RB.out.next HB8.out).cell 0; have t1' := (RB.out.next HB8.out).cell 1; have t2' := (RB.out.next HB8.out).cell 2; have s0 := (RX.out.next HB8.out).cell 0; have s1 := (RX.out.next HB8.out).cell 1; have s2 := (RX.out.next HB8.out).cell 2; simp only [List.getElem?_cons_zero, List.getElem?_cons_succ] at t0' t1' t2' s0 s1 s2; have ls := (RX.out.next HB8.out).lt; have fs0 := (RX.out.next HB8.out).frozen 0; have fs1 := (RX.out.next HB8.out).frozen 1; have fs2 := (RX.out.next HB8.out).frozen 2; obtain ⟨bz, oz, ez, lz, z0, z1, z2, z3, z4⟩ := CK.out _ (SLr.out.next HB8.out); cases ez; clear z0 z1 z2)))
        have HX7 := Lib.hid (show bX < w6.heap.size from RX.out.lt)
        have HS7 := Lib.hid (show bb < w6.heap.size ∧ w1.heap.size ≤ w6.heap.size from ⟨RB.out.lt, HSz.out⟩)
        go_upto_region 16 with (fail)
        clear t0' t1' t2' s0 s1 s2 ls fs0 fs1 fs2 z3 z4 lz y3 y4 lbl
        clear t0 t1 t2 lt
        replace RR := Lib.hid (RR.out.next HB8.out)
        replace RB := Lib.hid (RB.out.next HB8.out)
        replace RX := Lib.hid (RX.out.next HB8.out)
        replace BW := Lib.hid (BW.out.next HB8.out)
        replace HSz := Lib.hid (HSz.out.next HB8.out)
        replace BB := Lib.hid (Below.andThen BB.out HB8.out)
        refine wp_named fun w9 hq => ?_
        replace RR := Lib.hid (show Row w9 br _ _ from by rw [hq]; exact ((RR.out.other nRX 0 _).other nRX 1 _).other nRX 2 _)
        replace RB := Lib.hid (show Row w9 bb _ _ from by rw [hq]; exact ((RB.out.other nBX 0 _).other nBX 1 _).other nBX 2 _)
        replace BW := Lib.hid (show BkW w9 o N c l0 from by rw [hq]; exact ((BW.out.apart BWo.out HX5.out _).apart BWo.out HX5.out _).apart BWo.out HX5.out _)
        replace BW8 := Lib.hid (show BkW w9 o8 N8 c8 _ from by rw [hq]; exact ((BW8.out.set (b := bX) (i := 0) HF8.out HX7.out _).set (b := bX) (i := 1) HF8.out HX7.out _).set (b := bX) (i := 2) HF8.out HX7.out _)
        replace BB := Lib.hid (show Below w.heap.size w w9 from by rw [hq]; exact ((BB.out.setCell (p := ⟨bX, 0, none⟩) hbX _).setCell (p := ⟨bX, 1, none⟩) hbX _).setCell (p := ⟨bX, 2, none⟩) hbX _)
        replace HSz := Lib.hid (show Up w1.heap.size w9 from by rw [hq]; simpa [Up] using HSz.out)
        replace RX := Lib.hid (show Row w9 bX 24 [.int .i64 (boV y).acc, .slice o8 N8 c8, .int .i64 (boV y).cl] from by rw [hq]; exact ((RX.out.set 0 _).set 1 _).set 2 _)
        clear hq
        cases y with
        | none =>
          rw [show erI none = 310 from rfl]
          go_wp2_with fail
          go_roundw
          case rel => exact ⟨k + 1, _, ⟨acc, l0, c0⟩, o, N, c, rfl, by go_num, by omega, by omega, by omega, RR.out, RB.out, BW.out, HG.out.more (by omega), BB.out, HFr.out, HSz.out⟩
          case measure => first | (simp [intOf]; done) | (simp [intOf]; omega)
        | some B =>
          have HG2 := Lib.hid (good_disp HG.out HY.out)
          rw [show erI (some B) = 0 from rfl]
          have s0 := RX.out.cell 0
          have s1 := RX.out.cell 1
          have s2 := RX.out.cell 2
          have ls := RX.out.lt
          simp only [List.getElem?_cons_zero, List.getElem?_cons_succ] at s0 s1 s2
          have t0 := RB.out.cell 0
          have t1 := RB.out.cell 1
          have t2 := RB.out.cell 2
          have lt := RB.out.lt
          simp only [List.getElem?_cons_zero, List.getElem?_cons_succ] at t0 t1 t2
          have ft0 := RB.out.frozen 0
          have ft1 := RB.out.frozen 1
          have ft2 := RB.out.frozen 2
          go_wp2_with fail
          go_roundw
          case rel => exact ⟨k + 1, _, B, o8, N8, c8, rfl, by go_num, by omega, by omega, by omega, ((RR.out.other nRB 0 _).other nRB 1 _).other nRB 2 _, ((RB.out.set 0 _).set 1 _).set 2 _, ((BW8.out.set (b := bb) (i := 0) HF8.out HS7.out.1 _).set (b := bb) (i := 1) HF8.out HS7.out.1 _).set (b := bb) (i := 2) HF8.out HS7.out.1 _, HG2.out.more (by omega), ((BB.out.setCell (p := ⟨bb, 0, none⟩) hbb _).setCell (p := ⟨bb, 1, none⟩) hbb _).setCell (p := ⟨bb, 2, none⟩) hbb _, HF8.out.lower HS7.out.2, by simpa [Up] using HSz.out⟩
          case measure => first | (simp [intOf]; done) | (simp [intOf]; omega)
      · by_cases e5 : v0 = 5
        · subst e5
          obtain ⟨y, hy⟩ : ∃ y, closeB acc l0 c0 c0 = y := ⟨_, rfl⟩
          have CC := Lib.hid (fun W (h : BkW W o N c l0) => rClose_u acc c0 c0 o N c l0 W (by omega) h)
          rw [hy] at CC
          have HY := Lib.hid hy
          clear hy
          have t0 := RB.out.cell 0
          have t1 := RB.out.cell 1
          have t2 := RB.out.cell 2
          have lt := RB.out.lt
          simp only [List.getElem?_cons_zero, List.getElem?_cons_succ] at t0 t1 t2
          go_upto_region 14 with (go_at_call 27; with_reducible refine Calls.mono (P0.out _) ?_; rintro e w' ⟨rfl, rfl⟩)
          clear BW5 HF5 y0 y1 y2 y3 y4 lbl
          have HX7 := Lib.hid (show bX < w6.heap.size from RX.out.lt)
          have HS7 := Lib.hid (show bb < w6.heap.size ∧ w1.heap.size ≤ w6.heap.size from ⟨RB.out.lt, HSz.out⟩)
          go_wp2_with fail
          with_reducible refine Calls.mono (CC.out _ BW.out) ?_
          rintro e w8 ⟨⟨o8, N8, c8, rfl, hw, hf⟩, hb⟩
          have BW8 := Lib.hid hw
          have HF8 := Lib.hid hf
          replace RR := Lib.hid (RR.out.next hb)
          replace RB := Lib.hid (RB.out.next hb)
          replace RX := Lib.hid (RX.out.next hb)
          replace BW := Lib.hid (BW.out.next hb)
          replace HSz := Lib.hid (HSz.out.next hb)
          replace BB := Lib.hid (Below.andThen BB.out hb)
          clear hb hw hf CC
          clear t0 t1 t2 lt
          have s0 := RX.out.cell 0
          have s1 := RX.out.cell 1
          have s2 := RX.out.cell 2
          have ls := RX.out.lt
          simp only [List.getElem?_cons_zero, List.getElem?_cons_succ] at s0 s1 s2
          have fs0 := RX.out.frozen 0
          have fs1 := RX.out.frozen 1
          have fs2 := RX.out.frozen 2
          go_upto_region 15 with (fail)
          clear s0 s1 s2 ls fs0 fs1 fs2
          refine wp_named fun w9 hq => ?_
          replace RR := Lib.hid (show Row w9 br _ _ from by rw [hq]; exact ((RR.out.other nRX 0 _).other nRX 1 _).other nRX 2 _)
          replace RB := Lib.hid (show Row w9 bb _ _ from by rw [hq]; exact ((RB.out.other nBX 0 _).other nBX 1 _).other nBX 2 _)
          replace BW := Lib.hid (show BkW w9 o N c l0 from by rw [hq]; exact ((BW.out.apart BWo.out HX5.out _).apart BWo.out HX5.out _).apart BWo.out HX5.out _)
          replace BW8 := Lib.hid (show BkW w9 o8 N8 c8 _ from by rw [hq]; exact ((BW8.out.set (b := bX) (i := 0) HF8.out HX7.out _).set (b := bX) (i := 1) HF8.out HX7.out _).set (b := bX) (i := 2) HF8.out HX7.out _)
          replace BB := Lib.hid (show Below w.heap.size w w9 from by rw [hq]; exact ((BB.out.setCell (p := ⟨bX, 0, none⟩) hbX _).setCell (p := ⟨bX, 1, none⟩) hbX _).setCell (p := ⟨bX, 2, none⟩) hbX _)
          replace HSz := Lib.hid (show Up w1.heap.size w9 from by rw [hq]; simpa [Up] using HSz.out)
          replace RX := Lib.hid (show Row w9 bX 24 [.int .i64 (boV y).acc, .slice o8 N8 c8, .int .i64 (boV y).cl] from by rw [hq]; exact ((RX.out.set 0 _).set 1 _).set 2 _)
          clear hq
          cases y with
          | none =>
            rw [show erI none = 310 from rfl]
            rw [show (boV none).cl = 0 from rfl] at RX
            have s0 := RX.out.cell 0
            have s1 := RX.out.cell 1
            have s2 := RX.out.cell 2
            have ls := RX.out.lt
            simp only [List.getElem?_cons_zero, List.getElem?_cons_succ] at s0 s1 s2
            go_wp2_with fail
            go_roundw
            case rel => exact ⟨k + 1, _, ⟨acc, l0, c0⟩, o, N, c, rfl, by go_num, by omega, by omega, by omega, RR.out, RB.out, BW.out, HG.out.more (by omega), BB.out, HFr.out, HSz.out⟩
            case measure => first | (simp [intOf]; done) | (simp [intOf]; omega)
          | some B =>
            have HG2 := Lib.hid (good_close HG.out HY.out)
            rw [show erI (some B) = 0 from rfl]
            rw [show (boV (some B)).cl = B.cl from rfl] at RX
            have hcl := HG2.out.cl
            have s0 := RX.out.cell 0
            have s1 := RX.out.cell 1
            have s2 := RX.out.cell 2
            have ls := RX.out.lt
            simp only [List.getElem?_cons_zero, List.getElem?_cons_succ] at s0 s1 s2
            have t0 := RB.out.cell 0
            have t1 := RB.out.cell 1
            have t2 := RB.out.cell 2
            have lt := RB.out.lt
            simp only [List.getElem?_cons_zero, List.getElem?_cons_succ] at t0 t1 t2
            have ft0 := RB.out.frozen 0
            have ft1 := RB.out.frozen 1
            have ft2 := RB.out.frozen 2
            go_wp2_with fail
            go_roundw
            case rel => exact ⟨k + 1, _, B, o8, N8, c8, rfl, by go_num, by omega, by omega, by omega, ((RR.out.other nRB 0 _).other nRB 1 _).other nRB 2 _, ((RB.out.set 0 _).set 1 _).set 2 _, ((BW8.out.set (b := bb) (i := 0) HF8.out HS7.out.1 _).set (b := bb) (i := 1) HF8.out HS7.out.1 _).set (b := bb) (i := 2) HF8.out HS7.out.1 _, HG2.out.more (by omega), ((BB.out.setCell (p := ⟨bb, 0, none⟩) hbb _).setCell (p := ⟨bb, 1, none⟩) hbb _).setCell (p := ⟨bb, 2, none⟩) hbb _, HF8.out.lower HS7.out.2, by simpa [Up] using HSz.out⟩
            case measure => first | (simp [intOf]; done) | (simp [intOf]; omega)
        · go_upto_region 16 with (go_at_call 27; with_reducible refine Calls.mono (P0.out _) ?_; rintro e w' ⟨rfl, rfl⟩)
          clear y0 y1 y2 y3 y4 lbl
          cases x with
          | none =>
            rw [show erI none = 310 from rfl]
            go_wp2_with fail
            go_roundw
            case rel => exact ⟨k + 1, _, ⟨acc, l0, c0⟩, o, N, c, rfl, by go_num, by omega, by omega, by omega, RR.out, RB.out, BW.out, HG.out.more (by omega), BB.out, HFr.out, HSz.out⟩
            case measure => first | (simp [intOf]; done) | (simp [intOf]; omega)
          | some B =>
            have HG2 := Lib.hid (good_post HG.out (p := ⟨1, d', v2, X, 1 + v4, v5, -1⟩) q5 HX.out)
            rw [show erI (some B) = 0 from rfl]
            have s0 := RX.out.cell 0
            have s1 := RX.out.cell 1
            have s2 := RX.out.cell 2
            have ls := RX.out.lt
            simp only [List.getElem?_cons_zero, List.getElem?_cons_succ] at s0 s1 s2
            have t0 := RB.out.cell 0
            have t1 := RB.out.cell 1
            have t2 := RB.out.cell 2
            have lt := RB.out.lt
            simp only [List.getElem?_cons_zero, List.getElem?_cons_succ] at t0 t1 t2
            have ft0 := RB.out.frozen 0
            have ft1 := RB.out.frozen 1
            have ft2 := RB.out.frozen 2
            go_wp2_with fail
            go_roundw
            case rel => exact ⟨k + 1, _, B, o5, N5, c5, rfl, by go_num, by omega, by omega, by omega, ((RR.out.other nRB 0 _).other nRB 1 _).other nRB 2 _, ((RB.out.set 0 _).set 1 _).set 2 _, ((BW5.out.set (b := bb) (i := 0) HF5.out HS45.out.1 _).set (b := bb) (i := 1) HF5.out HS45.out.1 _).set (b := bb) (i := 2) HF5.out HS45.out.1 _, HG2.out.more (by omega), ((BB.out.setCell (p := ⟨bb, 0, none⟩) hbb _).setCell (p := ⟨bb, 1, none⟩) hbb _).setCell (p := ⟨bb, 2, none⟩) hbb _, HF5.out.lower HS45.out.2.1, by simpa [Up] using HSz.out⟩
            case measure => first | (simp [intOf]; done) | (simp [intOf]; omega)
    · have t0 := RB.out.cell 0
      have t1 := RB.out.cell 1
      have t2 := RB.out.cell 2
      have lt := RB.out.lt
      simp only [List.getElem?_cons_zero, List.getElem?_cons_succ] at t0 t1 t2
      have q0 := RR.out.cell 0
      have q1 := RR.out.cell 1
      have q2 := RR.out.cell 2
      have lq := RR.out.lt
      simp only [List.getElem?_cons_zero, List.getElem?_cons_succ] at q0 q1 q2
      have fq0 := RR.out.frozen 0
      have fq1 := RR.out.frozen 1
      have fq2 := RR.out.frozen 2
      have nBR : bb ≠ br := Ne.symm nRB
      by_cases h1 : (k : Int) < n
      · have h2 : ¬ (k : Int) < 24 := fun h => hc ⟨h1, h⟩
        clear hc
        go_wp2_with fail
        clear q0 q1 q2 lq
        clear t0 t1 t2 lt
        refine bodyPost_named fun WW hq => ?_
        have RXn := Lib.hid (show Row WW _ _ _ from by rw [hq]; exact ((RR.out.set 0 (.int .i64 acc)).set 1 (.slice o N c)).set 2 (.int .i64 c0))
        have BW6 := Lib.hid (show BkW WW o N c l0 from by rw [hq]; exact ((BW.out.set (b := br) (i := 0) HFr.out HS1.out.2 _).set (b := br) (i := 1) HFr.out HS1.out.2 _).set (b := br) (i := 2) HFr.out HS1.out.2 _)
        have BB6 := Lib.hid (show Below w.heap.size w WW from by rw [hq]; exact ((BB.out.setCell (p := ⟨br, 0, none⟩) hbr _).setCell (p := ⟨br, 1, none⟩) hbr _).setCell (p := ⟨br, 2, none⟩) hbr _)
        clear hq
        have xr0 := RXn.out.cell 0
        have xr1 := RXn.out.cell 1
        have xr2 := RXn.out.cell 2
        simp only [List.set_cons_zero, List.set_cons_succ, List.getElem?_cons_zero, List.getElem?_cons_succ] at xr0 xr1 xr2
        refine bodyPost_ret (v := bookV acc o N c c0) (by first | (simp [results, Try.results8, go_sem]; done) | simp [results, Try.results8, go_sem, *]) rfl ⟨⟨acc, l0, c0⟩, o, N, c, rfl, BW6.out, HG.out.more (by omega), BB6.out⟩
      · clear hc
        go_wp2_with fail
        clear q0 q1 q2 lq
        clear t0 t1 t2 lt
        refine bodyPost_named fun WW hq => ?_
        have RXn := Lib.hid (show Row WW _ _ _ from by rw [hq]; exact ((RR.out.set 0 (.int .i64 acc)).set 1 (.slice o N c)).set 2 (.int .i64 c0))
        have BW6 := Lib.hid (show BkW WW o N c l0 from by rw [hq]; exact ((BW.out.set (b := br) (i := 0) HFr.out HS1.out.2 _).set (b := br) (i := 1) HFr.out HS1.out.2 _).set (b := br) (i := 2) HFr.out HS1.out.2 _)
        have BB6 := Lib.hid (show Below w.heap.size w WW from by rw [hq]; exact ((BB.out.setCell (p := ⟨br, 0, none⟩) hbr _).setCell (p := ⟨br, 1, none⟩) hbr _).setCell (p := ⟨br, 2, none⟩) hbr _)
        clear hq
        have xr0 := RXn.out.cell 0
        have xr1 := RXn.out.cell 1
        have xr2 := RXn.out.cell 2
        simp only [List.set_cons_zero, List.set_cons_succ, List.getElem?_cons_zero, List.getElem?_cons_succ] at xr0 xr1 xr2
        refine bodyPost_ret (v := bookV acc o N c c0) (by first | (simp [results, Try.results8, go_sem]; done) | simp [results, Try.results8, go_sem, *]) rfl ⟨⟨acc, l0, c0⟩, o, N, c, rfl, BW6.out, HG.out.more (by omega), BB6.out⟩
end Bk
end Go.Proofs.Ytnhlhoijajhcjaa
