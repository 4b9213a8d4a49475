/- BookKeeps. -/
import Derived.Test.YtnhlhoijajhcjaaBkZ
set_option linter.unusedVariables false
set_option linter.unusedSimpArgs false
namespace Go.Proofs.Ytnhlhoijajhcjaa
open Go.RowKit
namespace Bk
open Sq
set_option maxRecDepth 100000 in
set_option maxHeartbeats 16000000 in
theorem keeps_walk (na : Int) (ol : Option Addr) (nl cap : Nat) (L : List F5) (om : Option Addr) (nm capm : Nat) (Mo : List F5) (w : World) (hna : inI na) (hV : Fv w ol nl L) (hVM : Fv w om nm Mo) :
    Calls Try.prog 5 #[.int .i64 na, .slice ol nl cap, .slice om nm capm] w fun e w' => e = .returned (.bool true) ∧ Below w.heap.size w w' := by
  have BB := Lib.hid (Below.refl w.heap.size w)
  have HV := Lib.hid hV
  have CM := Lib.hid (fun W (h : Fv W ol nl L) => rMade_any na ol nl cap L W hna h.1 h.2.1 h.2.2.1 h.2.2.2)
  clear hV hna
  have HVM0 := Lib.hid hVM
  clear hVM
  go_enter Try.func5, Try.ntmps5
  go_wp2_with fail
  with_reducible refine Calls.mono (sane_any _) ?_
  rintro e w1 ⟨rfl, hb⟩
  replace HV := Lib.hid (HV.out.next hb)
  replace BB := Lib.hid (Below.andThen BB.out hb)
  clear hb
  go_wp2_with fail
  with_reducible refine Calls.mono (CM.out _ HV.out) ?_
  rintro e w2 ⟨⟨acc, l, cl⟩, o, N, c, rfl, hw, hG, hb⟩
  dsimp only at hw
  have hacc := hG.acc
  have HLen := Lib.hid hG.2.2.1
  have HSub := Lib.hid hG.2.2.2
  have hvd := hG.2.1
  have hav := hG.1
  dsimp only at hvd hav
  rw [← hav] at hacc
  clear hav hG
  obtain ⟨A, rfl⟩ : ∃ A : Nat, acc = A := ⟨acc.toNat, by omega⟩
  have HVd := Lib.hid hvd
  have hA12 : A ≤ 12 := by omega
  have hA2 : 2 ≤ A := by omega
  have BW := Lib.hid hw
  replace HV := Lib.hid (HV.out.next hb)
  replace BB := Lib.hid (Below.andThen BB.out hb)
  clear hb hw hvd hacc CM
  go_upto_region 3 with (fail)
  refine wp_named fun w3 hq => ?_
  have HBW2 := Lib.hid BW.out
  obtain ⟨bB, eB⟩ : ∃ b, b = w2.heap.size := ⟨_, rfl⟩
  have hw2B : w2.heap.size ≤ bB := by omega
  have RB := Lib.hid (show Row w3 bB 24 [.int .i64 A, .slice o N c, .int .i64 cl] from by rw [hq, eB]; exact Row.new w2 _ _)
  have hB : Below w2.heap.size w2 w3 := by rw [hq]; (repeat' first | exact Below.refl _ _ | assumption | (refine below_drewN ?_ _) | (refine Below.drew ?_) | (refine Below.alloc ?_ ?_ _) | (refine Below.setCell ?_ ?_ _) | (simp; done) | (simp; omega) | omega)
  have hbB : w.heap.size ≤ bB := by rw [eB]; exact BB.out.size
  replace HV := Lib.hid (HV.out.next hB)
  replace BW := Lib.hid (BW.out.next hB)
  replace BB := Lib.hid (Below.andThen BB.out hB)
  rw [← eB]
  clear hq hB eB
  clear HV
  have HVM := Lib.hid (HVM0.out.next BB.out)
  have CV := Lib.hid (fun W (h : BkW W o N c l) => Valid_u A cl o N c l W h)
  rw [vd_iff.2 HVd.out] at CV
  have hbw3 : bB < w3.heap.size := RB.out.lt
  have HCl := Lib.hid (show Cl bB o N c l from cl_old HBW2.out hw2B)
  have a0 := RB.out.cell 0
  have a1 := RB.out.cell 1
  have a2 := RB.out.cell 2
  have la := RB.out.lt
  simp only [List.getElem?_cons_zero, List.getElem?_cons_succ] at a0 a1 a2
  go_wp2_with fail
  with_reducible refine Calls.mono (CV.out _ BW.out) ?_
  rintro e w4 ⟨rfl, hb⟩
  have hb34 := hb.size
  replace RB := Lib.hid (RB.out.next hb)
  replace BW := Lib.hid (BW.out.next hb)
  replace HVM := Lib.hid (HVM.out.next hb)
  replace BB := Lib.hid (Below.andThen BB.out hb)
  clear hb CV
  clear a0 a1 a2 la
  have HLen48 := Lib.hid (show l.length ≤ 48 from HLen.out)
  clear HLen HSub
  go_wp2_with fail
  go_loopw [9] (fun jv wr => ∃ (k : Nat) (B : Bo) (o : Option Addr) (N c : Nat), jv = .int .i64 k ∧ k ≤ 8 ∧ Row wr bB 24 [.int .i64 B.acc, .slice o N c, .int .i64 B.cl] ∧ BkW wr o N c B.l ∧ Vd B.acc B.l B.cl ∧ B.l.length ≤ 48 + 2 * k ∧ Cl bB o N c B.l ∧ Below w.heap.size w wr ∧ Up w4.heap.size wr ∧ Fv wr om nm Mo) (fun jv _ => 8 - (intOf jv).toNat)
  case atStart => exact ⟨0, ⟨A, l, cl⟩, o, N, c, rfl, by decide, RB.out, BW.out, HVd.out, HLen48.out, HCl.out, BB.out, Nat.le_refl _, HVM.out⟩
  case round =>
    clear hA12 hA2 HVd HLen48 HCl HVM RB BW BB
    obtain ⟨k, ⟨acc, l, cl⟩, o, N, c, rfl, hk, hRB, hBW, hvd, hlen, hcl, hB, hUp, hVM⟩ := hrel
    rename World => wr
    dsimp only at hRB hBW hvd hlen hcl
    obtain ⟨A, rfl⟩ : ∃ A : Nat, acc = A := ⟨acc.toNat, by have := hvd.1.1; omega⟩
    have hA12 : A ≤ 12 := by have := hvd.1.2.1; omega
    have hcl0 : 0 ≤ cl := hvd.1.2.2.1
    have hcl12 : cl ≤ 12 := hvd.1.2.2.2.1
    have hN64 : N ≤ 64 := by have := hBW.1; omega
    have RB := Lib.hid hRB
    have BW := Lib.hid hBW
    have HVd := Lib.hid hvd
    have HLn := Lib.hid hlen
    have HCl := Lib.hid hcl
    have BB := Lib.hid hB
    have HUp := Lib.hid hUp
    have HVM := Lib.hid hVM
    have HL := Lib.hid hBW.1
    have hbr : bB < wr.heap.size := hRB.lt
    clear hRB hBW hvd hlen hcl hB hUp hVM
    by_cases hc : (k : Int) < nm ∧ (k : Int) < 8
    · obtain ⟨h1, h2⟩ := hc
      obtain ⟨p, hp⟩ : ∃ p, Mo[k]? = some p := ⟨_, List.getElem?_eq_getElem (by rw [HVM.out.1]; omega)⟩
      obtain ⟨f0, f1, f2, f3, f4⟩ := HVM.out.2.2.1 p (List.mem_of_getElem? hp)
      obtain ⟨bl, off, rfl, lbl, y0, y1, y2, y3, y4⟩ := sl_at5 HVM.out.2.2.2 hp
      have hblw : bl < w.heap.size := by
        obtain ⟨_, _, e, h, _⟩ := sl_at5 HVM0.out.2.2.2 hp
        cases e
        exact h
      have nBl : bB ≠ bl := by omega
      have i0 : (0 : Int) ≤ k := by omega
      clear hp
      obtain ⟨x0, x1, x2, x3, x4⟩ := p
      dsimp only at f0 f1 f2 f3 f4 y0 y1 y2 y3 y4
      go_upto_region 9 with (fail)
      clear y0 y1 y2 y3 y4 lbl
      refine wp_named fun w5 hq => ?_
      obtain ⟨bx, ex⟩ : ∃ b, b = wr.heap.size := ⟨_, rfl⟩
      have RV := Lib.hid (show Row w5 bx 48 [.int .i64 x0, .int .i64 x1, .int .i64 x2, .int .i64 x3, .int .i64 x4] from by rw [hq, ex]; exact Row.new wr _ _)
      have hB : Below wr.heap.size wr w5 := by rw [hq]; (repeat' first | exact Below.refl _ _ | assumption | (refine below_drewN ?_ _) | (refine Below.drew ?_) | (refine Below.alloc ?_ ?_ _) | (refine Below.setCell ?_ ?_ _) | (simp; done) | (simp; omega) | omega)
      have BW5 := BW
      replace RB := Lib.hid (RB.out.next hB)
      replace BW := Lib.hid (BW.out.next hB)
      replace HUp := Lib.hid (HUp.out.next hB)
      replace HVM := Lib.hid (HVM.out.next hB)
      replace BB := Lib.hid (Below.andThen BB.out hB)
      rw [← ex]
      clear hq hB ex
      have P0 := Lib.hid (fun W => pick_any x0 4 W f0 (by decide) (by decide))
      have P1 := Lib.hid (fun W => pick_any x1 360 W f1 (by decide) (by decide))
      have P2 := Lib.hid (fun W => pick_any x2 4 W f2 (by decide) (by decide))
      have P3 := Lib.hid (fun W => pick_any x3 4 W f3 (by decide) (by decide))
      have P4 := Lib.hid (fun W => pick_any x4 1000 W f4 (by decide) (by decide))
      have P5 := Lib.hid (fun W => pick_any x4 6 W f4 (by decide) (by decide))
      have P6 := Lib.hid (fun W => pick_any x2 30 W f2 (by decide) (by decide))
      have P7 := Lib.hid (fun W => pick_any x1 13 W f1 (by decide) (by decide))
      have q1 := pick_in x1 (n := 360) (by decide)
      generalize pickZ x0 4 = v0 at *
      generalize pickZ x1 360 = day at *
      generalize pickZ x2 4 = v2 at *
      generalize pickZ x3 4 = v3 at *
      generalize pickZ x4 1000 = v4 at *
      generalize pickZ x4 6 = v5 at *
      generalize pickZ x2 30 = v6 at *
      generalize pickZ x1 13 = v7 at *
      clear f0 f1 f2 f3 f4
      have z0 := RV.out.cell 0
      have z1 := RV.out.cell 1
      have z2 := RV.out.cell 2
      have z3 := RV.out.cell 3
      have z4 := RV.out.cell 4
      have lz := RV.out.lt
      simp only [List.getElem?_cons_zero, List.getElem?_cons_succ] at z0 z1 z2 z3 z4
      go_upto_region 10 with (go_at_call 14; with_reducible refine Calls.mono (P1.out _) ?_; rintro e w' ⟨rfl, rfl⟩)
      clear P1
      refine wp_region_float 14 15 _ (.cells #[.int .i64 0, .int .i64 0, .int .i64 0, .int .i64 0, .int .i64 0, .int .i64 0, .int .i64 0] 27) (by kernel_rfl) (by kernel_rfl) rfl rfl (fun ρ w1 => by go_simp) w5.heap.size 0 (by simp) (fun WW hk hWW => ?_)
      simp only [List.take_succ_cons, List.take_zero, List.drop_succ_cons, List.drop_zero, List.cons_append, List.nil_append]
      repeat (go_big_quiet_step ((go_at_call 14; first | with_reducible exact Calls.kin_same (P2.out _) | with_reducible exact Calls.kin_same (P3.out _) | with_reducible exact Calls.kin_same (P4.out _) | with_reducible exact Calls.kin_same (P5.out _))))
      refine wpQuiet_nil ?_
      clear hk hWW
      intro w6 bP hfb hfl hfo
      have HFB := Lib.hid hfb
      have HFL := Lib.hid hfl
      have HFO := Lib.hid (show Row w6 bP 27 [.int .i64 0, .int .i64 0, .int .i64 0, .int .i64 0, .int .i64 0, .int .i64 0, .int .i64 0] from hfo)
      obtain ⟨oc, of'⟩ := block_cells hfo
      have os := HFO.out.lt
      clear hfb hfl hfo P2 P3 P5
      clear z0 z1 z2 z3 z4 lz
      simp only [Act.put, List.setIfInBounds_toArray, List.set_cons_zero, List.set_cons_succ]
      go_upto_region 11 with (fail)
      refine wp_named fun w7 hq => ?_
      clear oc of' os
      have RP := Lib.hid (show Row w7 bP 27 [.int .i64 1, .int .i64 day, .int .i64 v2, .int .i64 v3, .int .i64 v4, .int .i64 v5, .int .i64 (-1)] from by rw [hq]; exact ((((((HFO.out.set 0 _).set 1 _).set 2 _).set 3 _).set 4 _).set 5 _).set 6 _)
      have hB : Below w5.heap.size w5 w7 := by
        rw [hq]
        exact ((((((HFB.out.setCell (p := ⟨bP, 0, none⟩) HFL.out _).setCell (p := ⟨bP, 1, none⟩) HFL.out _).setCell (p := ⟨bP, 2, none⟩) HFL.out _).setCell (p := ⟨bP, 3, none⟩) HFL.out _).setCell (p := ⟨bP, 4, none⟩) HFL.out _).setCell (p := ⟨bP, 5, none⟩) HFL.out _).setCell (p := ⟨bP, 6, none⟩) HFL.out _
      replace RB := Lib.hid (RB.out.next hB)
      replace BW := Lib.hid (BW.out.next hB)
      replace HUp := Lib.hid (HUp.out.next hB)
      replace HVM := Lib.hid (HVM.out.next hB)
      replace RV := Lib.hid (RV.out.next hB)
      replace BB := Lib.hid (Below.andThen BB.out hB)
      clear hq hB HFB HFL HFO
      obtain ⟨x, hx⟩ : ∃ x, postB A l cl ⟨1, day, v2, v3, v4, v5, -1⟩ = x := ⟨_, rfl⟩
      have CP := Lib.hid (fun W (h : BkW W o N c l) => (show Calls Try.prog 9 #[bookV A o N c cl, .agg #[.int .i64 1, .int .i64 day, .int .i64 v2, .int .i64 v3, .int .i64 v4, .int .i64 v5, .int .i64 (-1)]] W fun e w' => BoNEr W.heap.size x N e w' ∧ Below W.heap.size W w' from by
        rw [← hx]
        exact Post_u A cl o N c l ⟨1, day, v2, v3, v4, v5, -1⟩ W (by omega) (show inI day from ⟨by omega, by omega⟩) h))
      have HX := Lib.hid hx
      clear hx
      have t0 := RB.out.cell 0
      have t1 := RB.out.cell 1
      have t2 := RB.out.cell 2
      have lt := RB.out.lt
      simp only [List.getElem?_cons_zero, List.getElem?_cons_succ] at t0 t1 t2
      have p0 := RP.out.cell 0
      have p1 := RP.out.cell 1
      have p2 := RP.out.cell 2
      have p3 := RP.out.cell 3
      have p4 := RP.out.cell 4
      have p5 := RP.out.cell 5
      have p6 := RP.out.cell 6
      have lp := RP.out.lt
      simp only [List.getElem?_cons_zero, List.getElem?_cons_succ] at p0 p1 p2 p3 p4 p5 p6
      go_wp2_with fail
      with_reducible refine Calls.mono (CP.out _ BW.out) ?_
      rintro e w8 ⟨⟨o5, N5, c5, rfl, hw, hf⟩, hb⟩
      have BW9 := Lib.hid hw
      have HF5 := Lib.hid hf
      have hs78 := hb.size
      have hb7 : bB < w7.heap.size := lt
      replace RB := Lib.hid (RB.out.next hb)
      replace BW := Lib.hid (BW.out.next hb)
      replace HUp := Lib.hid (HUp.out.next hb)
      replace HVM := Lib.hid (HVM.out.next hb)
      replace RV := Lib.hid (RV.out.next hb)
      replace BB := Lib.hid (Below.andThen BB.out hb)
      clear hb hw hf CP RP
      clear t0 t1 t2 lt
      clear p0 p1 p2 p3 p4 p5 p6 lp
      go_upto_region 12 with (fail)
      refine wp_named fun w9 hq => ?_
      obtain ⟨bX, eX⟩ : ∃ b, b = w8.heap.size := ⟨_, rfl⟩
      have RX := Lib.hid (show Row w9 bX 24 [.int .i64 (boV x).acc, .slice o5 N5 c5, .int .i64 (boV x).cl] from by rw [hq, eX]; exact Row.new w8 _ _)
      have hB : Below w8.heap.size w8 w9 := by rw [hq]; (repeat' first | exact Below.refl _ _ | assumption | (refine below_drewN ?_ _) | (refine Below.drew ?_) | (refine Below.alloc ?_ ?_ _) | (refine Below.setCell ?_ ?_ _) | (simp; done) | (simp; omega) | omega)
      have BWo := Lib.hid BW.out
      have hX8 : w8.heap.size ≤ bX := by omega
      have nBX : bB ≠ bX := by omega
      have nXB : bX ≠ bB := by omega
      have nXV : bX ≠ bx := by have := RV.out.lt; omega
      have nVX : bx ≠ bX := Ne.symm nXV
      have hbX : w.heap.size ≤ bX := by rw [eX]; exact BB.out.size
      replace RB := Lib.hid (RB.out.next hB)
      replace BW := Lib.hid (BW.out.next hB)
      replace BW9 := Lib.hid (BW9.out.next hB)
      replace HUp := Lib.hid (HUp.out.next hB)
      replace HVM := Lib.hid (HVM.out.next hB)
      replace RV := Lib.hid (RV.out.next hB)
      replace BB := Lib.hid (Below.andThen BB.out hB)
      rw [← eX]
      clear hq hB eX
      have hw9 : w8.heap.size ≤ w9.heap.size := by have := RX.out.lt; omega
      have z0 := RV.out.cell 0
      have z1 := RV.out.cell 1
      have z2 := RV.out.cell 2
      have z3 := RV.out.cell 3
      have z4 := RV.out.cell 4
      have lz := RV.out.lt
      simp only [List.getElem?_cons_zero, List.getElem?_cons_succ] at z0 z1 z2 z3 z4
      by_cases e4 : v0 = 2
      · subst e4
        go_upto_region 15 with (go_at_call 14; with_reducible refine Calls.mono (P0.out _) ?_; rintro e w' ⟨rfl, rfl⟩)
        clear BW9 HF5 P0
        as_aux_lemma =>
          obtain ⟨y, hy⟩ : ∃ y, dispB A l cl v6 day v4 = y := ⟨_, rfl⟩
          have CD := Lib.hid (fun W (h : BkW W o N c l) => Dispute_u A cl v6 day v4 o N c l W (by omega) (show inI day from ⟨by omega, by omega⟩) h)
          rw [hy] at CD
          have HY := Lib.hid hy
          clear hy
          have hb9 : bB < w9.heap.size := by omega
          have t0 := RB.out.cell 0
          have t1 := RB.out.cell 1
          have t2 := RB.out.cell 2
          have lt := RB.out.lt
          simp only [List.getElem?_cons_zero, List.getElem?_cons_succ] at t0 t1 t2
          (go_region_held3 (fun w' => w'.cell? ⟨bB, 0, none⟩ = some (.int .i64 A) ∧ w'.cell? ⟨bB, 1, none⟩ = some (.slice o N c) ∧ w'.cell? ⟨bB, 2, none⟩ = some (.int .i64 cl) ∧ w'.cell? ⟨bx, 2, none⟩ = some (.int .i64 x2) ∧ w'.cell? ⟨bx, 4, none⟩ = some (.int .i64 x4)) (first | exact ⟨by assumption, by assumption, by assumption, by assumption, by assumption⟩ | exact ⟨far3 nXB (by assumption), far3 nXB (by assumption), far3 nXB (by assumption), far3 nXV (by assumption), far3 nXV (by assumption)⟩ | go_keep) (first
            | (go_at_call 14; first | (with_reducible refine Calls.mono (P6.out _) ?_; rintro e w' ⟨rfl, rfl⟩) | (with_reducible refine Calls.mono (P4.out _) ?_; rintro e w' ⟨rfl, rfl⟩))
            | (go_at_call 15; refine Calls.mono (CD.out _ (BW.out.next (by repeat (first | exact Below.refl _ _ | refine Below.drew ?_)))) ?_; rintro e wk ⟨⟨o8, N8, c8, rfl, hw, hf⟩, hb⟩; have HB8 := Lib.hid (show Below w9.heap.size w9 wk from Below.andThen (by repeat (first | exact Below.refl _ _ | refine Below.drew ?_)) hb); have BW8 := Lib.hid hw; have HF8 := Lib.hid (show Fr w9.heap.size o8 from hf); clear hb hw hf; have t0' := (RB.out.next HB8.out).cell 0; have t1' := (RB.out.next HB8.out).cell 1; have t2' := (RB.out.next HB8.out).cell 2; have s0 := (RX.out.next HB8.out).cell 0; have s1 := (RX.out.next HB8.out).cell 1; have s2 := (RX.out.next HB8.out).cell 2; have u0 := (RV.out.next HB8.out).cell 0; have u1 := (RV.out.next HB8.out).cell 1; have u2 := (RV.out.next HB8.out).cell 2; have u3 := (RV.out.next HB8.out).cell 3; have u4 := (RV.out.next HB8.out).cell 4; simp only [List.getElem?_cons_zero, List.getElem?_cons_succ] at t0' t1' t2' s0 s1 s2 u0 u1 u2 u3 u4; have ls := (RX.out.next HB8.out).lt; have fs0 := (RX.out.next HB8.out).frozen 0; have fs1 := (RX.out.next HB8.out).frozen 1; have fs2 := (RX.out.next HB8.out).frozen 2)))
          have HX7 := Lib.hid (show bX < w9.heap.size from RX.out.lt)
          go_upto_region 16 with (fail)
          clear t0' t1' t2' s0 s1 s2 ls fs0 fs1 fs2 u0 u1 u2 u3 u4
          clear t0 t1 t2 lt
          clear z0 z1 z2 z3 z4 lz
          replace RB := Lib.hid (RB.out.next HB8.out)
          replace BW := Lib.hid (BW.out.next HB8.out)
          replace HUp := Lib.hid (HUp.out.next HB8.out)
          replace HVM := Lib.hid (HVM.out.next HB8.out)
          replace RX := Lib.hid (RX.out.next HB8.out)
          replace BB := Lib.hid (Below.andThen BB.out HB8.out)
          refine wp_named fun wj hq => ?_
          replace RB := Lib.hid (show Row wj bB _ _ from by rw [hq]; exact ((RB.out.other nBX 0 _).other nBX 1 _).other nBX 2 _)
          replace BW := Lib.hid (show BkW wj o N c l from by rw [hq]; exact ((BW.out.apart BWo.out hX8 _).apart BWo.out hX8 _).apart BWo.out hX8 _)
          replace BW8 := Lib.hid (show BkW wj o8 N8 c8 _ from by rw [hq]; exact ((BW8.out.set (b := bX) (i := 0) HF8.out HX7.out _).set (b := bX) (i := 1) HF8.out HX7.out _).set (b := bX) (i := 2) HF8.out HX7.out _)
          replace BB := Lib.hid (show Below w.heap.size w wj from by rw [hq]; exact ((BB.out.setCell (p := ⟨bX, 0, none⟩) hbX _).setCell (p := ⟨bX, 1, none⟩) hbX _).setCell (p := ⟨bX, 2, none⟩) hbX _)
          replace HUp := Lib.hid (show Up w4.heap.size wj from by rw [hq]; simpa [Up] using HUp.out)
          replace HVM := Lib.hid (show Fv wj (some ⟨bl, off, none⟩) nm Mo from by rw [hq]; exact fv_far3 HVM.out (by omega) _ _ _)
          replace RX := Lib.hid (show Row wj bX 24 [.int .i64 (boV y).acc, .slice o8 N8 c8, .int .i64 (boV y).cl] from by rw [hq]; exact ((RX.out.set 0 _).set 1 _).set 2 _)
          clear hq
          cases y with
          | none =>
            have hN80 : N8 = 0 := BW8.out.1.symm
            rw [show erI none = 310 from rfl]
            rw [show (boV none).acc = 0 from rfl, show (boV none).cl = 0 from rfl] at RX
            have CS := Lib.hid (fun W (h : BkW W o8 N8 c8 (boV none).l) => (show Calls Try.prog 13 #[bookV 0 o8 N8 c8 0, bookV 0 none 0 0 0] W fun e w' => e = .returned (.bool true) ∧ Below W.heap.size W w' from by
              have q := rSame_any 0 0 o8 N8 c8 0 0 none 0 0 (boV none).l [] W (by omega) h (bkw_zero W)
              rw [decide_eq_true (show SameP 0 0 (boV none).l 0 0 [] from ⟨rfl, rfl, rfl⟩)] at q
              exact q))
            subst hN80
            have s0 := RX.out.cell 0
            have s1 := RX.out.cell 1
            have s2 := RX.out.cell 2
            have ls := RX.out.lt
            simp only [List.getElem?_cons_zero, List.getElem?_cons_succ] at s0 s1 s2
            have t0 := RB.out.cell 0
            have t1 := RB.out.cell 1
            have t2 := RB.out.cell 2
            have lt := RB.out.lt
            simp only [List.getElem?_cons_zero, List.getElem?_cons_succ] at t0 t1 t2
            go_wp2_with fail
            with_reducible refine Calls.mono (CS.out _ BW8.out) ?_
            rintro e wn ⟨rfl, hb⟩
            replace RB := Lib.hid (RB.out.next hb)
            replace BW := Lib.hid (BW.out.next hb)
            replace HUp := Lib.hid (HUp.out.next hb)
            replace HVM := Lib.hid (HVM.out.next hb)
            replace BB := Lib.hid (Below.andThen BB.out hb)
            clear hb
            go_wp2_with fail
            go_roundw
            case rel => exact ⟨k + 1, ⟨A, l, cl⟩, o, N, c, by go_num, by omega, RB.out, BW.out, HVd.out, by have := HLn.out; show l.length ≤ _; omega, HCl.out, BB.out, HUp.out, HVM.out⟩
            case measure => first | (simp [intOf]; done) | (simp [intOf]; omega)
          | some B =>
            have HK := Lib.hid (kp_disp HY.out)
            obtain ⟨acc', l', cl'⟩ := B
            have e1 : acc' = A := HK.out.1.hacc
            subst e1
            rw [show erI (some (⟨A, l', cl'⟩ : Bo)) = 0 from rfl]
            try rw [show nI (some (⟨A, l', cl'⟩ : Bo)) N = (N : Int) from rfl]
            rw [show (boV (some (⟨A, l', cl'⟩ : Bo))).acc = A from rfl, show (boV (some (⟨A, l', cl'⟩ : Bo))).cl = cl' from rfl] at RX
            have BN := Lib.hid (show BkW wj o8 N8 c8 l' from BW8.out)
            have HVd2 := Lib.hid (show Vd A l' cl' from HK.out.1.hvd)
            have hcc : cl ≤ cl' := HK.out.1.hcl
            have hcl2 : cl' ≤ 12 := HVd2.out.1.2.2.2.1
            have hlen2 : l'.length = N8 := BN.out.1
            have hkl := HK.out.2
            dsimp only at hkl
            rw [hlen2, HL.out] at hkl
            have HL2 := Lib.hid hlen2
            have hln64 : l'.length ≤ 48 + 2 * (k + 1) := by have h1 := HLn.out; have h2 := HL.out; omega
            clear hlen2
            obtain ⟨ad, had⟩ : ∃ ad : Int, (N8 : Int) - N = ad := ⟨_, rfl⟩
            have hb1 : (N : Int) + ad = N8 := by omega
            have hb2 : ¬ ad < 0 := by omega
            have hb3 : ¬ 2 < ad := by omega
            have HFo := Lib.hid HF8.out
            have hnone := BN.out.2.2.2.1
            have hle := BN.out.2.1
            cases o8 with
            | none =>
              have hz := hnone rfl
              omega
            | some aq =>
              clear hnone hle
              as_aux_lemma =>
                have CVN := Lib.hid (fun W (h : BkW W (some aq) N8 c8 l') => (show Calls Try.prog 11 #[bookV A (some aq) N8 c8 cl'] W fun e w' => e = .returned (.bool true) ∧ Below W.heap.size W w' from by
                  have q := Valid_u A cl' (some aq) N8 c8 l' W h
                  rw [vd_iff.2 HVd2.out] at q
                  exact q))
                have hcap : N ≤ c8 := by have := BN.out.2.1; omega
                have hc64 := BN.out.2.2.1
                have CSP := Lib.hid (fun W (h : BkW W (some aq) N8 c8 l') (h0 : BkW W o N c l) => (show Calls Try.prog 26 #[.slice (some aq) N c8, .slice o N c] W fun e w' => e = .returned (.bool true) ∧ Below W.heap.size W w' from by
                  have q := rSameP_any (some aq) N c8 o N c l l W HL.out HL.out (by omega) hcap h0.2.1 (sl_take h HK.out.1.hpre) h0.2.2.2.2
                  rw [decide_eq_true rfl] at q
                  exact q))
                have s0 := RX.out.cell 0
                have s1 := RX.out.cell 1
                have s2 := RX.out.cell 2
                have ls := RX.out.lt
                simp only [List.getElem?_cons_zero, List.getElem?_cons_succ] at s0 s1 s2
                have t0 := RB.out.cell 0
                have t1 := RB.out.cell 1
                have t2 := RB.out.cell 2
                have lt := RB.out.lt
                simp only [List.getElem?_cons_zero, List.getElem?_cons_succ] at t0 t1 t2
                have hnlt : ¬ cl' < cl := by omega
                have hkN1 : (0 : Int) ≤ N := by omega
                have hkN2 : (N : Int) ≤ c8 := by omega
                go_upto_region 25 with (fail)
                refine wp_region_kin (by kernel_rfl) (by kernel_rfl) wj.heap.size 0 (by simp) (fun hk => ?_)
                repeat (go_big_quiet_step ((first | (go_at_call 11; with_reducible exact Calls.kin (CVN.out _ (BN.out.next (Kin.below _)))) | (go_at_call 26; with_reducible exact Calls.kin (CSP.out _ (BN.out.next (Kin.below _)) (BW.out.next (Kin.below _)))))))
                refine wpQuiet_nil ?_
                clear hk
                intro w11 hb
                replace RB := Lib.hid (RB.out.next hb)
                replace RX := Lib.hid (RX.out.next hb)
                replace BW := Lib.hid (BW.out.next hb)
                replace BN := Lib.hid (BN.out.next hb)
                replace HUp := Lib.hid (HUp.out.next hb)
                replace HVM := Lib.hid (HVM.out.next hb)
                replace BB := Lib.hid (Below.andThen BB.out hb)
                clear hb
                clear s0 s1 s2 ls
                clear t0 t1 t2 lt
                obtain ⟨C, hC⟩ : ∃ C : Nat, cl = C := ⟨cl.toNat, by omega⟩
                have hC12 : C ≤ 12 := by omega
                obtain ⟨fx, hfx⟩ : ∃ f : Nat → Nat → Int, f = fun (m t : Nat) => Bk.sT l (m : Int) t := ⟨_, rfl⟩
                have CS1 := Lib.hid (fun (m : Nat) (hm : m < C) W (h : BkW W o N c l) => (show Calls Try.prog 19 #[bookV A o N c cl, .int .i64 m] W fun e w' => (∃ o' c', e = .returned (.tuple #[.slice o' A c', .int .i64 0]) ∧ InW w' W.heap.size o' A c' ((List.range A).map (fx m))) ∧ Below W.heap.size W w' from by rw [hfx]; exact stmt_at m (by omega) HVd.out h))
                have CS2 := Lib.hid (fun (m : Nat) (hm : m < C) W (h : BkW W (some aq) N8 c8 l') => (show Calls Try.prog 19 #[bookV A (some aq) N8 c8 cl', .int .i64 m] W fun e w' => (∃ o' c', e = .returned (.tuple #[.slice o' A c', .int .i64 0]) ∧ InW w' W.heap.size o' A c' ((List.range A).map (fx m))) ∧ Below W.heap.size W w' from by
                  have q := stmt_at m (by omega) HVd2.out h
                  rw [range_ext (f := Bk.sT l' m) (g := fx m) (fun t _ => by rw [hfx]; exact HK.out.1.hsame m t (by show (m : Int) < cl; omega))] at q
                  exact q))
                clear hfx
                have HCC := Lib.hid hC
                clear hC
                have t0 := RB.out.cell 0
                have t1 := RB.out.cell 1
                have t2 := RB.out.cell 2
                have lt := RB.out.lt
                simp only [List.getElem?_cons_zero, List.getElem?_cons_succ] at t0 t1 t2
                go_wp2_with fail
                obtain ⟨wl, hwl⟩ : ∃ W, W = w11 := ⟨_, rfl⟩
                subst hwl
                go_loopw [17] (fun mv wz => ∃ m : Nat, mv = .int .i64 m ∧ m ≤ C ∧ Below wl.heap.size wl wz) (fun mv _ => C - (intOf mv).toNat)
                case atStart => exact ⟨0, rfl, Nat.zero_le _, Below.refl _ _⟩
                case round =>
                  obtain ⟨m, rfl, hm, hx⟩ := hrel
                  rename World => wz
                  clear t0 t1 t2 lt
                  replace RB := Lib.hid (RB.out.next hx)
                  replace RX := Lib.hid (RX.out.next hx)
                  replace BW := Lib.hid (BW.out.next hx)
                  replace BN := Lib.hid (BN.out.next hx)
                  replace HUp := Lib.hid (HUp.out.next hx)
                  replace HVM := Lib.hid (HVM.out.next hx)
                  replace BB := Lib.hid (Below.andThen BB.out hx)
                  have BL := Lib.hid hx
                  clear hx
                  have t0 := RB.out.cell 0
                  have t1 := RB.out.cell 1
                  have t2 := RB.out.cell 2
                  have lt := RB.out.lt
                  simp only [List.getElem?_cons_zero, List.getElem?_cons_succ] at t0 t1 t2
                  by_cases hlt : m < C
                  · have i1 : (m : Int) < cl := by rw [HCC.out]; omega
                    go_wp2_with fail
                    with_reducible refine Calls.mono (CS1.out m hlt _ BW.out) ?_
                    rintro e wa ⟨⟨os, cs, rfl, hs⟩, hb⟩
                    obtain ⟨B1, hB1⟩ : ∃ b, b = wz.heap.size := ⟨_, rfl⟩
                    rw [← hB1] at hs
                    have S1 := Lib.hid hs
                    replace RB := Lib.hid (RB.out.next hb)
                    replace RX := Lib.hid (RX.out.next hb)
                    replace BW := Lib.hid (BW.out.next hb)
                    replace BN := Lib.hid (BN.out.next hb)
                    replace BB := Lib.hid (Below.andThen BB.out hb)
                    replace BL := Lib.hid (Below.andThen BL.out hb)
                    clear hs hb
                    clear t0 t1 t2 lt
                    have s0 := RX.out.cell 0
                    have s1 := RX.out.cell 1
                    have s2 := RX.out.cell 2
                    have ls := RX.out.lt
                    simp only [List.getElem?_cons_zero, List.getElem?_cons_succ] at s0 s1 s2
                    go_wp2_with fail
                    with_reducible refine Calls.mono (CS2.out m hlt _ BN.out) ?_
                    rintro e wb ⟨⟨os2, cs2, rfl, hs⟩, hb⟩
                    obtain ⟨B2, hB2⟩ : ∃ b, b = wa.heap.size := ⟨_, rfl⟩
                    rw [← hB2] at hs
                    have S2 := Lib.hid hs
                    replace RB := Lib.hid (RB.out.next hb)
                    replace RX := Lib.hid (RX.out.next hb)
                    replace BW := Lib.hid (BW.out.next hb)
                    replace BN := Lib.hid (BN.out.next hb)
                    replace S1 := Lib.hid (S1.out.next hb)
                    replace BB := Lib.hid (Below.andThen BB.out hb)
                    replace BL := Lib.hid (Below.andThen BL.out hb)
                    clear hs hb
                    clear s0 s1 s2 ls
                    have CI := Lib.hid (show Calls Try.prog 23 _ wb fun e w' => e = .returned (.bool true) ∧ Below wb.heap.size wb w' from by
                      have q := rInts_any _ A cs os2 A cs2 _ _ wb S1.out.1 S2.out.1 (by omega) S1.out.cap S2.out.cap S1.out.2.sl S2.out.2.sl
                      rw [decide_eq_true rfl] at q
                      exact q)
                    go_wp2_with fail
                    with_reducible refine Calls.mono CI.out ?_
                    rintro e wi ⟨rfl, hb⟩
                    replace BB := Lib.hid (Below.andThen BB.out hb)
                    replace BL := Lib.hid (Below.andThen BL.out hb)
                    clear hb
                    go_wp2_with fail
                    go_roundw
                    case rel => exact ⟨m + 1, by go_num, by omega, BL.out⟩
                    case measure => first | (simp [intOf]; done) | (simp [intOf]; omega)
                  · obtain rfl : m = C := by omega
                    have i1 : ¬ (m : Int) < cl := by rw [HCC.out]; omega
                    clear t0 t1 t2 lt
                    have s0 := RX.out.cell 0
                    have s1 := RX.out.cell 1
                    have s2 := RX.out.cell 2
                    have ls := RX.out.lt
                    simp only [List.getElem?_cons_zero, List.getElem?_cons_succ] at s0 s1 s2
                    have t0 := RB.out.cell 0
                    have t1 := RB.out.cell 1
                    have t2 := RB.out.cell 2
                    have lt := RB.out.lt
                    simp only [List.getElem?_cons_zero, List.getElem?_cons_succ] at t0 t1 t2
                    have ft0 := RB.out.frozen 0
                    have ft1 := RB.out.frozen 1
                    have ft2 := RB.out.frozen 2
                    have HClN := Lib.hid (show Cl bB (some aq) N8 c8 l' from cl_fr HFo.out hb9)
                    go_wp2_with fail
                    go_roundw
                    case rel => exact ⟨k + 1, ⟨A, l', cl'⟩, (some aq), N8, c8, by go_num, by omega, ((RB.out.set 0 _).set 1 _).set 2 _, HClN.out _ _ _ (HClN.out _ _ _ (HClN.out _ _ _ BN.out)), HVd2.out, by have := HL2.out; show l'.length ≤ _; omega, HClN.out, ((BB.out.setCell (p := ⟨bB, 0, none⟩) hbB _).setCell (p := ⟨bB, 1, none⟩) hbB _).setCell (p := ⟨bB, 2, none⟩) hbB _, by simpa [Up] using HUp.out, fv_far3 HVM.out nBl _ _ _⟩
                    case measure => first | (simp [intOf]; done) | (simp [intOf]; omega)
      · by_cases e5 : v0 = 3
        · subst e5
          go_upto_region 19 with (go_at_call 14; with_reducible refine Calls.mono (P0.out _) ?_; rintro e w' ⟨rfl, rfl⟩)
          clear BW9 HF5 P0
          as_aux_lemma =>
            obtain ⟨y, hy⟩ : ∃ y, closeB A l cl v7 = y := ⟨_, rfl⟩
            have CC := Lib.hid (fun W (h : BkW W o N c l) => Close_u A cl v7 o N c l W (by omega) h)
            rw [hy] at CC
            have HY := Lib.hid hy
            clear hy
            have hb9 : bB < w9.heap.size := by omega
            have t0 := RB.out.cell 0
            have t1 := RB.out.cell 1
            have t2 := RB.out.cell 2
            have lt := RB.out.lt
            simp only [List.getElem?_cons_zero, List.getElem?_cons_succ] at t0 t1 t2
            (go_region_held3 (fun w' => w'.cell? ⟨bB, 0, none⟩ = some (.int .i64 A) ∧ w'.cell? ⟨bB, 1, none⟩ = some (.slice o N c) ∧ w'.cell? ⟨bB, 2, none⟩ = some (.int .i64 cl) ∧ w'.cell? ⟨bx, 1, none⟩ = some (.int .i64 x1)) (first | exact ⟨by assumption, by assumption, by assumption, by assumption⟩ | exact ⟨far3 nXB (by assumption), far3 nXB (by assumption), far3 nXB (by assumption), far3 nXV (by assumption)⟩ | go_keep) (first
              | (go_at_call 14; first | (with_reducible refine Calls.mono (P7.out _) ?_; rintro e w' ⟨rfl, rfl⟩))
              | (go_at_call 17; refine Calls.mono (CC.out _ (BW.out.next (by repeat (first | exact Below.refl _ _ | refine Below.drew ?_)))) ?_; rintro e wk ⟨⟨o8, N8, c8, rfl, hw, hf⟩, hb⟩; have HB8 := Lib.hid (show Below w9.heap.size w9 wk from Below.andThen (by repeat (first | exact Below.refl _ _ | refine Below.drew ?_)) hb); have BW8 := Lib.hid hw; have HF8 := Lib.hid (show Fr w9.heap.size o8 from hf); clear hb hw hf; have t0' := (RB.out.next HB8.out).cell 0; have t1' := (RB.out.next HB8.out).cell 1; have t2' := (RB.out.next HB8.out).cell 2; have s0 := (RX.out.next HB8.out).cell 0; have s1 := (RX.out.next HB8.out).cell 1; have s2 := (RX.out.next HB8.out).cell 2; have u0 := (RV.out.next HB8.out).cell 0; have u1 := (RV.out.next HB8.out).cell 1; have u2 := (RV.out.next HB8.out).cell 2; have u3 := (RV.out.next HB8.out).cell 3; have u4 := (RV.out.next HB8.out).cell 4; simp only [List.getElem?_cons_zero, List.getElem?_cons_succ] at t0' t1' t2' s0 s1 s2 u0 u1 u2 u3 u4; have ls := (RX.out.next HB8.out).lt; have fs0 := (RX.out.next HB8.out).frozen 0; have fs1 := (RX.out.next HB8.out).frozen 1; have fs2 := (RX.out.next HB8.out).frozen 2)))
            have HX7 := Lib.hid (show bX < w9.heap.size from RX.out.lt)
            go_upto_region 20 with (fail)
            clear t0' t1' t2' s0 s1 s2 ls fs0 fs1 fs2 u0 u1 u2 u3 u4
            clear t0 t1 t2 lt
            clear z0 z1 z2 z3 z4 lz
            replace RB := Lib.hid (RB.out.next HB8.out)
            replace BW := Lib.hid (BW.out.next HB8.out)
            replace HUp := Lib.hid (HUp.out.next HB8.out)
            replace HVM := Lib.hid (HVM.out.next HB8.out)
            replace RX := Lib.hid (RX.out.next HB8.out)
            replace BB := Lib.hid (Below.andThen BB.out HB8.out)
            refine wp_named fun wj hq => ?_
            replace RB := Lib.hid (show Row wj bB _ _ from by rw [hq]; exact ((RB.out.other nBX 0 _).other nBX 1 _).other nBX 2 _)
            replace BW := Lib.hid (show BkW wj o N c l from by rw [hq]; exact ((BW.out.apart BWo.out hX8 _).apart BWo.out hX8 _).apart BWo.out hX8 _)
            replace BW8 := Lib.hid (show BkW wj o8 N8 c8 _ from by rw [hq]; exact ((BW8.out.set (b := bX) (i := 0) HF8.out HX7.out _).set (b := bX) (i := 1) HF8.out HX7.out _).set (b := bX) (i := 2) HF8.out HX7.out _)
            replace BB := Lib.hid (show Below w.heap.size w wj from by rw [hq]; exact ((BB.out.setCell (p := ⟨bX, 0, none⟩) hbX _).setCell (p := ⟨bX, 1, none⟩) hbX _).setCell (p := ⟨bX, 2, none⟩) hbX _)
            replace HUp := Lib.hid (show Up w4.heap.size wj from by rw [hq]; simpa [Up] using HUp.out)
            replace HVM := Lib.hid (show Fv wj (some ⟨bl, off, none⟩) nm Mo from by rw [hq]; exact fv_far3 HVM.out (by omega) _ _ _)
            replace RX := Lib.hid (show Row wj bX 24 [.int .i64 (boV y).acc, .slice o8 N8 c8, .int .i64 (boV y).cl] from by rw [hq]; exact ((RX.out.set 0 _).set 1 _).set 2 _)
            clear hq
            cases y with
            | none =>
              have hN80 : N8 = 0 := BW8.out.1.symm
              rw [show erI none = 310 from rfl]
              rw [show (boV none).acc = 0 from rfl, show (boV none).cl = 0 from rfl] at RX
              have CS := Lib.hid (fun W (h : BkW W o8 N8 c8 (boV none).l) => (show Calls Try.prog 13 #[bookV 0 o8 N8 c8 0, bookV 0 none 0 0 0] W fun e w' => e = .returned (.bool true) ∧ Below W.heap.size W w' from by
                have q := rSame_any 0 0 o8 N8 c8 0 0 none 0 0 (boV none).l [] W (by omega) h (bkw_zero W)
                rw [decide_eq_true (show SameP 0 0 (boV none).l 0 0 [] from ⟨rfl, rfl, rfl⟩)] at q
                exact q))
              subst hN80
              have s0 := RX.out.cell 0
              have s1 := RX.out.cell 1
              have s2 := RX.out.cell 2
              have ls := RX.out.lt
              simp only [List.getElem?_cons_zero, List.getElem?_cons_succ] at s0 s1 s2
              have t0 := RB.out.cell 0
              have t1 := RB.out.cell 1
              have t2 := RB.out.cell 2
              have lt := RB.out.lt
              simp only [List.getElem?_cons_zero, List.getElem?_cons_succ] at t0 t1 t2
              go_wp2_with fail
              with_reducible refine Calls.mono (CS.out _ BW8.out) ?_
              rintro e wn ⟨rfl, hb⟩
              replace RB := Lib.hid (RB.out.next hb)
              replace BW := Lib.hid (BW.out.next hb)
              replace HUp := Lib.hid (HUp.out.next hb)
              replace HVM := Lib.hid (HVM.out.next hb)
              replace BB := Lib.hid (Below.andThen BB.out hb)
              clear hb
              go_wp2_with fail
              go_roundw
              case rel => exact ⟨k + 1, ⟨A, l, cl⟩, o, N, c, by go_num, by omega, RB.out, BW.out, HVd.out, by have := HLn.out; show l.length ≤ _; omega, HCl.out, BB.out, HUp.out, HVM.out⟩
              case measure => first | (simp [intOf]; done) | (simp [intOf]; omega)
            | some B =>
              have HK := Lib.hid (kp_close HY.out)
              obtain ⟨acc', l', cl'⟩ := B
              have e1 : acc' = A := HK.out.1.hacc
              subst e1
              rw [show erI (some (⟨A, l', cl'⟩ : Bo)) = 0 from rfl]
              try rw [show nI (some (⟨A, l', cl'⟩ : Bo)) N = (N : Int) from rfl]
              rw [show (boV (some (⟨A, l', cl'⟩ : Bo))).acc = A from rfl, show (boV (some (⟨A, l', cl'⟩ : Bo))).cl = cl' from rfl] at RX
              have BN := Lib.hid (show BkW wj o8 N8 c8 l' from BW8.out)
              have HVd2 := Lib.hid (show Vd A l' cl' from HK.out.1.hvd)
              have hcc : cl ≤ cl' := HK.out.1.hcl
              have hcl2 : cl' ≤ 12 := HVd2.out.1.2.2.2.1
              have hlen2 : l'.length = N8 := BN.out.1
              have hkl := HK.out.2
              dsimp only at hkl
              rw [hlen2, HL.out] at hkl
              have HL2 := Lib.hid hlen2
              have hln64 : l'.length ≤ 48 + 2 * (k + 1) := by have h1 := HLn.out; have h2 := HL.out; omega
              clear hlen2
              obtain rfl : N = N8 := by omega
              have HFo := Lib.hid HF8.out
              have hnone := BN.out.2.2.2.1
              have hle := BN.out.2.1
              cases o8 with
              | none =>
                have hz := hnone rfl
                clear hnone hz hle
                as_aux_lemma =>
                  have CVN := Lib.hid (fun W (h : BkW W none N c8 l') => (show Calls Try.prog 11 #[bookV A none N c8 cl'] W fun e w' => e = .returned (.bool true) ∧ Below W.heap.size W w' from by
                    have q := Valid_u A cl' none N c8 l' W h
                    rw [vd_iff.2 HVd2.out] at q
                    exact q))
                  have hcap : N ≤ c8 := by have := BN.out.2.1; omega
                  have hc64 := BN.out.2.2.1
                  have CSP := Lib.hid (fun W (h : BkW W none N c8 l') (h0 : BkW W o N c l) => (show Calls Try.prog 26 #[.slice none N c8, .slice o N c] W fun e w' => e = .returned (.bool true) ∧ Below W.heap.size W w' from by
                    have q := rSameP_any none N c8 o N c l l W HL.out HL.out (by omega) hcap h0.2.1 (sl_take h HK.out.1.hpre) h0.2.2.2.2
                    rw [decide_eq_true rfl] at q
                    exact q))
                  have s0 := RX.out.cell 0
                  have s1 := RX.out.cell 1
                  have s2 := RX.out.cell 2
                  have ls := RX.out.lt
                  simp only [List.getElem?_cons_zero, List.getElem?_cons_succ] at s0 s1 s2
                  have t0 := RB.out.cell 0
                  have t1 := RB.out.cell 1
                  have t2 := RB.out.cell 2
                  have lt := RB.out.lt
                  simp only [List.getElem?_cons_zero, List.getElem?_cons_succ] at t0 t1 t2
                  have hnlt : ¬ cl' < cl := by omega
                  have hkN1 : (0 : Int) ≤ N := by omega
                  have hkN2 : (N : Int) ≤ c8 := by omega
                  go_upto_region 25 with (fail)
                  refine wp_region_kin (by kernel_rfl) (by kernel_rfl) wj.heap.size 0 (by simp) (fun hk => ?_)
                  repeat (go_big_quiet_step ((first | (go_at_call 11; with_reducible exact Calls.kin (CVN.out _ (BN.out.next (Kin.below _)))) | (go_at_call 26; with_reducible exact Calls.kin (CSP.out _ (BN.out.next (Kin.below _)) (BW.out.next (Kin.below _)))))))
                  refine wpQuiet_nil ?_
                  clear hk
                  intro w11 hb
                  replace RB := Lib.hid (RB.out.next hb)
                  replace RX := Lib.hid (RX.out.next hb)
                  replace BW := Lib.hid (BW.out.next hb)
                  replace BN := Lib.hid (BN.out.next hb)
                  replace HUp := Lib.hid (HUp.out.next hb)
                  replace HVM := Lib.hid (HVM.out.next hb)
                  replace BB := Lib.hid (Below.andThen BB.out hb)
                  clear hb
                  clear s0 s1 s2 ls
                  clear t0 t1 t2 lt
                  obtain ⟨C, hC⟩ : ∃ C : Nat, cl = C := ⟨cl.toNat, by omega⟩
                  have hC12 : C ≤ 12 := by omega
                  obtain ⟨fx, hfx⟩ : ∃ f : Nat → Nat → Int, f = fun (m t : Nat) => Bk.sT l (m : Int) t := ⟨_, rfl⟩
                  have CS1 := Lib.hid (fun (m : Nat) (hm : m < C) W (h : BkW W o N c l) => (show Calls Try.prog 19 #[bookV A o N c cl, .int .i64 m] W fun e w' => (∃ o' c', e = .returned (.tuple #[.slice o' A c', .int .i64 0]) ∧ InW w' W.heap.size o' A c' ((List.range A).map (fx m))) ∧ Below W.heap.size W w' from by rw [hfx]; exact stmt_at m (by omega) HVd.out h))
                  have CS2 := Lib.hid (fun (m : Nat) (hm : m < C) W (h : BkW W none N c8 l') => (show Calls Try.prog 19 #[bookV A none N c8 cl', .int .i64 m] W fun e w' => (∃ o' c', e = .returned (.tuple #[.slice o' A c', .int .i64 0]) ∧ InW w' W.heap.size o' A c' ((List.range A).map (fx m))) ∧ Below W.heap.size W w' from by
                    have q := stmt_at m (by omega) HVd2.out h
                    rw [range_ext (f := Bk.sT l' m) (g := fx m) (fun t _ => by rw [hfx]; exact HK.out.1.hsame m t (by show (m : Int) < cl; omega))] at q
                    exact q))
                  clear hfx
                  have HCC := Lib.hid hC
                  clear hC
                  have t0 := RB.out.cell 0
                  have t1 := RB.out.cell 1
                  have t2 := RB.out.cell 2
                  have lt := RB.out.lt
                  simp only [List.getElem?_cons_zero, List.getElem?_cons_succ] at t0 t1 t2
                  go_wp2_with fail
                  obtain ⟨wl, hwl⟩ : ∃ W, W = w11 := ⟨_, rfl⟩
                  subst hwl
                  go_loopw [17] (fun mv wz => ∃ m : Nat, mv = .int .i64 m ∧ m ≤ C ∧ Below wl.heap.size wl wz) (fun mv _ => C - (intOf mv).toNat)
                  case atStart => exact ⟨0, rfl, Nat.zero_le _, Below.refl _ _⟩
                  case round =>
                    obtain ⟨m, rfl, hm, hx⟩ := hrel
                    rename World => wz
                    clear t0 t1 t2 lt
                    replace RB := Lib.hid (RB.out.next hx)
                    replace RX := Lib.hid (RX.out.next hx)
                    replace BW := Lib.hid (BW.out.next hx)
                    replace BN := Lib.hid (BN.out.next hx)
                    replace HUp := Lib.hid (HUp.out.next hx)
                    replace HVM := Lib.hid (HVM.out.next hx)
                    replace BB := Lib.hid (Below.andThen BB.out hx)
                    have BL := Lib.hid hx
                    clear hx
                    have t0 := RB.out.cell 0
                    have t1 := RB.out.cell 1
                    have t2 := RB.out.cell 2
                    have lt := RB.out.lt
                    simp only [List.getElem?_cons_zero, List.getElem?_cons_succ] at t0 t1 t2
                    by_cases hlt : m < C
                    · have i1 : (m : Int) < cl := by rw [HCC.out]; omega
                      go_wp2_with fail
                      with_reducible refine Calls.mono (CS1.out m hlt _ BW.out) ?_
                      rintro e wa ⟨⟨os, cs, rfl, hs⟩, hb⟩
                      obtain ⟨B1, hB1⟩ : ∃ b, b = wz.heap.size := ⟨_, rfl⟩
                      rw [← hB1] at hs
                      have S1 := Lib.hid hs
                      replace RB := Lib.hid (RB.out.next hb)
                      replace RX := Lib.hid (RX.out.next hb)
                      replace BW := Lib.hid (BW.out.next hb)
                      replace BN := Lib.hid (BN.out.next hb)
                      replace BB := Lib.hid (Below.andThen BB.out hb)
                      replace BL := Lib.hid (Below.andThen BL.out hb)
                      clear hs hb
                      clear t0 t1 t2 lt
                      have s0 := RX.out.cell 0
                      have s1 := RX.out.cell 1
                      have s2 := RX.out.cell 2
                      have ls := RX.out.lt
                      simp only [List.getElem?_cons_zero, List.getElem?_cons_succ] at s0 s1 s2
                      go_wp2_with fail
                      with_reducible refine Calls.mono (CS2.out m hlt _ BN.out) ?_
                      rintro e wb ⟨⟨os2, cs2, rfl, hs⟩, hb⟩
                      obtain ⟨B2, hB2⟩ : ∃ b, b = wa.heap.size := ⟨_, rfl⟩
                      rw [← hB2] at hs
                      have S2 := Lib.hid hs
                      replace RB := Lib.hid (RB.out.next hb)
                      replace RX := Lib.hid (RX.out.next hb)
                      replace BW := Lib.hid (BW.out.next hb)
                      replace BN := Lib.hid (BN.out.next hb)
                      replace S1 := Lib.hid (S1.out.next hb)
                      replace BB := Lib.hid (Below.andThen BB.out hb)
                      replace BL := Lib.hid (Below.andThen BL.out hb)
                      clear hs hb
                      clear s0 s1 s2 ls
                      have CI := Lib.hid (show Calls Try.prog 23 _ wb fun e w' => e = .returned (.bool true) ∧ Below wb.heap.size wb w' from by
                        have q := rInts_any _ A cs os2 A cs2 _ _ wb S1.out.1 S2.out.1 (by omega) S1.out.cap S2.out.cap S1.out.2.sl S2.out.2.sl
                        rw [decide_eq_true rfl] at q
                        exact q)
                      go_wp2_with fail
                      with_reducible refine Calls.mono CI.out ?_
                      rintro e wi ⟨rfl, hb⟩
                      replace BB := Lib.hid (Below.andThen BB.out hb)
                      replace BL := Lib.hid (Below.andThen BL.out hb)
                      clear hb
                      go_wp2_with fail
                      go_roundw
                      case rel => exact ⟨m + 1, by go_num, by omega, BL.out⟩
                      case measure => first | (simp [intOf]; done) | (simp [intOf]; omega)
                    · obtain rfl : m = C := by omega
                      have i1 : ¬ (m : Int) < cl := by rw [HCC.out]; omega
                      clear t0 t1 t2 lt
                      have s0 := RX.out.cell 0
                      have s1 := RX.out.cell 1
                      have s2 := RX.out.cell 2
                      have ls := RX.out.lt
                      simp only [List.getElem?_cons_zero, List.getElem?_cons_succ] at s0 s1 s2
                      have t0 := RB.out.cell 0
                      have t1 := RB.out.cell 1
                      have t2 := RB.out.cell 2
                      have lt := RB.out.lt
                      simp only [List.getElem?_cons_zero, List.getElem?_cons_succ] at t0 t1 t2
                      have ft0 := RB.out.frozen 0
                      have ft1 := RB.out.frozen 1
                      have ft2 := RB.out.frozen 2
                      have HClN := Lib.hid (show Cl bB none N c8 l' from cl_fr HFo.out hb9)
                      go_wp2_with fail
                      go_roundw
                      case rel => exact ⟨k + 1, ⟨A, l', cl'⟩, none, N, c8, by go_num, by omega, ((RB.out.set 0 _).set 1 _).set 2 _, HClN.out _ _ _ (HClN.out _ _ _ (HClN.out _ _ _ BN.out)), HVd2.out, by have := HL2.out; show l'.length ≤ _; omega, HClN.out, ((BB.out.setCell (p := ⟨bB, 0, none⟩) hbB _).setCell (p := ⟨bB, 1, none⟩) hbB _).setCell (p := ⟨bB, 2, none⟩) hbB _, by simpa [Up] using HUp.out, fv_far3 HVM.out nBl _ _ _⟩
                      case measure => first | (simp [intOf]; done) | (simp [intOf]; omega)
              | some aq =>
                clear hnone hle
                as_aux_lemma =>
                  have CVN := Lib.hid (fun W (h : BkW W (some aq) N c8 l') => (show Calls Try.prog 11 #[bookV A (some aq) N c8 cl'] W fun e w' => e = .returned (.bool true) ∧ Below W.heap.size W w' from by
                    have q := Valid_u A cl' (some aq) N c8 l' W h
                    rw [vd_iff.2 HVd2.out] at q
                    exact q))
                  have hcap : N ≤ c8 := by have := BN.out.2.1; omega
                  have hc64 := BN.out.2.2.1
                  have CSP := Lib.hid (fun W (h : BkW W (some aq) N c8 l') (h0 : BkW W o N c l) => (show Calls Try.prog 26 #[.slice (some aq) N c8, .slice o N c] W fun e w' => e = .returned (.bool true) ∧ Below W.heap.size W w' from by
                    have q := rSameP_any (some aq) N c8 o N c l l W HL.out HL.out (by omega) hcap h0.2.1 (sl_take h HK.out.1.hpre) h0.2.2.2.2
                    rw [decide_eq_true rfl] at q
                    exact q))
                  have s0 := RX.out.cell 0
                  have s1 := RX.out.cell 1
                  have s2 := RX.out.cell 2
                  have ls := RX.out.lt
                  simp only [List.getElem?_cons_zero, List.getElem?_cons_succ] at s0 s1 s2
                  have t0 := RB.out.cell 0
                  have t1 := RB.out.cell 1
                  have t2 := RB.out.cell 2
                  have lt := RB.out.lt
                  simp only [List.getElem?_cons_zero, List.getElem?_cons_succ] at t0 t1 t2
                  have hnlt : ¬ cl' < cl := by omega
                  have hkN1 : (0 : Int) ≤ N := by omega
                  have hkN2 : (N : Int) ≤ c8 := by omega
                  go_upto_region 25 with (fail)
                  refine wp_region_kin (by kernel_rfl) (by kernel_rfl) wj.heap.size 0 (by simp) (fun hk => ?_)
                  repeat (go_big_quiet_step ((first | (go_at_call 11; with_reducible exact Calls.kin (CVN.out _ (BN.out.next (Kin.below _)))) | (go_at_call 26; with_reducible exact Calls.kin (CSP.out _ (BN.out.next (Kin.below _)) (BW.out.next (Kin.below _)))))))
                  refine wpQuiet_nil ?_
                  clear hk
                  intro w11 hb
                  replace RB := Lib.hid (RB.out.next hb)
                  replace RX := Lib.hid (RX.out.next hb)
                  replace BW := Lib.hid (BW.out.next hb)
                  replace BN := Lib.hid (BN.out.next hb)
                  replace HUp := Lib.hid (HUp.out.next hb)
                  replace HVM := Lib.hid (HVM.out.next hb)
                  replace BB := Lib.hid (Below.andThen BB.out hb)
                  clear hb
                  clear s0 s1 s2 ls
                  clear t0 t1 t2 lt
                  obtain ⟨C, hC⟩ : ∃ C : Nat, cl = C := ⟨cl.toNat, by omega⟩
                  have hC12 : C ≤ 12 := by omega
                  obtain ⟨fx, hfx⟩ : ∃ f : Nat → Nat → Int, f = fun (m t : Nat) => Bk.sT l (m : Int) t := ⟨_, rfl⟩
                  have CS1 := Lib.hid (fun (m : Nat) (hm : m < C) W (h : BkW W o N c l) => (show Calls Try.prog 19 #[bookV A o N c cl, .int .i64 m] W fun e w' => (∃ o' c', e = .returned (.tuple #[.slice o' A c', .int .i64 0]) ∧ InW w' W.heap.size o' A c' ((List.range A).map (fx m))) ∧ Below W.heap.size W w' from by rw [hfx]; exact stmt_at m (by omega) HVd.out h))
                  have CS2 := Lib.hid (fun (m : Nat) (hm : m < C) W (h : BkW W (some aq) N c8 l') => (show Calls Try.prog 19 #[bookV A (some aq) N c8 cl', .int .i64 m] W fun e w' => (∃ o' c', e = .returned (.tuple #[.slice o' A c', .int .i64 0]) ∧ InW w' W.heap.size o' A c' ((List.range A).map (fx m))) ∧ Below W.heap.size W w' from by
                    have q := stmt_at m (by omega) HVd2.out h
                    rw [range_ext (f := Bk.sT l' m) (g := fx m) (fun t _ => by rw [hfx]; exact HK.out.1.hsame m t (by show (m : Int) < cl; omega))] at q
                    exact q))
                  clear hfx
                  have HCC := Lib.hid hC
                  clear hC
                  have t0 := RB.out.cell 0
                  have t1 := RB.out.cell 1
                  have t2 := RB.out.cell 2
                  have lt := RB.out.lt
                  simp only [List.getElem?_cons_zero, List.getElem?_cons_succ] at t0 t1 t2
                  go_wp2_with fail
                  obtain ⟨wl, hwl⟩ : ∃ W, W = w11 := ⟨_, rfl⟩
                  subst hwl
                  go_loopw [17] (fun mv wz => ∃ m : Nat, mv = .int .i64 m ∧ m ≤ C ∧ Below wl.heap.size wl wz) (fun mv _ => C - (intOf mv).toNat)
                  case atStart => exact ⟨0, rfl, Nat.zero_le _, Below.refl _ _⟩
                  case round =>
                    obtain ⟨m, rfl, hm, hx⟩ := hrel
                    rename World => wz
                    clear t0 t1 t2 lt
                    replace RB := Lib.hid (RB.out.next hx)
                    replace RX := Lib.hid (RX.out.next hx)
                    replace BW := Lib.hid (BW.out.next hx)
                    replace BN := Lib.hid (BN.out.next hx)
                    replace HUp := Lib.hid (HUp.out.next hx)
                    replace HVM := Lib.hid (HVM.out.next hx)
                    replace BB := Lib.hid (Below.andThen BB.out hx)
                    have BL := Lib.hid hx
                    clear hx
                    have t0 := RB.out.cell 0
                    have t1 := RB.out.cell 1
                    have t2 := RB.out.cell 2
                    have lt := RB.out.lt
                    simp only [List.getElem?_cons_zero, List.getElem?_cons_succ] at t0 t1 t2
                    by_cases hlt : m < C
                    · have i1 : (m : Int) < cl := by rw [HCC.out]; omega
                      go_wp2_with fail
                      with_reducible refine Calls.mono (CS1.out m hlt _ BW.out) ?_
                      rintro e wa ⟨⟨os, cs, rfl, hs⟩, hb⟩
                      obtain ⟨B1, hB1⟩ : ∃ b, b = wz.heap.size := ⟨_, rfl⟩
                      rw [← hB1] at hs
                      have S1 := Lib.hid hs
                      replace RB := Lib.hid (RB.out.next hb)
                      replace RX := Lib.hid (RX.out.next hb)
                      replace BW := Lib.hid (BW.out.next hb)
                      replace BN := Lib.hid (BN.out.next hb)
                      replace BB := Lib.hid (Below.andThen BB.out hb)
                      replace BL := Lib.hid (Below.andThen BL.out hb)
                      clear hs hb
                      clear t0 t1 t2 lt
                      have s0 := RX.out.cell 0
                      have s1 := RX.out.cell 1
                      have s2 := RX.out.cell 2
                      have ls := RX.out.lt
                      simp only [List.getElem?_cons_zero, List.getElem?_cons_succ] at s0 s1 s2
                      go_wp2_with fail
                      with_reducible refine Calls.mono (CS2.out m hlt _ BN.out) ?_
                      rintro e wb ⟨⟨os2, cs2, rfl, hs⟩, hb⟩
                      obtain ⟨B2, hB2⟩ : ∃ b, b = wa.heap.size := ⟨_, rfl⟩
                      rw [← hB2] at hs
                      have S2 := Lib.hid hs
                      replace RB := Lib.hid (RB.out.next hb)
                      replace RX := Lib.hid (RX.out.next hb)
                      replace BW := Lib.hid (BW.out.next hb)
                      replace BN := Lib.hid (BN.out.next hb)
                      replace S1 := Lib.hid (S1.out.next hb)
                      replace BB := Lib.hid (Below.andThen BB.out hb)
                      replace BL := Lib.hid (Below.andThen BL.out hb)
                      clear hs hb
                      clear s0 s1 s2 ls
                      have CI := Lib.hid (show Calls Try.prog 23 _ wb fun e w' => e = .returned (.bool true) ∧ Below wb.heap.size wb w' from by
                        have q := rInts_any _ A cs os2 A cs2 _ _ wb S1.out.1 S2.out.1 (by omega) S1.out.cap S2.out.cap S1.out.2.sl S2.out.2.sl
                        rw [decide_eq_true rfl] at q
                        exact q)
                      go_wp2_with fail
                      with_reducible refine Calls.mono CI.out ?_
                      rintro e wi ⟨rfl, hb⟩
                      replace BB := Lib.hid (Below.andThen BB.out hb)
                      replace BL := Lib.hid (Below.andThen BL.out hb)
                      clear hb
                      go_wp2_with fail
                      go_roundw
                      case rel => exact ⟨m + 1, by go_num, by omega, BL.out⟩
                      case measure => first | (simp [intOf]; done) | (simp [intOf]; omega)
                    · obtain rfl : m = C := by omega
                      have i1 : ¬ (m : Int) < cl := by rw [HCC.out]; omega
                      clear t0 t1 t2 lt
                      have s0 := RX.out.cell 0
                      have s1 := RX.out.cell 1
                      have s2 := RX.out.cell 2
                      have ls := RX.out.lt
                      simp only [List.getElem?_cons_zero, List.getElem?_cons_succ] at s0 s1 s2
                      have t0 := RB.out.cell 0
                      have t1 := RB.out.cell 1
                      have t2 := RB.out.cell 2
                      have lt := RB.out.lt
                      simp only [List.getElem?_cons_zero, List.getElem?_cons_succ] at t0 t1 t2
                      have ft0 := RB.out.frozen 0
                      have ft1 := RB.out.frozen 1
                      have ft2 := RB.out.frozen 2
                      have HClN := Lib.hid (show Cl bB (some aq) N c8 l' from cl_fr HFo.out hb9)
                      go_wp2_with fail
                      go_roundw
                      case rel => exact ⟨k + 1, ⟨A, l', cl'⟩, (some aq), N, c8, by go_num, by omega, ((RB.out.set 0 _).set 1 _).set 2 _, HClN.out _ _ _ (HClN.out _ _ _ (HClN.out _ _ _ BN.out)), HVd2.out, by have := HL2.out; show l'.length ≤ _; omega, HClN.out, ((BB.out.setCell (p := ⟨bB, 0, none⟩) hbB _).setCell (p := ⟨bB, 1, none⟩) hbB _).setCell (p := ⟨bB, 2, none⟩) hbB _, by simpa [Up] using HUp.out, fv_far3 HVM.out nBl _ _ _⟩
                      case measure => first | (simp [intOf]; done) | (simp [intOf]; omega)
        · go_upto_region 22 with (go_at_call 14; with_reducible refine Calls.mono (P0.out _) ?_; rintro e w' ⟨rfl, rfl⟩)
          clear P0 P4 P6 P7
          clear z0 z1 z2 z3 z4 lz
          as_aux_lemma =>
            cases x with
            | none =>
              have hN80 : N5 = 0 := BW9.out.1.symm
              rw [show erI none = 310 from rfl]
              rw [show (boV none).acc = 0 from rfl, show (boV none).cl = 0 from rfl] at RX
              have CS := Lib.hid (fun W (h : BkW W o5 N5 c5 (boV none).l) => (show Calls Try.prog 13 #[bookV 0 o5 N5 c5 0, bookV 0 none 0 0 0] W fun e w' => e = .returned (.bool true) ∧ Below W.heap.size W w' from by
                have q := rSame_any 0 0 o5 N5 c5 0 0 none 0 0 (boV none).l [] W (by omega) h (bkw_zero W)
                rw [decide_eq_true (show SameP 0 0 (boV none).l 0 0 [] from ⟨rfl, rfl, rfl⟩)] at q
                exact q))
              subst hN80
              have s0 := RX.out.cell 0
              have s1 := RX.out.cell 1
              have s2 := RX.out.cell 2
              have ls := RX.out.lt
              simp only [List.getElem?_cons_zero, List.getElem?_cons_succ] at s0 s1 s2
              have t0 := RB.out.cell 0
              have t1 := RB.out.cell 1
              have t2 := RB.out.cell 2
              have lt := RB.out.lt
              simp only [List.getElem?_cons_zero, List.getElem?_cons_succ] at t0 t1 t2
              go_wp2_with fail
              with_reducible refine Calls.mono (CS.out _ BW9.out) ?_
              rintro e wn ⟨rfl, hb⟩
              replace RB := Lib.hid (RB.out.next hb)
              replace BW := Lib.hid (BW.out.next hb)
              replace HUp := Lib.hid (HUp.out.next hb)
              replace HVM := Lib.hid (HVM.out.next hb)
              replace BB := Lib.hid (Below.andThen BB.out hb)
              clear hb
              go_wp2_with fail
              go_roundw
              case rel => exact ⟨k + 1, ⟨A, l, cl⟩, o, N, c, by go_num, by omega, RB.out, BW.out, HVd.out, by have := HLn.out; show l.length ≤ _; omega, HCl.out, BB.out, HUp.out, HVM.out⟩
              case measure => first | (simp [intOf]; done) | (simp [intOf]; omega)
            | some B =>
              have HK := Lib.hid (kp_post HX.out)
              obtain ⟨acc', l', cl'⟩ := B
              have e1 : acc' = A := HK.out.1.hacc
              subst e1
              rw [show erI (some (⟨A, l', cl'⟩ : Bo)) = 0 from rfl]
              try rw [show nI (some (⟨A, l', cl'⟩ : Bo)) N = (N : Int) from rfl]
              rw [show (boV (some (⟨A, l', cl'⟩ : Bo))).acc = A from rfl, show (boV (some (⟨A, l', cl'⟩ : Bo))).cl = cl' from rfl] at RX
              have BN := Lib.hid (show BkW w9 o5 N5 c5 l' from BW9.out)
              have HVd2 := Lib.hid (show Vd A l' cl' from HK.out.1.hvd)
              have hcc : cl ≤ cl' := HK.out.1.hcl
              have hcl2 : cl' ≤ 12 := HVd2.out.1.2.2.2.1
              have hlen2 : l'.length = N5 := BN.out.1
              have hkl := HK.out.2
              dsimp only at hkl
              rw [hlen2, HL.out] at hkl
              have HL2 := Lib.hid hlen2
              have hln64 : l'.length ≤ 48 + 2 * (k + 1) := by have h1 := HLn.out; have h2 := HL.out; omega
              clear hlen2
              obtain rfl : N5 = N + 1 := by omega
              have HFo := Lib.hid HF5.out
              have hnone := BN.out.2.2.2.1
              have hle := BN.out.2.1
              cases o5 with
              | none =>
                have hz := hnone rfl
                omega
              | some aq =>
                clear hnone hle
                as_aux_lemma =>
                  have CVN := Lib.hid (fun W (h : BkW W (some aq) (N + 1) c5 l') => (show Calls Try.prog 11 #[bookV A (some aq) (N + 1) c5 cl'] W fun e w' => e = .returned (.bool true) ∧ Below W.heap.size W w' from by
                    have q := Valid_u A cl' (some aq) (N + 1) c5 l' W h
                    rw [vd_iff.2 HVd2.out] at q
                    exact q))
                  have hcap : N ≤ c5 := by have := BN.out.2.1; omega
                  have hc64 := BN.out.2.2.1
                  have CSP := Lib.hid (fun W (h : BkW W (some aq) (N + 1) c5 l') (h0 : BkW W o N c l) => (show Calls Try.prog 26 #[.slice (some aq) N c5, .slice o N c] W fun e w' => e = .returned (.bool true) ∧ Below W.heap.size W w' from by
                    have q := rSameP_any (some aq) N c5 o N c l l W HL.out HL.out (by omega) hcap h0.2.1 (sl_take h HK.out.1.hpre) h0.2.2.2.2
                    rw [decide_eq_true rfl] at q
                    exact q))
                  have s0 := RX.out.cell 0
                  have s1 := RX.out.cell 1
                  have s2 := RX.out.cell 2
                  have ls := RX.out.lt
                  simp only [List.getElem?_cons_zero, List.getElem?_cons_succ] at s0 s1 s2
                  have t0 := RB.out.cell 0
                  have t1 := RB.out.cell 1
                  have t2 := RB.out.cell 2
                  have lt := RB.out.lt
                  simp only [List.getElem?_cons_zero, List.getElem?_cons_succ] at t0 t1 t2
                  have hnlt : ¬ cl' < cl := by omega
                  have hkN1 : (0 : Int) ≤ N := by omega
                  have hkN2 : (N : Int) ≤ c5 := by omega
                  go_upto_region 25 with (fail)
                  refine wp_region_kin (by kernel_rfl) (by kernel_rfl) w9.heap.size 0 (by simp) (fun hk => ?_)
                  repeat (go_big_quiet_step ((first | (go_at_call 11; with_reducible exact Calls.kin (CVN.out _ (BN.out.next (Kin.below _)))) | (go_at_call 26; with_reducible exact Calls.kin (CSP.out _ (BN.out.next (Kin.below _)) (BW.out.next (Kin.below _)))))))
                  refine wpQuiet_nil ?_
                  clear hk
                  intro w11 hb
                  replace RB := Lib.hid (RB.out.next hb)
                  replace RX := Lib.hid (RX.out.next hb)
                  replace BW := Lib.hid (BW.out.next hb)
                  replace BN := Lib.hid (BN.out.next hb)
                  replace HUp := Lib.hid (HUp.out.next hb)
                  replace HVM := Lib.hid (HVM.out.next hb)
                  replace BB := Lib.hid (Below.andThen BB.out hb)
                  clear hb
                  clear s0 s1 s2 ls
                  clear t0 t1 t2 lt
                  obtain ⟨C, hC⟩ : ∃ C : Nat, cl = C := ⟨cl.toNat, by omega⟩
                  have hC12 : C ≤ 12 := by omega
                  obtain ⟨fx, hfx⟩ : ∃ f : Nat → Nat → Int, f = fun (m t : Nat) => Bk.sT l (m : Int) t := ⟨_, rfl⟩
                  have CS1 := Lib.hid (fun (m : Nat) (hm : m < C) W (h : BkW W o N c l) => (show Calls Try.prog 19 #[bookV A o N c cl, .int .i64 m] W fun e w' => (∃ o' c', e = .returned (.tuple #[.slice o' A c', .int .i64 0]) ∧ InW w' W.heap.size o' A c' ((List.range A).map (fx m))) ∧ Below W.heap.size W w' from by rw [hfx]; exact stmt_at m (by omega) HVd.out h))
                  have CS2 := Lib.hid (fun (m : Nat) (hm : m < C) W (h : BkW W (some aq) (N + 1) c5 l') => (show Calls Try.prog 19 #[bookV A (some aq) (N + 1) c5 cl', .int .i64 m] W fun e w' => (∃ o' c', e = .returned (.tuple #[.slice o' A c', .int .i64 0]) ∧ InW w' W.heap.size o' A c' ((List.range A).map (fx m))) ∧ Below W.heap.size W w' from by
                    have q := stmt_at m (by omega) HVd2.out h
                    rw [range_ext (f := Bk.sT l' m) (g := fx m) (fun t _ => by rw [hfx]; exact HK.out.1.hsame m t (by show (m : Int) < cl; omega))] at q
                    exact q))
                  clear hfx
                  have HCC := Lib.hid hC
                  clear hC
                  have t0 := RB.out.cell 0
                  have t1 := RB.out.cell 1
                  have t2 := RB.out.cell 2
                  have lt := RB.out.lt
                  simp only [List.getElem?_cons_zero, List.getElem?_cons_succ] at t0 t1 t2
                  go_wp2_with fail
                  obtain ⟨wl, hwl⟩ : ∃ W, W = w11 := ⟨_, rfl⟩
                  subst hwl
                  go_loopw [17] (fun mv wz => ∃ m : Nat, mv = .int .i64 m ∧ m ≤ C ∧ Below wl.heap.size wl wz) (fun mv _ => C - (intOf mv).toNat)
                  case atStart => exact ⟨0, rfl, Nat.zero_le _, Below.refl _ _⟩
                  case round =>
                    obtain ⟨m, rfl, hm, hx⟩ := hrel
                    rename World => wz
                    clear t0 t1 t2 lt
                    replace RB := Lib.hid (RB.out.next hx)
                    replace RX := Lib.hid (RX.out.next hx)
                    replace BW := Lib.hid (BW.out.next hx)
                    replace BN := Lib.hid (BN.out.next hx)
                    replace HUp := Lib.hid (HUp.out.next hx)
                    replace HVM := Lib.hid (HVM.out.next hx)
                    replace BB := Lib.hid (Below.andThen BB.out hx)
                    have BL := Lib.hid hx
                    clear hx
                    have t0 := RB.out.cell 0
                    have t1 := RB.out.cell 1
                    have t2 := RB.out.cell 2
                    have lt := RB.out.lt
                    simp only [List.getElem?_cons_zero, List.getElem?_cons_succ] at t0 t1 t2
                    by_cases hlt : m < C
                    · have i1 : (m : Int) < cl := by rw [HCC.out]; omega
                      go_wp2_with fail
                      with_reducible refine Calls.mono (CS1.out m hlt _ BW.out) ?_
                      rintro e wa ⟨⟨os, cs, rfl, hs⟩, hb⟩
                      obtain ⟨B1, hB1⟩ : ∃ b, b = wz.heap.size := ⟨_, rfl⟩
                      rw [← hB1] at hs
                      have S1 := Lib.hid hs
                      replace RB := Lib.hid (RB.out.next hb)
                      replace RX := Lib.hid (RX.out.next hb)
                      replace BW := Lib.hid (BW.out.next hb)
                      replace BN := Lib.hid (BN.out.next hb)
                      replace BB := Lib.hid (Below.andThen BB.out hb)
                      replace BL := Lib.hid (Below.andThen BL.out hb)
                      clear hs hb
                      clear t0 t1 t2 lt
                      have s0 := RX.out.cell 0
                      have s1 := RX.out.cell 1
                      have s2 := RX.out.cell 2
                      have ls := RX.out.lt
                      simp only [List.getElem?_cons_zero, List.getElem?_cons_succ] at s0 s1 s2
                      go_wp2_with fail
                      with_reducible refine Calls.mono (CS2.out m hlt _ BN.out) ?_
                      rintro e wb ⟨⟨os2, cs2, rfl, hs⟩, hb⟩
                      obtain ⟨B2, hB2⟩ : ∃ b, b = wa.heap.size := ⟨_, rfl⟩
                      rw [← hB2] at hs
                      have S2 := Lib.hid hs
                      replace RB := Lib.hid (RB.out.next hb)
                      replace RX := Lib.hid (RX.out.next hb)
                      replace BW := Lib.hid (BW.out.next hb)
                      replace BN := Lib.hid (BN.out.next hb)
                      replace S1 := Lib.hid (S1.out.next hb)
                      replace BB := Lib.hid (Below.andThen BB.out hb)
                      replace BL := Lib.hid (Below.andThen BL.out hb)
                      clear hs hb
                      clear s0 s1 s2 ls
                      have CI := Lib.hid (show Calls Try.prog 23 _ wb fun e w' => e = .returned (.bool true) ∧ Below wb.heap.size wb w' from by
                        have q := rInts_any _ A cs os2 A cs2 _ _ wb S1.out.1 S2.out.1 (by omega) S1.out.cap S2.out.cap S1.out.2.sl S2.out.2.sl
                        rw [decide_eq_true rfl] at q
                        exact q)
                      go_wp2_with fail
                      with_reducible refine Calls.mono CI.out ?_
                      rintro e wi ⟨rfl, hb⟩
                      replace BB := Lib.hid (Below.andThen BB.out hb)
                      replace BL := Lib.hid (Below.andThen BL.out hb)
                      clear hb
                      go_wp2_with fail
                      go_roundw
                      case rel => exact ⟨m + 1, by go_num, by omega, BL.out⟩
                      case measure => first | (simp [intOf]; done) | (simp [intOf]; omega)
                    · obtain rfl : m = C := by omega
                      have i1 : ¬ (m : Int) < cl := by rw [HCC.out]; omega
                      clear t0 t1 t2 lt
                      have s0 := RX.out.cell 0
                      have s1 := RX.out.cell 1
                      have s2 := RX.out.cell 2
                      have ls := RX.out.lt
                      simp only [List.getElem?_cons_zero, List.getElem?_cons_succ] at s0 s1 s2
                      have t0 := RB.out.cell 0
                      have t1 := RB.out.cell 1
                      have t2 := RB.out.cell 2
                      have lt := RB.out.lt
                      simp only [List.getElem?_cons_zero, List.getElem?_cons_succ] at t0 t1 t2
                      have ft0 := RB.out.frozen 0
                      have ft1 := RB.out.frozen 1
                      have ft2 := RB.out.frozen 2
                      have HClN := Lib.hid (show Cl bB (some aq) (N + 1) c5 l' from cl_fr HFo.out hb7)
                      go_wp2_with fail
                      go_roundw
                      case rel => exact ⟨k + 1, ⟨A, l', cl'⟩, (some aq), (N + 1), c5, by go_num, by omega, ((RB.out.set 0 _).set 1 _).set 2 _, HClN.out _ _ _ (HClN.out _ _ _ (HClN.out _ _ _ BN.out)), HVd2.out, by have := HL2.out; show l'.length ≤ _; omega, HClN.out, ((BB.out.setCell (p := ⟨bB, 0, none⟩) hbB _).setCell (p := ⟨bB, 1, none⟩) hbB _).setCell (p := ⟨bB, 2, none⟩) hbB _, by simpa [Up] using HUp.out, fv_far3 HVM.out nBl _ _ _⟩
                      case measure => first | (simp [intOf]; done) | (simp [intOf]; omega)
    · have t0 := RB.out.cell 0
      have t1 := RB.out.cell 1
      have t2 := RB.out.cell 2
      have lt := RB.out.lt
      simp only [List.getElem?_cons_zero, List.getElem?_cons_succ] at t0 t1 t2
      by_cases h1 : (k : Int) < nm
      · have h2 : ¬ (k : Int) < 8 := fun h => hc ⟨h1, h⟩
        clear hc
        go_wp2_with fail
        go_ret
        exact ⟨rfl, BB.out⟩
      · clear hc
        go_wp2_with fail
        go_ret
        exact ⟨rfl, BB.out⟩
end Bk
end Go.Proofs.Ytnhlhoijajhcjaa
