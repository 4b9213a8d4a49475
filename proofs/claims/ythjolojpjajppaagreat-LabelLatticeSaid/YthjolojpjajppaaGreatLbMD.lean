/- the reference's Made: its walk. -/
import Derived.Test.YthjolojpjajppaaGreatLbMC
import Derived.Test.YthjolojpjajppaaGreatLGM
import Derived.Deep.RegionHeld3
set_option linter.unusedVariables false
set_option linter.unusedSimpArgs false
set_option linter.unnecessarySimpa false
namespace Go.Proofs.YthjolojpjajppaaGreat
open Go.RowKit
namespace Lb
open Sq
set_option maxRecDepth 100000 in
set_option maxHeartbeats 8000000 in
theorem Made_any (x0 x1 x2 x3 x4 x5 x6 : Int) (w : World) (h0 : inM1 x0) (h1 : inM1 x1) (h2 : inM1 x2) (h3 : inM1 x3) (h4 : inM1 x4) (h5 : inM1 x5) (h6 : inM1 x6) :
    Calls Tryz.prog 12 #[.agg #[.int .i64 x0, .int .i64 x1, .int .i64 x2, .int .i64 x3, .int .i64 x4, .int .i64 x5, .int .i64 x6]] w fun e w' => (∃ y : Lb, e = .returned y.v ∧ y.own w' w.heap.size ∧ Vd y.p ∧ y.lk.length ≤ 2) ∧ Below w.heap.size w w' := by
  have P0 := Lib.hid (fun W => rpick_any x0 30 W h0 (by decide) (by decide))
  have P3 := Lib.hid (fun W => rpick_any x3 4 W h3 (by decide) (by decide))
  have P4 := Lib.hid (fun W => rpick_any x4 8 W h4 (by decide) (by decide))
  have C1 := Lib.hid (fun W => chosen_any x1 5 W h1 (by decide))
  have C2 := Lib.hid (fun W => chosen_any x2 4 W h2 (by decide))
  obtain ⟨D0, e0⟩ : ∃ D, pickZ x0 30 = D := ⟨_, rfl⟩
  obtain ⟨D3, e3⟩ : ∃ D, pickZ x3 4 = D := ⟨_, rfl⟩
  obtain ⟨D4, e4⟩ : ∃ D, pickZ x4 8 = D := ⟨_, rfl⟩
  obtain ⟨l1, el1⟩ : ∃ l, chs (pickZ x1 1073741824) 5 = l := ⟨_, rfl⟩
  obtain ⟨l2, el2⟩ : ∃ l, chs (pickZ x2 1073741824) 4 = l := ⟨_, rfl⟩
  have b0 := pick_in x0 (n := 30) (by decide)
  have b3 := pick_in x3 (n := 4) (by decide)
  have b4 := pick_in x4 (n := 8) (by decide)
  have N1 := Lib.hid (chs_num (pickZ x1 1073741824) (n := 5) (b := 19) (by decide))
  have N2 := Lib.hid (chs_num (pickZ x2 1073741824) (n := 4) (b := 15) (by decide))
  rw [e0] at P0 b0
  rw [e3] at P3 b3
  rw [e4] at P4 b4
  rw [el1] at C1 N1
  have N2L := Lib.hid (chs_len (pickZ x2 1073741824) 4)
  rw [el2] at C2 N2 N2L
  clear e0 e3 e4 el1 el2
  obtain ⟨b01, b02⟩ := b0
  obtain ⟨b31, b32⟩ := b3
  obtain ⟨b41, b42⟩ := b4
  have HX := Lib.hid (And.intro h2 (And.intro h5 h6))
  clear h0 h1 h2 h3 h4 h5 h6
  go_enter Tryz.func12, Tryz.ntmps12
  go_upto_region 1 with (fail)
  refine wp_named fun w1 hq => ?_
  obtain ⟨bx, ex⟩ : ∃ b, b = w.heap.size := ⟨_, rfl⟩
  obtain ⟨bR, eR⟩ : ∃ b, b = w.heap.size + 1 := ⟨_, rfl⟩
  obtain ⟨r0, r1, hB, hs⟩ := rows2 w 22 28 (c7 x0 x1 x2 x3 x4 x5 x6) zC6 w1 hq
  rw [← eR, ← ex]
  rw [← ex] at r0
  rw [← eR] at r1
  have HN := Lib.hid (show bx < w1.heap.size ∧ bR < w1.heap.size ∧ w.heap.size ≤ bx ∧ w.heap.size ≤ bR ∧ bx ≠ bR by omega)
  have RX := Lib.hid (show Row w1 bx 22 [.int .i64 x0, .int .i64 x1, .int .i64 x2, .int .i64 x3, .int .i64 x4, .int .i64 x5, .int .i64 x6] from r0)
  have RR := Lib.hid r1
  have BB := Lib.hid hB
  have HW := Lib.hid (show IntKind.i64.wrap (D0 * 10) = D0 * 10 ∧ IntKind.i64.wrap (255 - D3) = 255 - D3 ∧ IntKind.i64.wrap (255 - D4) = 255 - D4 by rw [IntKind.wrap_i64, IntKind.wrap_i64, IntKind.wrap_i64]; omega)
  clear hq ex eR r0 r1 hB hs
  have a0 := RX.out.cell 0
  have a1 := RX.out.cell 1
  have a2 := RX.out.cell 2
  have a3 := RX.out.cell 3
  have a4 := RX.out.cell 4
  have la := RX.out.lt
  simp only [List.getElem?_cons_zero, List.getElem?_cons_succ] at a0 a1 a2 a3 a4
  go_cut [3] (fun t3 wx => ∃ bl o c, t3 = ptV bl ∧ w1.heap.size ≤ bl ∧ MG w wx bx bR bl [.int .i64 x0, .int .i64 x1, .int .i64 x2, .int .i64 x3, .int .i64 x4, .int .i64 x5, .int .i64 x6] (evL (D0 * 10) o l1.length c l1 (255 - D3) (255 - D4)))
  case first =>
    (go_region_held3 (fun W => W.cell? ⟨bx, 0, none⟩ = some (.int .i64 x0) ∧ W.cell? ⟨bx, 1, none⟩ = some (.int .i64 x1) ∧ W.cell? ⟨bx, 3, none⟩ = some (.int .i64 x3) ∧ W.cell? ⟨bx, 4, none⟩ = some (.int .i64 x4)) (first | exact ⟨by with_reducible assumption, by with_reducible assumption, by with_reducible assumption, by with_reducible assumption⟩ | with_reducible exact ⟨far6 (by have := HN.out.1; have := BB4.out.size; first | omega | (simp; omega)) (by with_reducible assumption), far6 (by have := HN.out.1; have := BB4.out.size; first | omega | (simp; omega)) (by with_reducible assumption), far6 (by have := HN.out.1; have := BB4.out.size; first | omega | (simp; omega)) (by with_reducible assumption), far6 (by have := HN.out.1; have := BB4.out.size; first | omega | (simp; omega)) (by with_reducible assumption)⟩ | go_keep) (first
      | (go_at_call 37; first | ((with_reducible refine Calls.mono (P0.out _) ?_); rintro e w2 ⟨rfl, rfl⟩) | ((with_reducible refine Calls.mono (P3.out _) ?_); rintro e w2 ⟨rfl, rfl⟩) | ((with_reducible refine Calls.mono (P4.out _) ?_); rintro e w2 ⟨rfl, rfl⟩))
      | (go_at_call 38; (with_reducible refine Calls.mono (C1.out _) ?_); rintro e w4 ⟨⟨v4, rfl, hv⟩, hb⟩; obtain ⟨o4, c4, rfl, -⟩ := own_sv hv; have BB4 := Lib.hid (show Below w1.heap.size w1 w4 from Below.andThen (by (repeat' first | exact Below.refl _ _ | assumption | (refine below_drewN ?_ _) | (refine Below.drew ?_) | (refine Below.alloc ?_ ?_ _) | (refine Below.setCell ?_ ?_ _) | (simp; done) | (simp; omega) | omega)) hb); have OW4 := Lib.hid (show Sq.Own intE 3 w4 w.heap.size (.slice o4 l1.length c4) l1 from Sq.Own.lower hv (by have := BB.out.size; simp; try omega)); have RX4 := Lib.hid (RX.out.next BB4.out); have RR4 := Lib.hid (RR.out.next BB4.out); have BZ4 := Lib.hid (Below.andThen BB.out BB4.out); clear a0 a1 a2 a3 a4 la; have a0 := RX4.out.cell 0; have a1 := RX4.out.cell 1; have a3 := RX4.out.cell 3; have a4 := RX4.out.cell 4; have la := RX4.out.lt; simp only [List.getElem?_cons_zero, List.getElem?_cons_succ] at a0 a1 a3 a4; (first | (have RL4 := Lib.hid (show Row w4 w1.heap.size 28 zC6 from by with_reducible exact row_zero hb (by simp)); have l40 := RL4.out.cell 0; have l41 := RL4.out.cell 1; have l42 := RL4.out.cell 2; have l43 := RL4.out.cell 3; have l44 := RL4.out.cell 4; have l45 := RL4.out.cell 5; have fl40 := RL4.out.frozen 0; have fl41 := RL4.out.frozen 1; have fl42 := RL4.out.frozen 2; have fl43 := RL4.out.frozen 3; have fl44 := RL4.out.frozen 4; have fl45 := RL4.out.frozen 5; have ll4 := RL4.out.lt; simp only [List.getElem?_cons_zero, List.getElem?_cons_succ] at l40 l41 l42 l43 l44 l45) | skip); clear hv hb)))
    all_goals
      go_wp2_with fail
      go_meet
      refine ⟨_, o4, c4, rfl, ?_⟩
      rw [HW.out.1, HW.out.2.1, HW.out.2.2]
      first
        | exact ⟨BB4.out.size, by with_reducible exact mg_new RX4.out RR4.out OW4.out BZ4.out⟩
        | exact ⟨Nat.le_refl _, by with_reducible exact mg_set RX4.out RR4.out RL4.out OW4.out BZ4.out (Nat.ne_of_lt HN.out.1) (Nat.ne_of_lt HN.out.2.1) BB.out.size⟩
  obtain ⟨bl, o, c, rfl, hl, hM⟩ := hcut
  rename World => w2
  have M2 := Lib.hid hM
  have HP := Lib.hid (show bx ≠ bl ∧ bR ≠ bl ∧ w.heap.size ≤ bl by have := HN.out; have := BB.out.size; omega)
  have HD := Lib.hid (And.intro b01 (And.intro b02 (And.intro b31 (And.intro b32 (And.intro b41 b42)))))
  clear hM hl a0 a1 a2 a3 a4 la RX RR P0 P3 P4 C1 b01 b02 b31 b32 b41 b42 HW
  have PQ := Lib.hid (fun W => rpick_any (x2.tdiv 16) 3 W (tdiv_in HX.out.1 (by decide)) (by decide) (by decide))
  obtain ⟨D2, e2⟩ : ∃ D, pickZ (x2.tdiv 16) 3 = D := ⟨_, rfl⟩
  have b2 := pick_in (x2.tdiv 16) (n := 3) (by decide)
  rw [e2] at PQ b2
  clear e2
  obtain ⟨b21, b22⟩ := b2
  have RX := Lib.hid M2.out.rx
  have a2 := RX.out.cell 2
  have la := RX.out.lt
  simp only [List.getElem?_cons_zero, List.getElem?_cons_succ] at a2
  go_upto_region 3 with (go_at_call 38; (with_reducible refine Calls.mono (C2.out _) ?_); rintro e w3 ⟨⟨v, rfl, hv⟩, hb⟩; obtain ⟨o2, c2, rfl, -⟩ := own_sv hv; have O2 := Lib.hid (show Sq.Own intE 3 w3 w.heap.size (.slice o2 l2.length c2) l2 from hv.lower M2.out.below.size); have M3 := Lib.hid (M2.out.next hb); clear hv hb)
  clear a2 la RX M2 C2
  go_wp2_with fail
  go_loopw [5] (fun jv wr => ∃ (k : Nat) (o5 : Option Addr) (c5 : Nat), jv = .int .i64 k ∧ k ≤ l2.length ∧ MG w wr bx bR bl [.int .i64 x0, .int .i64 x1, .int .i64 x2, .int .i64 x3, .int .i64 x4, .int .i64 x5, .int .i64 x6] ⟨D0 * 10, o, l1.length, c, l1, o5, k, c5, csL l2 (1 + D2) k, 255 - D3, 255 - D4, none, 0, 0, []⟩ ∧ Sq.Own intE 3 wr w.heap.size (.slice o2 l2.length c2) l2) (fun jv _ => l2.length - (intOf jv).toNat)
  case atStart => exact ⟨0, none, 0, rfl, Nat.zero_le _, M3.out, O2.out⟩
  case round =>
    obtain ⟨k, o5, c5, rfl, hk, hM, hO⟩ := hrel
    rename World => wr
    clear O2 M3
    have M := Lib.hid hM
    have O2 := Lib.hid hO
    clear hM hO
    have RX := Lib.hid M.out.rx
    have RL := Lib.hid M.out.rl
    have hll : l2.length ≤ 4 := N2L.out
    by_cases hlt : k < l2.length
    · obtain ⟨f, hf⟩ := get_some (n := l2.length) rfl hlt
      obtain ⟨b, off, rfl, lb, hcf⟩ := int_at (own_sv' O2.out) hf
      have HLT := Lib.hid hlt
      have HF := Lib.hid (csL_next (p := 1 + D2) hf)
      have HFL := Lib.hid (csL_len (l := l2) (p := 1 + D2) hk)
      clear hf
      have a2 := RX.out.cell 2
      have la := RX.out.lt
      simp only [List.getElem?_cons_zero, List.getElem?_cons_succ] at a2
      unfold Lb.cells at RL
      have d2 := RL.out.cell 2
      have ld := RL.out.lt
      simp only [List.getElem?_cons_zero, List.getElem?_cons_succ] at d2
      have fd2 := RL.out.frozen 2
      go_wp2_with fail
      have HA := Lib.hid (show Below wr.heap.size wr (wr.drew.alloc (.cells #[.int .i64 f, .int .i64 (1 + D2)] 67)) by (repeat' first | exact Below.refl _ _ | assumption | (refine below_drewN ?_ _) | (refine Below.drew ?_) | (refine Below.alloc ?_ ?_ _) | (refine Below.setCell ?_ ?_ _) | (simp; done) | (simp; omega) | omega))
      have hw1 : IntKind.i64.wrap (1 + D2) = 1 + D2 := by rw [IntKind.wrap_i64]; omega
      have hw2 : IntKind.i64.wrap (x2.tdiv 16) = x2.tdiv 16 := by have := tdiv_in (n := 16) HX.out.1 (by decide); unfold inM1 at this; rw [IntKind.wrap_i64]; omega
      go_region_law (first
        | (go_simp; go_at_call 37; (with_reducible refine Calls.mono (PQ.out _) ?_); rintro e w2 ⟨rfl, rfl⟩)
        | (refine step_append tyC rfl (.tmp 35) (.tmp 46) rfl w.heap.size (.slice o5 k c5) (csL l2 (1 + D2) k) rfl (M.out.ow.2.1.next HA.out) (some ⟨wr.heap.size, 0, none⟩) 1 1 [⟨f, 1 + D2⟩] rfl rfl (fun h => by cases h) (sl_new cnE wr.drew _ [⟨f, 1 + D2⟩]) (by clear hw1 hw2; rw [HFL.out]; omega) (by clear hw1 hw2; have := M.out.below.size; simp; omega) ?_; intro v4 w4 ho hg; rw [← HF.out] at ho; obtain ⟨o4, c4, hv4, -⟩ := own_sv ho; rw [csL_len (show k + 1 ≤ l2.length from HLT.out)] at hv4; subst hv4; have HO4 := Lib.hid ho; have HG4 := Lib.hid hg; have RL4 := Lib.hid (row_beside (M.out.rl.next HA.out) (M.out.ow.2.1.next HA.out) (by decide) hg); clear ho hg; clear d2 fd2 ld; have d2 := RL4.out.cell 2; have fd2 := RL4.out.frozen 2; have ld := RL4.out.lt; unfold Lb.cells at d2; simp only [List.getElem?_cons_zero, List.getElem?_cons_succ] at d2))
      all_goals
        clear hw1 hw2
        have hA := HA.out
        have M4 := Lib.hid (mg_app_c M.out hA HG4.out HO4.out HP.out.1 HP.out.2.1 HP.out.2.2)
        have O4 := Lib.hid (own_set (i := 2) (x := .slice o4 (k + 1) c4) (own_keep (M.out.ow.2.1.next hA) (O2.out.next hA) (by decide) HG4.out) RL4.out (by decide))
        clear hA
        go_wp2_with fail
        go_roundw
        case rel => exact ⟨k + 1, o4, c4, by go_num, by omega, M4.out, O4.out⟩
        case measure => first | (simp [intOf]; done) | (simp [intOf]; omega)
    · obtain rfl : k = l2.length := by omega
      have HC := Lib.hid (csL_ok (p := 1 + D2) N2.out (by omega) (by omega))
      clear RX RL hlt hk O2 hll N2 N2L
      generalize csL l2 (1 + D2) l2.length = cs at *
      obtain ⟨n5, e5⟩ : ∃ n, n = l2.length := ⟨_, rfl⟩
      rw [← e5] at M
      clear e5
      clear PQ b21 b22
      go_wp2_with fail
      go_loopw [6] (fun jv wr => ∃ (k : Nat) (lo : Option Addr) (ln lc : Nat) (lk : List Lk), jv = .int .i64 k ∧ k ≤ 2 ∧ lk.length ≤ k ∧ MG w wr bx bR bl [.int .i64 x0, .int .i64 x1, .int .i64 x2, .int .i64 x3, .int .i64 x4, .int .i64 x5, .int .i64 x6] ⟨D0 * 10, o, l1.length, c, l1, o5, n5, c5, cs, 255 - D3, 255 - D4, lo, ln, lc, lk⟩ ∧ ascB (ltB cmpA) (lk.map pK) = true ∧ ∀ q ∈ lk, fitA (pK q) = true) (fun jv _ => 2 - (intOf jv).toNat)
      case atStart => exact ⟨0, none, 0, 0, [], rfl, Nat.zero_le _, Nat.le_refl _, M.out, rfl, fun q hq => (by cases hq)⟩
      case round =>
        clear M
        obtain ⟨k, lo, ln, lc, lk, rfl, hk, hlk, hM, hasc, hfit⟩ := hrel
        rename World => wr
        have M := Lib.hid hM
        have HAS := Lib.hid hasc
        have HFT := Lib.hid hfit
        have HLN := Lib.hid (show lk.length = ln from (own_sv' hM.ow.2.2.1).len)
        have HLK := Lib.hid hlk
        clear hM hasc hfit hlk
        by_cases hlt : k < 2
        · obtain ⟨xk, hxk, hin⟩ : ∃ xk, wr.cell? ⟨bx, 5 + k, none⟩ = some (.int .i64 xk) ∧ inM1 xk := by
            obtain rfl | rfl : k = 0 ∨ k = 1 := by omega
            · exact ⟨x5, M.out.rx.cell 5, HX.out.2.1⟩
            · exact ⟨x6, M.out.rx.cell 6, HX.out.2.2⟩
          have lx := M.out.rx.lt
          have HI := Lib.hid hin
          have CK := Lib.hid (fun W => chosen_any xk 6 W hin (by decide))
          obtain ⟨K, eK⟩ : ∃ K, chs (pickZ xk 1073741824) 6 = K := ⟨_, rfl⟩
          have KN := Lib.hid (chs_num (pickZ xk 1073741824) (n := 6) (b := 19) (by decide))
          have KL := Lib.hid (chs_len (pickZ xk 1073741824) 6)
          rw [eK] at CK KN KL
          clear hin eK
          obtain ⟨n, en⟩ : ∃ n, K.length = n := ⟨_, rfl⟩
          have HKN := Lib.hid en
          rw [en] at KL
          have hn6 := KL.out
          clear en
          go_upto_region 11 with (go_at_call 38; (with_reducible refine Calls.mono (CK.out _) ?_); rintro e w3 ⟨⟨v, rfl, hv⟩, hb⟩; obtain ⟨o6, c6, rfl, -⟩ := own_sv hv; rw [HKN.out] at hv; rw [HKN.out]; have OK := Lib.hid (show Sq.Own intE 3 w3 w.heap.size (.slice o6 n c6) K from hv.lower M.out.below.size); have hx3 : w3.cell? ⟨bx, 5 + k, none⟩ = some (.int .i64 xk) := (hb.cell (p := ⟨bx, 5 + k, none⟩) lx).trans hxk; have lx3 := Nat.lt_of_lt_of_le lx hb.size; have M3 := Lib.hid (M.out.next hb); clear hv hb hxk lx)
          clear CK M
          by_cases h0 : n = 0
          · subst h0
            go_wp2_with fail
            go_roundw
            case rel => exact ⟨k + 1, lo, ln, lc, lk, by go_num, by omega, (by have := HLK.out; omega), M3.out, HAS.out, HFT.out⟩
            case measure => first | (simp [intOf]; done) | (simp [intOf]; omega)
          · have d0 : ((n : Int) == 0) = false := by simp; omega
            have hti := tdiv_in (n := 64) HI.out (by decide)
            have CQ := Lib.hid (fun W => rpick_any (xk.tdiv 64) n W hti (by omega) (by omega))
            obtain ⟨Dk, eD⟩ : ∃ D, pickZ (xk.tdiv 64) n = D := ⟨_, rfl⟩
            have bD := pick_in (xk.tdiv 64) (n := n) (by omega)
            rw [eD] at CQ bD
            obtain ⟨bD1, bD2⟩ := bD
            obtain ⟨ht1, ht2⟩ := hti
            clear eD
            go_upto_region 13 with (go_at_call 37; (with_reducible refine Calls.mono (CQ.out _) ?_); rintro e w2 ⟨rfl, rfl⟩)
            refine wp_named fun w4 hq => ?_
            obtain ⟨bq, ebq⟩ : ∃ b, b = w3.heap.size := ⟨_, rfl⟩
            have hA : Below w3.heap.size w3 w4 := by rw [hq]; exact (Below.refl _ _).alloc (Nat.le_refl _) _
            have RQ := Lib.hid (show Row w4 bq 70 [.int .i64 (1 + Dk), .slice o6 n c6] from by rw [hq, ebq]; exact Row.new w3 70 [.int .i64 (1 + Dk), .slice o6 n c6])
            rw [← ebq]
            have M4 := Lib.hid (M3.out.next hA)
            have O4 := Lib.hid (show Lk.own w4 w.heap.size ⟨1 + Dk, o6, n, c6, K⟩ from OK.out.next hA)
            have FQ := Lib.hid (show fitA (pK ⟨1 + Dk, o6, n, c6, K⟩) = true by have h1 := KN.out; have h2 := HKN.out; unfold fitA pK; simp only [Bool.and_eq_true, decide_eq_true_eq]; exact ⟨⟨h1, by omega⟩, by omega⟩)
            clear hq ebq hA M3 OK hx3 lx3 CQ
            have RL := Lib.hid M4.out.rl
            unfold Lb.cells at RL
            have d5 := RL.out.cell 5
            have ld := RL.out.lt
            simp only [List.getElem?_cons_zero, List.getElem?_cons_succ] at d5
            have fd5 := RL.out.frozen 5
            have q0 := RQ.out.cell 0
            have q1 := RQ.out.cell 1
            have lq := RQ.out.lt
            simp only [List.getElem?_cons_zero, List.getElem?_cons_succ] at q0 q1
            have hl2 := HLN.out
            cases lk with
            | nil =>
              obtain rfl : ln = 0 := hl2.symm
              have HAS2 := Lib.hid (show ascB (ltB cmpA) (([] ++ [⟨1 + Dk, o6, n, c6, K⟩] : List Lk).map pK) = true from rfl)
              have HFT2 := Lib.hid (show ∀ q ∈ ([] ++ [⟨1 + Dk, o6, n, c6, K⟩] : List Lk), fitA (pK q) = true from fun q hq => by rw [List.nil_append] at hq; rw [List.mem_singleton.1 hq]; exact FQ.out)
              go_wp2_with fail
              refine wp_region_kin (by kernel_rfl) (by kernel_rfl) w4.heap.size 0 (by simp) (fun hk => ?_)
              repeat (go_big_quiet_step (fail))
              refine wpQuiet_nil ?_
              clear hk
              intro W4 hb
              replace M4 := Lib.hid (M4.out.next hb)
              replace O4 := Lib.hid (show Lk.own W4 w.heap.size ⟨1 + Dk, o6, n, c6, K⟩ from Sq.Own.next O4.out hb)
              replace RQ := Lib.hid (RQ.out.next hb)
              clear hb d5 fd5 ld q0 q1 lq RL
              have RL := Lib.hid M4.out.rl
              unfold Lb.cells at RL
              have d5 := RL.out.cell 5
              have ld := RL.out.lt
              simp only [List.getElem?_cons_zero, List.getElem?_cons_succ] at d5
              have fd5 := RL.out.frozen 5
              have q0 := RQ.out.cell 0
              have q1 := RQ.out.cell 1
              have lq := RQ.out.lt
              simp only [List.getElem?_cons_zero, List.getElem?_cons_succ] at q0 q1
              go_wp2_with (at_builtin; refine wpList_append tyK rfl _ _ rfl w.heap.size (.slice lo 0 lc) [] rfl (M4.out.ow.2.2.1.next ((Below.refl _ _).alloc (Nat.le_refl _) _)) (some ⟨W4.heap.size, 0, none⟩) 1 1 [⟨1 + Dk, o6, n, c6, K⟩] rfl rfl (fun h => by cases h) (sl_new lkE W4 _ [⟨1 + Dk, o6, n, c6, K⟩]) (by simp) (by have := M4.out.below.size; simp; omega) ?_; intro v5 w5 ho hg; obtain ⟨o7, c7, rfl, -⟩ := own_sv ho; have HO5 := Lib.hid ho; have HG5 := Lib.hid hg; have RL5 := Lib.hid (row_beside (M4.out.rl.next ((Below.refl _ _).alloc (Nat.le_refl _) _)) (M4.out.ow.2.2.1.next ((Below.refl _ _).alloc (Nat.le_refl _) _)) (by decide) hg); clear ho hg; clear d5 fd5 ld; have d5 := RL5.out.cell 5; have fd5 := RL5.out.frozen 5; have ld := RL5.out.lt; unfold Lb.cells at d5; simp only [List.getElem?_cons_zero, List.getElem?_cons_succ] at d5)
              have hM5 := mg_app_k M4.out ((Below.refl _ _).alloc (Nat.le_refl _) _) HG5.out HO5.out O4.out HP.out.1 HP.out.2.1 HP.out.2.2
              simp only [List.nil_append, List.cons_append, List.length_cons, List.length_nil, Nat.zero_add, Nat.reduceAdd] at hM5
              have M5 := Lib.hid hM5
              clear hM5
              go_roundw
              case rel => exact ⟨k + 1, o7, 1, c7, [] ++ [⟨1 + Dk, o6, n, c6, K⟩], by go_num, by omega, (by simp), M5.out, HAS2.out, HFT2.out⟩
              case measure => first | (simp [intOf]; done) | (simp [intOf]; omega)

            | cons a r =>
              obtain rfl : r = [] := by
                have h3 := HLK.out
                cases r with
                | nil => rfl
                | cons b r => simp at h3; omega
              obtain rfl : ln = 1 := hl2.symm
              obtain ⟨aneed, ao, an, ac, akeys⟩ := a
              have hk1 : k = 1 := by have := HLK.out; simp at this; omega
              subst hk1
              have FA := Lib.hid (fitA_parts (HFT.out ⟨aneed, ao, an, ac, akeys⟩ (List.mem_singleton.2 rfl)))
              have FQ2 := Lib.hid (fitA_parts FQ.out)
              have OA := Lib.hid (show Lk.own w4 w.heap.size ⟨aneed, ao, an, ac, akeys⟩ from M4.out.ow.2.2.2 _ (List.mem_singleton.2 rfl))
              have CB := Lib.hid (show ∀ W, Lk.ok W ⟨aneed, ao, an, ac, akeys⟩ → Lk.ok W ⟨1 + Dk, o6, n, c6, K⟩ → Calls Tryz.prog 39 #[.agg #[.int .i64 aneed, .slice ao an ac], .agg #[.int .i64 (1 + Dk), .slice o6 n c6]] W fun e w' => e = .returned (.bool (ltB cmpA (aneed, akeys) (1 + Dk, K))) ∧ Below W.heap.size W w' from fun W h h2 => (rbK_any ⟨aneed, ao, an, ac, akeys⟩ ⟨1 + Dk, o6, n, c6, K⟩ W h h2 (by have h1 : akeys.length ≤ 20 := FA.out.2; have h2 : akeys.length = an := Sv.len (Lk.own.ok OA.out); show an ≤ 1000000; omega) (by show n ≤ 1000000; omega)).mono fun e w' h => ⟨by rw [h.1, rbK_is (x := ⟨aneed, ao, an, ac, akeys⟩) (y := ⟨1 + Dk, o6, n, c6, K⟩) FA.out.1 FQ2.out.1]; rfl, h.2⟩)
              have CE := Lib.hid (show ∀ W, Lk.ok W ⟨aneed, ao, an, ac, akeys⟩ → Lk.ok W ⟨1 + Dk, o6, n, c6, K⟩ → Calls Tryz.prog 39 #[.agg #[.int .i64 (1 + Dk), .slice o6 n c6], .agg #[.int .i64 aneed, .slice ao an ac]] W fun e w' => e = .returned (.bool (ltB cmpA (1 + Dk, K) (aneed, akeys))) ∧ Below W.heap.size W w' from fun W h h2 => (rbK_any ⟨1 + Dk, o6, n, c6, K⟩ ⟨aneed, ao, an, ac, akeys⟩ W h2 h (by show n ≤ 1000000; omega) (by have h1 : akeys.length ≤ 20 := FA.out.2; have h2 : akeys.length = an := Sv.len (Lk.own.ok OA.out); show an ≤ 1000000; omega)).mono fun e w' h => ⟨by rw [h.1, rbK_is (x := ⟨1 + Dk, o6, n, c6, K⟩) (y := ⟨aneed, ao, an, ac, akeys⟩) FQ2.out.1 FA.out.1]; rfl, h.2⟩)
              obtain ⟨bo, fo, rfl, lbo, o0, o1⟩ := lk_at (k := 0) (own_sv' M4.out.ow.2.2.1) rfl
              simp only [Nat.zero_mul, Nat.add_zero] at o0 o1
              obtain ⟨z1, hz1⟩ : ∃ z, ltB cmpA (aneed, akeys) (1 + Dk, K) = z := ⟨_, rfl⟩
              obtain ⟨z2, hz2⟩ : ∃ z, ltB cmpA (1 + Dk, K) (aneed, akeys) = z := ⟨_, rfl⟩
              rw [hz1] at CB
              rw [hz2] at CE
              have HZ := Lib.hid (And.intro hz1 hz2)
              clear hz1 hz2
              cases z1 with
              | true =>
                have HAS2 := Lib.hid (show ascB (ltB cmpA) (([⟨aneed, ao, an, ac, akeys⟩] ++ [⟨1 + Dk, o6, n, c6, K⟩] : List Lk).map pK) = true from by show (ltB cmpA (aneed, akeys) (1 + Dk, K) && true) = true; rw [HZ.out.1]; rfl)
                have HFT2 := Lib.hid (show ∀ q ∈ ([⟨aneed, ao, an, ac, akeys⟩] ++ [⟨1 + Dk, o6, n, c6, K⟩] : List Lk), fitA (pK q) = true from fun q hq => by rcases List.mem_append.1 hq with h | h; exact HFT.out q h; rw [List.mem_singleton.1 h]; exact FQ.out)
                go_wp2_with fail
                refine wp_region_kin (by kernel_rfl) (by kernel_rfl) w4.heap.size 0 (by simp) (fun hk => ?_)
                repeat (go_big_quiet_step ((go_at_call 39; with_reducible exact Calls.kin (CB.out _ (Lk.ok.next (Lk.own.ok OA.out) (Kin.below _)) (Lk.ok.next (Lk.own.ok O4.out) (Kin.below _))))))
                refine wpQuiet_nil ?_
                clear hk
                intro W4 hb
                replace M4 := Lib.hid (M4.out.next hb)
                replace O4 := Lib.hid (show Lk.own W4 w.heap.size ⟨1 + Dk, o6, n, c6, K⟩ from Sq.Own.next O4.out hb)
                replace RQ := Lib.hid (RQ.out.next hb)
                clear hb d5 fd5 ld q0 q1 lq RL
                have RL := Lib.hid M4.out.rl
                unfold Lb.cells at RL
                have d5 := RL.out.cell 5
                have ld := RL.out.lt
                simp only [List.getElem?_cons_zero, List.getElem?_cons_succ] at d5
                have fd5 := RL.out.frozen 5
                have q0 := RQ.out.cell 0
                have q1 := RQ.out.cell 1
                have lq := RQ.out.lt
                simp only [List.getElem?_cons_zero, List.getElem?_cons_succ] at q0 q1
                go_wp2_with (at_builtin; refine wpList_append tyK rfl _ _ rfl w.heap.size (.slice (some ⟨bo, fo, none⟩) 1 lc) [⟨aneed, ao, an, ac, akeys⟩] rfl (M4.out.ow.2.2.1.next ((Below.refl _ _).alloc (Nat.le_refl _) _)) (some ⟨W4.heap.size, 0, none⟩) 1 1 [⟨1 + Dk, o6, n, c6, K⟩] rfl rfl (fun h => by cases h) (sl_new lkE W4 _ [⟨1 + Dk, o6, n, c6, K⟩]) (by simp) (by have := M4.out.below.size; simp; omega) ?_; intro v5 w5 ho hg; obtain ⟨o7, c7, rfl, -⟩ := own_sv ho; have HO5 := Lib.hid ho; have HG5 := Lib.hid hg; have RL5 := Lib.hid (row_beside (M4.out.rl.next ((Below.refl _ _).alloc (Nat.le_refl _) _)) (M4.out.ow.2.2.1.next ((Below.refl _ _).alloc (Nat.le_refl _) _)) (by decide) hg); clear ho hg; clear d5 fd5 ld; have d5 := RL5.out.cell 5; have fd5 := RL5.out.frozen 5; have ld := RL5.out.lt; unfold Lb.cells at d5; simp only [List.getElem?_cons_zero, List.getElem?_cons_succ] at d5)
                have hM5 := mg_app_k M4.out ((Below.refl _ _).alloc (Nat.le_refl _) _) HG5.out HO5.out O4.out HP.out.1 HP.out.2.1 HP.out.2.2
                simp only [List.nil_append, List.cons_append, List.length_cons, List.length_nil, Nat.zero_add, Nat.reduceAdd] at hM5
                have M5 := Lib.hid hM5
                clear hM5
                go_roundw
                case rel => exact ⟨1 + 1, o7, 2, c7, [⟨aneed, ao, an, ac, akeys⟩] ++ [⟨1 + Dk, o6, n, c6, K⟩], by go_num, by omega, (by simp), M5.out, HAS2.out, HFT2.out⟩
                case measure => first | (simp [intOf]; done) | (simp [intOf]; omega)

              | false =>
                go_wp2_with fail
                refine wp_region_kin (by kernel_rfl) (by kernel_rfl) w4.heap.size 0 (by simp) (fun hk => ?_)
                repeat (go_big_quiet_step ((go_at_call 39; with_reducible exact Calls.kin (CB.out _ (Lk.ok.next (Lk.own.ok OA.out) (Kin.below _)) (Lk.ok.next (Lk.own.ok O4.out) (Kin.below _))))))
                refine wpQuiet_nil ?_
                clear hk
                intro W4 hb
                replace M4 := Lib.hid (M4.out.next hb)
                replace O4 := Lib.hid (show Lk.own W4 w.heap.size ⟨1 + Dk, o6, n, c6, K⟩ from Sq.Own.next O4.out hb)
                replace RQ := Lib.hid (RQ.out.next hb)
                replace OA := Lib.hid (show Lk.own W4 w.heap.size ⟨aneed, ao, an, ac, akeys⟩ from Sq.Own.next OA.out hb)
                clear o0 o1 lbo
                obtain ⟨bo2, fo2, hbo, lbo, o0, o1⟩ := lk_at (k := 0) (own_sv' M4.out.ow.2.2.1) rfl
                cases hbo
                simp only [Nat.zero_mul, Nat.add_zero] at o0 o1
                clear hb d5 fd5 ld q0 q1 lq RL
                have RL := Lib.hid M4.out.rl
                unfold Lb.cells at RL
                have d5 := RL.out.cell 5
                have ld := RL.out.lt
                simp only [List.getElem?_cons_zero, List.getElem?_cons_succ] at d5
                have fd5 := RL.out.frozen 5
                have q0 := RQ.out.cell 0
                have q1 := RQ.out.cell 1
                have lq := RQ.out.lt
                simp only [List.getElem?_cons_zero, List.getElem?_cons_succ] at q0 q1
                go_wp2_with fail
                refine wp_region_kin (by kernel_rfl) (by kernel_rfl) W4.heap.size 0 (by simp) (fun hk => ?_)
                repeat (go_big_quiet_step ((go_at_call 39; with_reducible exact Calls.kin (CE.out _ (Lk.ok.next (Lk.own.ok OA.out) (Kin.below _)) (Lk.ok.next (Lk.own.ok O4.out) (Kin.below _))))))
                refine wpQuiet_nil ?_
                clear hk
                intro W5 hb
                replace M4 := Lib.hid (M4.out.next hb)
                replace O4 := Lib.hid (show Lk.own W5 w.heap.size ⟨1 + Dk, o6, n, c6, K⟩ from Sq.Own.next O4.out hb)
                replace RQ := Lib.hid (RQ.out.next hb)
                replace OA := Lib.hid (show Lk.own W5 w.heap.size ⟨aneed, ao, an, ac, akeys⟩ from Sq.Own.next OA.out hb)
                clear o0 o1 lbo
                obtain ⟨bo2, fo2, hbo, lbo, o0, o1⟩ := lk_at (k := 0) (own_sv' M4.out.ow.2.2.1) rfl
                cases hbo
                simp only [Nat.zero_mul, Nat.add_zero] at o0 o1
                clear hb d5 fd5 ld q0 q1 lq RL
                have RL := Lib.hid M4.out.rl
                unfold Lb.cells at RL
                have d5 := RL.out.cell 5
                have ld := RL.out.lt
                simp only [List.getElem?_cons_zero, List.getElem?_cons_succ] at d5
                have fd5 := RL.out.frozen 5
                have q0 := RQ.out.cell 0
                have q1 := RQ.out.cell 1
                have lq := RQ.out.lt
                simp only [List.getElem?_cons_zero, List.getElem?_cons_succ] at q0 q1
                cases z2 with
                | true =>
                  have HAS2 := Lib.hid (show ascB (ltB cmpA) (([⟨1 + Dk, o6, n, c6, K⟩, ⟨aneed, ao, an, ac, akeys⟩] : List Lk).map pK) = true from by show (ltB cmpA (1 + Dk, K) (aneed, akeys) && true) = true; rw [HZ.out.2]; rfl)
                  have HFT2 := Lib.hid (show ∀ q ∈ ([⟨1 + Dk, o6, n, c6, K⟩, ⟨aneed, ao, an, ac, akeys⟩] : List Lk), fitA (pK q) = true from fun q hq => by rcases List.mem_cons.1 hq with h | h; rw [h]; exact FQ.out; exact HFT.out q h)
                  go_wp2_with fail
                  go_region
                  all_goals
                    have hM6 := mg_two_k M4.out O4.out OA.out HP.out.1 HP.out.2.1 HP.out.2.2
                    dsimp only at hM6
                    have M6 := Lib.hid hM6
                    clear hM6
                    go_wp2_with fail
                    go_roundw
                    case rel => exact ⟨1 + 1, some ⟨W5.heap.size, 0, none⟩, 2, 2, [⟨1 + Dk, o6, n, c6, K⟩, ⟨aneed, ao, an, ac, akeys⟩], by go_num, by omega, (by simp), M6.out, HAS2.out, HFT2.out⟩
                    case measure => first | (simp [intOf]; done) | (simp [intOf]; omega)
                | false =>
                  go_wp2_with fail
                  go_roundw
                  case rel => exact ⟨1 + 1, some ⟨bo, fo, none⟩, 1, lc, [⟨aneed, ao, an, ac, akeys⟩], by go_num, by omega, (by simp), M4.out, HAS.out, HFT.out⟩
                  case measure => first | (simp [intOf]; done) | (simp [intOf]; omega)


        · obtain rfl : k = 2 := by omega
          have RR := Lib.hid M.out.rr
          have RL := Lib.hid M.out.rl
          unfold Lb.cells at RL
          have d0 := RL.out.cell 0
          have d1 := RL.out.cell 1
          have d2 := RL.out.cell 2
          have d3 := RL.out.cell 3
          have d4 := RL.out.cell 4
          have d5 := RL.out.cell 5
          have ld := RL.out.lt
          simp only [List.getElem?_cons_zero, List.getElem?_cons_succ] at d0 d1 d2 d3 d4 d5
          have r0 := RR.out.cell 0
          have r1 := RR.out.cell 1
          have r2 := RR.out.cell 2
          have r3 := RR.out.cell 3
          have r4 := RR.out.cell 4
          have r5 := RR.out.cell 5
          have lr := RR.out.lt
          simp only [List.getElem?_cons_zero, List.getElem?_cons_succ] at r0 r1 r2 r3 r4 r5
          have fr0 := RR.out.frozen 0
          have fr1 := RR.out.frozen 1
          have fr2 := RR.out.frozen 2
          have fr3 := RR.out.frozen 3
          have fr4 := RR.out.frozen 4
          have fr5 := RR.out.frozen 5
          have HV := Lib.hid (show Vd (Lb.p ⟨D0 * 10, o, l1.length, c, l1, o5, n5, c5, cs, 255 - D3, 255 - D4, lo, ln, lc, lk⟩) by
            exact made_vd HD.out N1.out HC.out HLK.out HAS.out HFT.out)
          go_wp2_with fail
          refine bodyPost_named fun WW hq => ?_
          have RXn := Lib.hid (show Row WW _ _ _ from by rw [hq]; exact ((((((RR.out.set 0 (.int .i64 (D0 * 10))).set 1 (.slice o l1.length c)).set 2 (.slice o5 n5 c5)).set 3 (.int .i64 (255 - D3))).set 4 (.int .i64 (255 - D4))).set 5 (.slice lo ln lc)))
          have BB6 := Lib.hid (show Below w.heap.size w WW from by rw [hq]; exact set6_below M.out.below HN.out.2.2.2.1)
          have OW6 := Lib.hid (show Lb.own WW w.heap.size ⟨D0 * 10, o, l1.length, c, l1, o5, n5, c5, cs, 255 - D3, 255 - D4, lo, ln, lc, lk⟩ from by rw [hq]; exact lb_set6 M.out.ow RR.out)
          clear hq
          have xr0 := RXn.out.cell 0
          have xr1 := RXn.out.cell 1
          have xr2 := RXn.out.cell 2
          have xr3 := RXn.out.cell 3
          have xr4 := RXn.out.cell 4
          have xr5 := RXn.out.cell 5
          simp only [List.set_cons_zero, List.set_cons_succ, List.getElem?_cons_zero, List.getElem?_cons_succ] at xr0 xr1 xr2 xr3 xr4 xr5
          refine bodyPost_ret (v := .agg #[.int .i64 (D0 * 10), .slice o l1.length c, .slice o5 n5 c5, .int .i64 (255 - D3), .int .i64 (255 - D4), .slice lo ln lc]) (by first | (simp [results, Tryz.results12, go_sem]; done) | simp [results, Tryz.results12, go_sem, *]) rfl ⟨⟨⟨D0 * 10, o, l1.length, c, l1, o5, n5, c5, cs, 255 - D3, 255 - D4, lo, ln, lc, lk⟩, rfl, OW6.out, HV.out, HLK.out⟩, BB6.out⟩
end Lb
end Go.Proofs.YthjolojpjajppaaGreat
