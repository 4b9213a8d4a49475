/- Integers as strings: read; differences. -/
/- The greatest common divisor of numbers. -/
/- Numbers with signs: products. -/
/- Numbers with signs: quotients and remainders. -/
import Derived.Test.YtlehjmanlccncaaGreatDoorIntGG
set_option linter.unusedVariables false
set_option linter.unusedSimpArgs false
namespace Go.Proofs.YtlehjmanlccncaaGreatDoor
open Go.RowKit

set_option maxRecDepth 100000 in
set_option maxHeartbeats 1000000 in
theorem read_ok (a b : ByteArray) (w : World) (ha : In.validL a.data.toList = true) (hb : In.validL b.data.toList = true) :
    Calls Tryz.prog 75 #[.string a, .string b] w fun e w' => ∃ u v, e = .returned (.tuple #[u, v, .bool true]) ∧ NumV w' u (In.valL a.data.toList) ∧ NumV w' v (In.valL b.data.toList) ∧ Below w.heap.size w w' := by
  have CA := Lib.hid (fun W => valid_any a W)
  have CB := Lib.hid (fun W => valid_any b W)
  rw [ha] at CA
  rw [hb] at CB
  have PA := Lib.hid (fun W => parse_any a W ha)
  have PB := Lib.hid (fun W => parse_any b W hb)
  generalize In.valL a.data.toList = x at *
  generalize In.valL b.data.toList = y at *
  clear ha hb
  go_enter Tryz.func75, Tryz.ntmps75
  go_upto_region 3 with (go_at_call 57; first | (with_reducible refine Calls.mono (CA.out _) ?_; rintro e w' ⟨rfl, rfl⟩) | (with_reducible refine Calls.mono (CB.out _) ?_; rintro e w' ⟨rfl, rfl⟩))
  refine wp_named fun w1 hw => ?_
  obtain ⟨b1, hb1⟩ : ∃ x, x = w.heap.size := ⟨_, rfl⟩
  obtain ⟨b2, hb2⟩ : ∃ x, x = w.heap.size + 1 := ⟨_, rfl⟩
  have R1 : Row w1 b1 91 zeroN ∧ Row w1 b2 91 zeroN ∧ Below w.heap.size w w1 := by
    rw [hw, hb1, hb2]
    exact boxes1 w _ zeroN zeroN
  rw [← hb2, ← hb1]
  have HR := Lib.hid R1
  have HE := Lib.hid (show w.heap.size ≤ b1 ∧ w.heap.size ≤ b2 ∧ b1 ≠ b2 from by omega)
  clear hw R1 hb1 hb2 CA CB
  go_wp2_with fail
  refine Calls.mono (PA.out _) ?_
  rintro e w2 ⟨u, rfl, hn, hb⟩
  have HA := Lib.hid (And.intro hn hb)
  clear hn hb
  go_wp2_with fail
  refine Calls.mono (PB.out _) ?_
  rintro e w3 ⟨v, rfl, hn, hb⟩
  have hB := Below.andThen HA.out.2 hb
  have hR1 := HR.out.1.next hB
  have hR2 := HR.out.2.1.next hB
  have p0 := (Row.cell hR1 0).trans (show _ = some (.slice none 0 0) from rfl)
  have p1 := (Row.cell hR1 1).trans (show _ = some (.bool false) from rfl)
  have p2 := (Row.cell hR2 0).trans (show _ = some (.slice none 0 0) from rfl)
  have p3 := (Row.cell hR2 1).trans (show _ = some (.bool false) from rfl)
  have f0 := Row.frozen hR1 0
  have f1 := Row.frozen hR1 1
  have f2 := Row.frozen hR2 0
  have f3 := Row.frozen hR2 1
  have hq := HA.out.1.next hb
  have HBB := Lib.hid (Below.andThen HR.out.2.2 hB)
  obtain ⟨q1, q2, q3, q4, rfl, _, _, _⟩ := hq.form
  obtain ⟨t1, t2, t3, t4, rfl, _, _, _⟩ := hn.form
  have HRR := Lib.hid (And.intro hR1 (And.intro hR2 (And.intro hq hn)))
  have hne := HE.out.2.2
  clear hn hb hB hR1 hR2 hq PA PB
  go_wp2_with fail
  refine bodyPost_ret (v := .tuple #[.agg #[.slice q1 q2 q3, .bool q4], .agg #[.slice t1 t2 t3, .bool t4], .bool true]) (by first | (simp [results, Tryz.results75, go_sem]; done) | simp [results, Tryz.results75, go_sem, *]) rfl ?_
  obtain ⟨g3, g4, gq, gr⟩ := HRR.out
  have u1 := g3.set 0 (.slice q1 q2 q3)
  have u2 := (g4.other (Ne.symm hne) 0 (.slice q1 q2 q3)).other (Ne.symm hne) 1 (.bool q4)
  have u3 := u2.set 0 (.slice t1 t2 t3)
  exact ⟨_, _, rfl, NumV.store u3 (NumV.store u2 (NumV.store u1 (NumV.store g3 gq))), NumV.store u3 (NumV.store u2 (NumV.store u1 (NumV.store g3 gr))),
    (((HBB.out.setCell (p := ⟨b1, 0, none⟩) HE.out.1 _).setCell (p := ⟨b1, 1, none⟩) HE.out.1 _).setCell (p := ⟨b2, 0, none⟩) HE.out.2.1 _).setCell (p := ⟨b2, 1, none⟩) HE.out.2.1 _⟩
set_option maxRecDepth 100000 in
set_option maxHeartbeats 1000000 in
theorem read_bad (a b : ByteArray) (w : World) (h : (In.validL a.data.toList && In.validL b.data.toList) = false) :
    Calls Tryz.prog 75 #[.string a, .string b] w fun e w' => e = .returned (.tuple #[.agg #[.slice none 0 0, .bool false], .agg #[.slice none 0 0, .bool false], .bool false]) ∧ Below w.heap.size w w' := by
  have CA := Lib.hid (fun W => valid_any a W)
  have CB := Lib.hid (fun W => valid_any b W)
  cases ha : In.validL a.data.toList
  · rw [ha] at CA
    clear h ha
    go_enter Tryz.func75, Tryz.ntmps75
    go_wp2_with (go_at_call 57; first | (with_reducible refine Calls.mono (CA.out _) ?_; rintro e w' ⟨rfl, rfl⟩) | (with_reducible refine Calls.mono (CB.out _) ?_; rintro e w' ⟨rfl, rfl⟩))
    refine bodyPost_ret (v := .tuple #[.agg #[.slice none 0 0, .bool false], .agg #[.slice none 0 0, .bool false], .bool false]) (by first | (simp [results, Tryz.results75, go_sem]; done) | simp [results, Tryz.results75, go_sem, *]) rfl ⟨rfl, by (repeat' first | exact Below.refl _ _ | assumption | (refine below_drewN ?_ _) | (refine Below.drew ?_) | (refine Below.alloc ?_ ?_ _) | (refine Below.setCell ?_ ?_ _) | (simp; done) | (simp; omega) | omega)⟩
  · rw [ha, Bool.true_and] at h
    rw [ha] at CA
    rw [h] at CB
    clear h ha
    go_enter Tryz.func75, Tryz.ntmps75
    go_wp2_with (go_at_call 57; first | (with_reducible refine Calls.mono (CA.out _) ?_; rintro e w' ⟨rfl, rfl⟩) | (with_reducible refine Calls.mono (CB.out _) ?_; rintro e w' ⟨rfl, rfl⟩))
    refine bodyPost_ret (v := .tuple #[.agg #[.slice none 0 0, .bool false], .agg #[.slice none 0 0, .bool false], .bool false]) (by first | (simp [results, Tryz.results75, go_sem]; done) | simp [results, Tryz.results75, go_sem, *]) rfl ⟨rfl, by (repeat' first | exact Below.refl _ _ | assumption | (refine below_drewN ?_ _) | (refine Below.drew ?_) | (refine Below.alloc ?_ ?_ _) | (refine Below.setCell ?_ ?_ _) | (simp; done) | (simp; omega) | omega)⟩

set_option maxRecDepth 100000 in
set_option maxHeartbeats 2000000 in
theorem subZ_any (u v : Value) (x y : Int) (w : World) (hu : NumV w u x) (hv : NumV w v y) (lx : (In.gs x.natAbs).length ≤ 1000) (ly : (In.gs y.natAbs).length ≤ 1000) :
    Calls Tryz.prog 99 #[u, v] w fun e w' => ∃ r, e = .returned r ∧ NumV w' r (x - y) ∧ Below w.heap.size w w' := by
  have HS := Lib.hid (And.intro hu hv)
  obtain ⟨o, L, c, s, rfl, _, _, _⟩ := hu.form
  obtain ⟨o', L', c', s', rfl, _, _, _⟩ := hv.form
  have HZ := Lib.hid (show x + -y = x - y from rfl)
  have ln : (In.gs (-y).natAbs).length ≤ 1000 := by rw [Int.natAbs_neg]; exact ly
  clear hu hv
  go_enter Tryz.func99, Tryz.ntmps99
  go_upto_region 1 with (fail)
  refine wp_named fun w1 hw => ?_
  obtain ⟨b1, hb1⟩ : ∃ x, x = w.heap.size := ⟨_, rfl⟩
  obtain ⟨b2, hb2⟩ : ∃ x, x = w.heap.size + 1 := ⟨_, rfl⟩
  obtain ⟨b3, hb3⟩ : ∃ x, x = w.heap.size + 1 + 1 := ⟨_, rfl⟩
  have R1 : Row w1 b1 91 [.slice o L c, .bool s] ∧ Row w1 b2 91 [.slice o' L' c', .bool s'] ∧ Row w1 b3 91 zeroN ∧ Below w.heap.size w w1 := by
    rw [hw, hb1, hb2, hb3]
    exact boxes2 w _ [.slice o L c, .bool s] [.slice o' L' c', .bool s'] zeroN
  rw [← hb3, ← hb2, ← hb1]
  have HR := Lib.hid R1
  have HE := Lib.hid hb3
  have h00 : Below w1.heap.size w1 w1.drew := (Below.refl _ _).drew
  have k0 : w1.drew.cell? ⟨b1, 0, none⟩ = some (.slice o L c) := Row.cell R1.1 0
  have k1 : w1.drew.cell? ⟨b1, 1, none⟩ = some (.bool s) := Row.cell R1.1 1
  have k2 : w1.drew.cell? ⟨b2, 0, none⟩ = some (.slice o' L' c') := Row.cell R1.2.1 0
  have k3 : w1.drew.cell? ⟨b2, 1, none⟩ = some (.bool s') := Row.cell R1.2.1 1
  have CN := Lib.hid (neg_any (.agg #[.slice o' L' c', .bool s']) y w1.drew (HS.out.2.next (R1.2.2.2.drew)))
  clear hw R1 hb1 hb2 hb3
  go_region_law (first
    | (go_simp; go_at_call 100; with_reducible refine Calls.mono CN.out ?_; rintro e wa ⟨r1, rfl, hn1, hb1⟩; have HA := Lib.hid (And.intro hn1 (Below.andThen h00 hb1)); have k4 := (Row.cell (HR.out.1.next HA.out.2) 0).trans (show _ = some (.slice o L c) from rfl); have k5 := (Row.cell (HR.out.1.next HA.out.2) 1).trans (show _ = some (.bool s) from rfl); clear hn1 hb1)
    | (go_simp; go_at_call 96; with_reducible refine Calls.mono (plusZ_any (.agg #[.slice o L c, .bool s]) r1 x (-y) _ (HS.out.1.next (Below.andThen HR.out.2.2.2 HA.out.2)) HA.out.1 lx ln) ?_; rintro e wb ⟨r2, rfl, hn2, hb2⟩; have hB := Below.andThen HA.out.2 hb2; have hR2 := HR.out.2.2.1.next hB; have k6 := (Row.cell hR2 0).trans (show _ = some (.slice none 0 0) from rfl); have k7 := (Row.cell hR2 1).trans (show _ = some (.bool false) from rfl); have f6 := Row.frozen hR2 0; have f7 := Row.frozen hR2 1; rw [HZ.out] at hn2; obtain ⟨o3, L3, c3, s3, rfl, _, _, _⟩ := hn2.form; have HF := Lib.hid (And.intro (num_store hR2 hn2) hB); clear hn2 hb2 hB hR2))
  all_goals (
    go_simp
    go_wp2_with fail
    refine bodyPost_ret (v := .agg #[.slice o3 L3 c3, .bool s3]) (by first | (simp [results, Tryz.results99, go_sem]; done) | simp [results, Tryz.results99, go_sem, *]) rfl ⟨_, rfl, HF.out.1.1, (Below.andThen HR.out.2.2.2 HF.out.2).trans (HF.out.1.2.1.mono (by have := HE.out; omega))⟩)
end Go.Proofs.YtlehjmanlccncaaGreatDoor
set_option linter.unusedVariables false
set_option linter.unusedSimpArgs false
namespace Go.Proofs.YtlehjmanlccncaaGreatDoor
open Go.RowKit

theorem NSl.inj {w : World} {v : Value} {n m : Nat} (h : NSl w v n) (k : NSl w v m) : n = m := by
  obtain ⟨o, c, rfl, h1, h2, h3, h4⟩ := h.ex
  obtain ⟨o', c', e, k1, k2, k3, k4⟩ := k.ex
  have hl : (In.gs n).length = (In.gs m).length := by injection e
  have ho : o = o' := by injection e
  subst ho
  refine In.gr_inj (B := 10000) (by decide) ?_
  apply List.ext_getElem? 
  intro j
  rcases Nat.lt_or_ge j (In.gs n).length with hj | hj
  · rcases h4 with h4 | ⟨b, off, rfl, hb, hc⟩
    · rw [h4] at hj; simp at hj
    · rcases k4 with k4 | ⟨b', off', e', hb', hc'⟩
      · rw [k4] at hl; simp at hl; rw [hl] at hj; simp at hj
      · cases e'
        have a1 := hc j _ (List.getElem?_eq_getElem hj)
        have a2 := hc' j _ (List.getElem?_eq_getElem (by rw [← hl]; exact hj))
        rw [a1] at a2
        injection a2 with a3
        injection a3 with _ a4
        show (In.gs n)[j]? = (In.gs m)[j]?
        rw [List.getElem?_eq_getElem hj, List.getElem?_eq_getElem (by rw [← hl]; exact hj)]
        congr 1
        omega
  · show (In.gs n)[j]? = (In.gs m)[j]?
    rw [List.getElem?_eq_none hj, List.getElem?_eq_none (by omega)]
/-- how many groups -/
def GLe (n k : Nat) : Prop := (In.gs n).length ≤ k
open Classical in
/-- the number that a slice holds -/
noncomputable def natOf (w : World) (v : Value) : Nat := if h : ∃ n, NSl w v n then Classical.choose h else 0
theorem natOf_is {w : World} {v : Value} {n : Nat} (h : NSl w v n) : natOf w v = n := by
  have h0 : ∃ n, NSl w v n := ⟨n, h⟩
  unfold natOf
  rw [dif_pos h0]
  exact NSl.inj (Classical.choose_spec h0) h
set_option maxRecDepth 100000 in
set_option maxHeartbeats 2000000 in
theorem gcdZ_any (u v : Value) (x y : Int) (w : World) (hu : NumV w u x) (hv : NumV w v y) (lx : (In.gs x.natAbs).length ≤ 900) (ly : (In.gs y.natAbs).length ≤ 900) :
    Calls Tryz.prog 91 #[u, v] w fun e w' => ∃ r, e = .returned r ∧ NumV w' r (In.gcdZ x y) ∧ Below w.heap.size w w' := by
  obtain ⟨o, L, c, s, rfl, hs, -, hsn⟩ := hu.form
  obtain ⟨o', L', c', s', rfl, hs', -, hsn'⟩ := hv.form
  have HS := Lib.hid (And.intro hs hs')
  obtain ⟨G, hG⟩ : ∃ G, G = Nat.gcd x.natAbs y.natAbs := ⟨_, rfl⟩
  have HG := Lib.hid hG
  show Calls _ _ _ _ fun e w' => ∃ r, e = .returned r ∧ NumV w' r ((Nat.gcd x.natAbs y.natAbs : Nat) : Int) ∧ Below w.heap.size w w'
  rw [← hG]
  have HL := Lib.hid (And.intro lx ly)
  generalize x.natAbs = X at *
  generalize y.natAbs = Y at *
  clear hs hsn hu hs' hsn' hv hG lx ly
  go_enter Tryz.func91, Tryz.ntmps91
  go_upto_region 1 with (fail)
  refine wp_named fun w1 hw => ?_
  obtain ⟨b1, hb1⟩ : ∃ x, x = w.heap.size := ⟨_, rfl⟩
  obtain ⟨b2, hb2⟩ : ∃ x, x = w.heap.size + 1 := ⟨_, rfl⟩
  obtain ⟨b3, hb3⟩ : ∃ x, x = w.heap.size + 1 + 1 := ⟨_, rfl⟩
  have R1 : Row w1 b1 91 [.slice o L c, .bool s] ∧ Row w1 b2 91 [.slice o' L' c', .bool s'] ∧ Row w1 b3 91 zeroN ∧ Below w.heap.size w w1 := by
    rw [hw, hb1, hb2, hb3]
    exact boxes2 w _ [.slice o L c, .bool s] [.slice o' L' c', .bool s'] zeroN
  rw [← hb3, ← hb2, ← hb1]
  have HR := Lib.hid R1
  have HE := Lib.hid hb3
  have k0 := (Row.cell R1.1 0).trans (show _ = some (.slice o L c) from rfl)
  have k2 := (Row.cell R1.2.1 0).trans (show _ = some (.slice o' L' c') from rfl)
  clear hw R1 hb1 hb2 hb3
  refine wp_region_quiet_lit (by kernel_rfl) (by kernel_rfl) ?_
  repeat (go_big_quiet_step (fail))
  refine wpQuiet_nil ?_
  rintro _ ⟨nq, rfl⟩
  clear k0 k2
  have HB1 := Lib.hid (below_drewN HR.out.2.2.2 nq)
  have HR3 := Lib.hid (show Row (w1.drewN nq) b3 91 zeroN from HR.out.2.2.1.next (below_drewN (Below.refl _ _) nq))
  generalize w1.drewN nq = w2 at *
  clear HR
  go_wp2_with fail
  go_loopw [5, 6] (fun nv mv wr => ∃ N M, NSl wr nv N ∧ NSl wr mv M ∧ Nat.gcd N M = G ∧ (In.gs N).length ≤ 900 ∧ (In.gs M).length ≤ 900 ∧ Row wr b3 91 zeroN ∧ Below w.heap.size w wr) (fun _ mv wr => natOf wr mv)
  case atStart => exact ⟨X, Y, HS.out.1.next HB1.out, HS.out.2.next HB1.out, HG.out.symm, HL.out.1, HL.out.2, HR3.out, HB1.out⟩
  case round =>
    obtain ⟨N, M, hn, hm, hg, lN, lM, hR, hB⟩ := hrel
    have hmeas := Lib.hid (natOf_is hm)
    have HNM := Lib.hid (And.intro hn (And.intro hm (And.intro hg (And.intro hR hB))))
    have hM0 := In.gs_nil (n := M)
    obtain ⟨o1, c1, rfl, _⟩ := hn.ex
    obtain ⟨o2, c2, rfl, _⟩ := hm.ex
    clear hg hR hB hn hm HR3 HB1
    by_cases h0 : M = 0
    · subst h0
      have e0 : (In.gs 0).length = 0 := rfl
      have hgg : N = G := by
        have := HNM.out.2.2.1
        rwa [Nat.gcd_zero_right] at this
      subst hgg
      have CS := Lib.hid (signed_any (.slice o1 (In.gs N).length c1) N false wr HNM.out.1)
      generalize (In.gs N).length = LN at *
      rw [e0]
      clear hM0 e0
      go_wp2_with fail
      refine Calls.mono CS.out ?_
      rintro e w3 ⟨r, rfl, hn2, hb⟩
      have hn2 : NumV w3 r (N : Int) := hn2
      have hR2 := HNM.out.2.2.2.1.next hb
      have k6 := (Row.cell hR2 0).trans (show _ = some (.slice none 0 0) from rfl)
      have k7 := (Row.cell hR2 1).trans (show _ = some (.bool false) from rfl)
      have f6 := Row.frozen hR2 0
      have f7 := Row.frozen hR2 1
      obtain ⟨o3, L3, c3, s3, rfl, _, _, _⟩ := hn2.form
      have HF := Lib.hid (And.intro (num_store hR2 hn2) (Below.andThen HNM.out.2.2.2.2 hb))
      clear hn2 hb hR2
      go_wp2_with fail
      refine bodyPost_ret (v := .agg #[.slice o3 L3 c3, .bool s3]) (by first | (simp [results, Tryz.results91, go_sem]; done) | simp [results, Tryz.results91, go_sem, *]) rfl ⟨_, rfl, HF.out.1.1, HF.out.2.trans (HF.out.1.2.1.mono (by have := HE.out; omega))⟩
    · have hp : 0 < M := by omega
      have CO := Lib.hid (over_any (.slice o1 (In.gs N).length c1) (.slice o2 (In.gs M).length c2) N M wr HNM.out.1 HNM.out.2.1 hp lN lM)
      have HLM : GLe M 900 ∧ GLe (N % M) 900 := (And.intro lM (Nat.le_trans (gs_len_le (Nat.le_of_lt (Nat.mod_lt N hp))) lM))
      have HG2 := Lib.hid (show Nat.gcd M (N % M) = G from by
        have h1 := HNM.out.2.2.1
        rw [Nat.gcd_comm, Nat.gcd_rec, Nat.gcd_comm] at h1
        exact h1)
      have hlt := Lib.hid (Nat.mod_lt N hp)
      have hpos : 0 < (In.gs M).length := by
        rcases Nat.eq_zero_or_pos (In.gs M).length with h | h
        · exact absurd (hM0.1 h) h0
        · exact h
      clear lN lM hM0 h0
      generalize (In.gs M).length = LM at *
      generalize (In.gs N).length = LN at *
      go_wp2_with fail
      refine Calls.mono CO.out ?_
      rintro e w3 ⟨q, r, rfl, hq, hr, hb⟩
      have HK := Lib.hid (And.intro hr hb)
      clear hq hr hb
      go_wp2_with fail
      go_roundw
      case rel => exact ⟨M, N % M, HNM.out.2.1.next HK.out.2, HK.out.1, HG2.out, HLM.1, HLM.2, HNM.out.2.2.2.1.next HK.out.2, Below.andThen HNM.out.2.2.2.2 HK.out.2⟩
      case measure => rw [natOf_is HK.out.1, hmeas.out]; exact hlt.out
end Go.Proofs.YtlehjmanlccncaaGreatDoor
set_option linter.unusedVariables false
set_option linter.unusedSimpArgs false
namespace Go.Proofs.YtlehjmanlccncaaGreatDoor
open Go.RowKit

set_option maxRecDepth 100000 in
set_option maxHeartbeats 2000000 in
theorem timesZ_any (u v : Value) (x y : Int) (w : World) (hu : NumV w u x) (hv : NumV w v y) (hl : (In.gs x.natAbs).length + (In.gs y.natAbs).length ≤ 900) :
    Calls Tryz.prog 98 #[u, v] w fun e w' => ∃ r, e = .returned r ∧ NumV w' r (x * y) ∧ Below w.heap.size w w' := by
  obtain ⟨o, L, c, s, rfl, hs, -, hsn⟩ := hu.form
  obtain ⟨o', L', c', s', rfl, hs', -, hsn'⟩ := hv.form
  have HS := Lib.hid hs
  have HS' := Lib.hid hs'
  have HZ := Lib.hid (show In.sgn (x.natAbs * y.natAbs) (!(s == s')) = x * y from by
    have h := In.sgn_times x.natAbs y.natAbs s s'
    rw [← hsn, ← hsn', In.sgn_neg, In.sgn_neg] at h
    rw [h, ← hsn, ← hsn']
    rfl)
  clear hs hsn hu hs' hsn' hv
  go_enter Tryz.func98, Tryz.ntmps98
  go_upto_region 1 with (fail)
  refine wp_named fun w1 hw => ?_
  obtain ⟨b1, hb1⟩ : ∃ x, x = w.heap.size := ⟨_, rfl⟩
  obtain ⟨b2, hb2⟩ : ∃ x, x = w.heap.size + 1 := ⟨_, rfl⟩
  obtain ⟨b3, hb3⟩ : ∃ x, x = w.heap.size + 1 + 1 := ⟨_, rfl⟩
  have R1 : Row w1 b1 91 [.slice o L c, .bool s] ∧ Row w1 b2 91 [.slice o' L' c', .bool s'] ∧ Row w1 b3 91 zeroN ∧ Below w.heap.size w w1 := by
    rw [hw, hb1, hb2, hb3]
    exact boxes2 w _ [.slice o L c, .bool s] [.slice o' L' c', .bool s'] zeroN
  rw [← hb3, ← hb2, ← hb1]
  have HR := Lib.hid R1
  have HE := Lib.hid hb3
  have h00 : Below w1.heap.size w1 w1.drew := (Below.refl _ _).drew
  have k0 : w1.drew.cell? ⟨b1, 0, none⟩ = some (.slice o L c) := Row.cell R1.1 0
  have k1 : w1.drew.cell? ⟨b1, 1, none⟩ = some (.bool s) := Row.cell R1.1 1
  have k2 : w1.drew.cell? ⟨b2, 0, none⟩ = some (.slice o' L' c') := Row.cell R1.2.1 0
  have k3 : w1.drew.cell? ⟨b2, 1, none⟩ = some (.bool s') := Row.cell R1.2.1 1
  have CT := Lib.hid (times_any (.slice o L c) (.slice o' L' c') x.natAbs y.natAbs w1.drew (HS.out.next (R1.2.2.2.drew)) (HS'.out.next (R1.2.2.2.drew)) hl)
  clear hw R1 hb1 hb2 hb3
  go_region_law (first
    | (go_simp; go_at_call 122; with_reducible refine Calls.mono CT.out ?_; rintro e wa ⟨r1, rfl, hn1, hb1⟩; have HA := Lib.hid (And.intro hn1 (Below.andThen h00 hb1)); have k4 := (Row.cell (HR.out.1.next HA.out.2) 1).trans (show _ = some (.bool s) from rfl); have k5 := (Row.cell (HR.out.2.1.next HA.out.2) 1).trans (show _ = some (.bool s') from rfl); clear hn1 hb1)
    | (go_simp; go_at_call 93; with_reducible refine Calls.mono (signed_any r1 (x.natAbs * y.natAbs) (!(s == s')) _ HA.out.1) ?_; rintro e wb ⟨r2, rfl, hn2, hb2⟩; have hB := Below.andThen HA.out.2 hb2; have hR2 := HR.out.2.2.1.next hB; have k6 := (Row.cell hR2 0).trans (show _ = some (.slice none 0 0) from rfl); have k7 := (Row.cell hR2 1).trans (show _ = some (.bool false) from rfl); have f6 := Row.frozen hR2 0; have f7 := Row.frozen hR2 1; rw [HZ.out] at hn2; obtain ⟨o3, L3, c3, s3, rfl, _, _, _⟩ := hn2.form; have HF := Lib.hid (And.intro (num_store hR2 hn2) hB); clear hn2 hb2 hB hR2))
  all_goals (
    go_simp
    go_wp2_with fail
    refine bodyPost_ret (v := .agg #[.slice o3 L3 c3, .bool s3]) (by first | (simp [results, Tryz.results98, go_sem]; done) | simp [results, Tryz.results98, go_sem, *]) rfl ⟨_, rfl, HF.out.1.1, (Below.andThen HR.out.2.2.2 HF.out.2).trans (HF.out.1.2.1.mono (by have := HE.out; omega))⟩)
end Go.Proofs.YtlehjmanlccncaaGreatDoor
set_option linter.unusedVariables false
set_option linter.unusedSimpArgs false
namespace Go.Proofs.YtlehjmanlccncaaGreatDoor
open Go.RowKit

theorem sgn_false (n : Nat) : In.sgn n false = (n : Int) := rfl
theorem boxes3 (w : World) (t : TypeId) (C D E F : List Value) : Row ((((w.alloc (.cells C.toArray t)).alloc (.cells D.toArray t)).alloc (.cells E.toArray t)).alloc (.cells F.toArray t)) w.heap.size t C ∧ Row ((((w.alloc (.cells C.toArray t)).alloc (.cells D.toArray t)).alloc (.cells E.toArray t)).alloc (.cells F.toArray t)) (w.heap.size + 1) t D ∧
    Row ((((w.alloc (.cells C.toArray t)).alloc (.cells D.toArray t)).alloc (.cells E.toArray t)).alloc (.cells F.toArray t)) (w.heap.size + 1 + 1) t E ∧ Row ((((w.alloc (.cells C.toArray t)).alloc (.cells D.toArray t)).alloc (.cells E.toArray t)).alloc (.cells F.toArray t)) (w.heap.size + 1 + 1 + 1) t F ∧
    Below w.heap.size w ((((w.alloc (.cells C.toArray t)).alloc (.cells D.toArray t)).alloc (.cells E.toArray t)).alloc (.cells F.toArray t)) := by
  obtain ⟨h1, h2, h3, h4⟩ := boxes2 w t C D E
  refine ⟨h1.alloc _, h2.alloc _, h3.alloc _, ?_, h4.alloc (by simp; omega) _⟩
  have := Row.new (((w.alloc (.cells C.toArray t)).alloc (.cells D.toArray t)).alloc (.cells E.toArray t)) t F
  rwa [World.size_alloc, World.size_alloc, World.size_alloc] at this

theorem one_nsl (w : World) : NSl (w.alloc (.cells #[.int .i64 1] 3)) (.slice (some ⟨w.heap.size, 0, none⟩) 1 1) 1 := by
  have e : In.gs 1 = [1] := by decide
  refine NSl.mk' (by rw [e]; rfl) (Nat.le_refl _) (by decide) (fun h => by cases h) ?_
  rw [e]
  exact row_sl (Row.new w 3 [natV 1])
set_option maxRecDepth 100000 in
set_option maxHeartbeats 4000000 in
theorem overZ_any (u v : Value) (x y : Int) (w : World) (hu : NumV w u x) (hv : NumV w v y) (hy : y ≠ 0) (lx : (In.gs x.natAbs).length ≤ 900) (ly : (In.gs y.natAbs).length ≤ 900) :
    Calls Tryz.prog 76 #[u, v] w fun e w' => ∃ q r, e = .returned (.tuple #[q, r]) ∧ NumV w' q (x / y) ∧ NumV w' r (x % y) ∧ Below w.heap.size w w' := by
  obtain ⟨o, L, c, s, rfl, hs, -, hsn⟩ := hu.form
  obtain ⟨o', L', c', s', rfl, hs', -, hsn'⟩ := hv.form
  have HS := Lib.hid hs
  have HS' := Lib.hid hs'
  have hb0 : 0 < y.natAbs := by omega
  have HD := Lib.hid (show x / y = In.sgn (if (s && decide (0 < x.natAbs % y.natAbs)) = true then x.natAbs / y.natAbs + 1 else x.natAbs / y.natAbs) (!(s == s')) ∧ x % y = ((if (s && decide (0 < x.natAbs % y.natAbs)) = true then y.natAbs - x.natAbs % y.natAbs else x.natAbs % y.natAbs : Nat) : Int) from by
    have h := In.div_sgn (a := x.natAbs) hb0 s s'
    have e1 : In.sgn x.natAbs s = x := by rw [← hsn, In.sgn_neg]
    have e2 : In.sgn y.natAbs s' = y := by rw [← hsn', In.sgn_neg]
    rw [e1, e2] at h
    exact h)
  have hmod := Nat.mod_lt x.natAbs hb0
  have lq : (In.gs (x.natAbs / y.natAbs)).length ≤ 900 := Nat.le_trans (gs_len_le (Nat.div_le_self _ _)) lx
  have lr : (In.gs (x.natAbs % y.natAbs)).length ≤ 900 := Nat.le_trans (gs_len_le (Nat.le_of_lt hmod)) ly
  have HLQ := Lib.hid (And.intro lq (And.intro lr ly))
  clear hs hsn hu hs' hsn' hv lq lr
  have CO := Lib.hid (fun W h h' => over_any (.slice o L c) (.slice o' L' c') x.natAbs y.natAbs W h h' hb0 lx ly)
  generalize hA : x.natAbs / y.natAbs = A at *
  generalize hM : x.natAbs % y.natAbs = M at *
  have HM := Lib.hid hmod
  clear hA hM hmod hy hb0 lx ly
  go_enter Tryz.func76, Tryz.ntmps76
  go_upto_region 1 with (fail)
  refine wp_named fun w1 hw => ?_
  obtain ⟨b1, hb1⟩ : ∃ x, x = w.heap.size := ⟨_, rfl⟩
  obtain ⟨b2, hb2⟩ : ∃ x, x = w.heap.size + 1 := ⟨_, rfl⟩
  obtain ⟨b3, hb3⟩ : ∃ x, x = w.heap.size + 1 + 1 := ⟨_, rfl⟩
  obtain ⟨b4, hb4⟩ : ∃ x, x = w.heap.size + 1 + 1 + 1 := ⟨_, rfl⟩
  have R1 : Row w1 b1 91 [.slice o L c, .bool s] ∧ Row w1 b2 91 [.slice o' L' c', .bool s'] ∧ Row w1 b3 91 zeroN ∧ Row w1 b4 91 zeroN ∧ Below w.heap.size w w1 := by
    rw [hw, hb1, hb2, hb3, hb4]
    exact boxes3 w _ [.slice o L c, .bool s] [.slice o' L' c', .bool s'] zeroN zeroN
  rw [← hb4, ← hb3, ← hb2, ← hb1]
  have HR := Lib.hid R1
  have HE := Lib.hid (show w.heap.size ≤ b3 ∧ w.heap.size ≤ b4 ∧ b3 ≠ b4 from by omega)
  have k0 := (Row.cell R1.1 0).trans (show _ = some (.slice o L c) from rfl)
  have k2 := (Row.cell R1.2.1 0).trans (show _ = some (.slice o' L' c') from rfl)
  clear hw R1 hb1 hb2 hb3 hb4
  go_wp2_with fail
  refine Calls.mono (CO.out _ (HS.out.next HR.out.2.2.2.2) (HS'.out.next HR.out.2.2.2.2)) ?_
  rintro e w3 ⟨q, r, rfl, hq, hr, hb⟩
  have KR := Lib.hid (And.intro (HR.out.1.next hb) (And.intro (HR.out.2.1.next hb) (And.intro (HR.out.2.2.1.next hb) (And.intro (HR.out.2.2.2.1.next hb) (Below.andThen HR.out.2.2.2.2 hb)))))
  have KN := Lib.hid (And.intro hq hr)
  have k1 := (Row.cell KR.out.1 1).trans (show _ = some (.bool s) from rfl)
  have k3 := (Row.cell KR.out.2.1 0).trans (show _ = some (.slice o' L' c') from rfl)
  obtain ⟨qo, qc, rfl, _⟩ := hq.ex
  obtain ⟨ro, rc, rfl, _⟩ := hr.ex
  clear hq hr hb k0 k2 CO HR
  have hM0 := In.gs_nil (n := M)
  generalize hQL : (In.gs A).length = QL at *
  have HQL := Lib.hid hQL
  clear hQL
  generalize (In.gs M).length = RL at *
  have h00 : Below w3.heap.size w3 w3.drew := (Below.refl _ _).drew
  have CM := Lib.hid (fun W (h : NSl W (.slice o' L' c') y.natAbs) (h' : NSl W (.slice ro RL rc) M) => minus_any (.slice o' L' c') (.slice ro RL rc) y.natAbs M W h h' (by have := HLQ.out; omega) (Nat.le_of_lt HM.out))
  have HYY := Lib.hid (HS'.out.next KR.out.2.2.2.2)
  cases s <;> cases s'
  · have KQ := Lib.hid (show In.sgn A false = x / y from by rw [HD.out.1]; rfl)
    have KE := Lib.hid (show (M : Int) = x % y from by rw [HD.out.2]; rfl)
    clear hM0 k3 HD h00 CM HYY HLQ HM HS HS'
    go_upto_region 4 with (fail)
    have CS1 := Lib.hid (fun W h => signed_any (.slice qo QL qc) A false W h)
    rw [KQ.out] at CS1
    have m1 := (Row.cell KR.out.1 1).trans (show _ = some (.bool false) from rfl)
    have m3 := (Row.cell KR.out.2.1 1).trans (show _ = some (.bool false) from rfl)
    go_wp2_with fail
    refine Calls.mono (CS1.out _ KN.out.1) ?_
    rintro e w4 ⟨r1, rfl, hn1, hb⟩
    have HA := Lib.hid (And.intro hn1 (And.intro hb (Below.andThen KR.out.2.2.2.2 hb)))
    clear hn1 hb m1 m3 CS1
    go_wp2_with fail
    refine Calls.mono (signed_any (.slice ro RL rc) M false _ (KN.out.2.next HA.out.2.1)) ?_
    rintro e w5 ⟨r2, rfl, hn2, hb⟩
    rw [sgn_false, KE.out] at hn2
    have hB := Below.andThen HA.out.2.1 hb
    have hR3 := KR.out.2.2.1.next hB
    have hR4 := KR.out.2.2.2.1.next hB
    have p0 := (Row.cell hR3 0).trans (show _ = some (.slice none 0 0) from rfl)
    have p1 := (Row.cell hR3 1).trans (show _ = some (.bool false) from rfl)
    have p2 := (Row.cell hR4 0).trans (show _ = some (.slice none 0 0) from rfl)
    have p3 := (Row.cell hR4 1).trans (show _ = some (.bool false) from rfl)
    have f0 := Row.frozen hR3 0
    have f1 := Row.frozen hR3 1
    have f2 := Row.frozen hR4 0
    have f3 := Row.frozen hR4 1
    have hq := HA.out.1.next hb
    have HBB := Lib.hid (Below.andThen HA.out.2.2 hb)
    obtain ⟨q1, q2, q3, q4, rfl, _, _, _⟩ := hq.form
    obtain ⟨t1, t2, t3, t4, rfl, _, _, _⟩ := hn2.form
    have HRR := Lib.hid (And.intro hR3 (And.intro hR4 (And.intro hq hn2)))
    have hne := HE.out.2.2
    clear hn2 hb hB hR3 hR4 hq
    go_wp2_with fail
    refine bodyPost_ret (v := .tuple #[.agg #[.slice q1 q2 q3, .bool q4], .agg #[.slice t1 t2 t3, .bool t4]]) (by first | (simp [results, Tryz.results76, go_sem]; done) | simp [results, Tryz.results76, go_sem, *]) rfl ?_
    obtain ⟨g3, g4, gq, gr⟩ := HRR.out
    have u1 := g3.set 0 (.slice q1 q2 q3)
    have u2 := (g4.other (Ne.symm hne) 0 (.slice q1 q2 q3)).other (Ne.symm hne) 1 (.bool q4)
    have u3 := u2.set 0 (.slice t1 t2 t3)
    exact ⟨_, _, rfl, NumV.store u3 (NumV.store u2 (NumV.store u1 (NumV.store g3 gq))), NumV.store u3 (NumV.store u2 (NumV.store u1 (NumV.store g3 gr))),
      (((HBB.out.setCell (p := ⟨b3, 0, none⟩) HE.out.1 _).setCell (p := ⟨b3, 1, none⟩) HE.out.1 _).setCell (p := ⟨b4, 0, none⟩) HE.out.2.1 _).setCell (p := ⟨b4, 1, none⟩) HE.out.2.1 _⟩
  · have KQ := Lib.hid (show In.sgn A true = x / y from by rw [HD.out.1]; rfl)
    have KE := Lib.hid (show (M : Int) = x % y from by rw [HD.out.2]; rfl)
    clear hM0 k3 HD h00 CM HYY HLQ HM HS HS'
    go_upto_region 4 with (fail)
    have CS1 := Lib.hid (fun W h => signed_any (.slice qo QL qc) A true W h)
    rw [KQ.out] at CS1
    have m1 := (Row.cell KR.out.1 1).trans (show _ = some (.bool false) from rfl)
    have m3 := (Row.cell KR.out.2.1 1).trans (show _ = some (.bool true) from rfl)
    go_wp2_with fail
    refine Calls.mono (CS1.out _ KN.out.1) ?_
    rintro e w4 ⟨r1, rfl, hn1, hb⟩
    have HA := Lib.hid (And.intro hn1 (And.intro hb (Below.andThen KR.out.2.2.2.2 hb)))
    clear hn1 hb m1 m3 CS1
    go_wp2_with fail
    refine Calls.mono (signed_any (.slice ro RL rc) M false _ (KN.out.2.next HA.out.2.1)) ?_
    rintro e w5 ⟨r2, rfl, hn2, hb⟩
    rw [sgn_false, KE.out] at hn2
    have hB := Below.andThen HA.out.2.1 hb
    have hR3 := KR.out.2.2.1.next hB
    have hR4 := KR.out.2.2.2.1.next hB
    have p0 := (Row.cell hR3 0).trans (show _ = some (.slice none 0 0) from rfl)
    have p1 := (Row.cell hR3 1).trans (show _ = some (.bool false) from rfl)
    have p2 := (Row.cell hR4 0).trans (show _ = some (.slice none 0 0) from rfl)
    have p3 := (Row.cell hR4 1).trans (show _ = some (.bool false) from rfl)
    have f0 := Row.frozen hR3 0
    have f1 := Row.frozen hR3 1
    have f2 := Row.frozen hR4 0
    have f3 := Row.frozen hR4 1
    have hq := HA.out.1.next hb
    have HBB := Lib.hid (Below.andThen HA.out.2.2 hb)
    obtain ⟨q1, q2, q3, q4, rfl, _, _, _⟩ := hq.form
    obtain ⟨t1, t2, t3, t4, rfl, _, _, _⟩ := hn2.form
    have HRR := Lib.hid (And.intro hR3 (And.intro hR4 (And.intro hq hn2)))
    have hne := HE.out.2.2
    clear hn2 hb hB hR3 hR4 hq
    go_wp2_with fail
    refine bodyPost_ret (v := .tuple #[.agg #[.slice q1 q2 q3, .bool q4], .agg #[.slice t1 t2 t3, .bool t4]]) (by first | (simp [results, Tryz.results76, go_sem]; done) | simp [results, Tryz.results76, go_sem, *]) rfl ?_
    obtain ⟨g3, g4, gq, gr⟩ := HRR.out
    have u1 := g3.set 0 (.slice q1 q2 q3)
    have u2 := (g4.other (Ne.symm hne) 0 (.slice q1 q2 q3)).other (Ne.symm hne) 1 (.bool q4)
    have u3 := u2.set 0 (.slice t1 t2 t3)
    exact ⟨_, _, rfl, NumV.store u3 (NumV.store u2 (NumV.store u1 (NumV.store g3 gq))), NumV.store u3 (NumV.store u2 (NumV.store u1 (NumV.store g3 gr))),
      (((HBB.out.setCell (p := ⟨b3, 0, none⟩) HE.out.1 _).setCell (p := ⟨b3, 1, none⟩) HE.out.1 _).setCell (p := ⟨b4, 0, none⟩) HE.out.2.1 _).setCell (p := ⟨b4, 1, none⟩) HE.out.2.1 _⟩
  · by_cases h0 : RL = 0
    · have hm0 : M = 0 := hM0.1 h0
      have KQ := Lib.hid (show In.sgn A true = x / y from by rw [HD.out.1, hm0]; rfl)
      have KE := Lib.hid (show (M : Int) = x % y from by rw [HD.out.2, hm0]; rfl)
      subst h0
      clear hM0 k3 HD h00 CM HYY HLQ HM HS HS' hm0
      go_upto_region 4 with (fail)
      have CS1 := Lib.hid (fun W h => signed_any (.slice qo QL qc) A true W h)
      rw [KQ.out] at CS1
      have m1 := (Row.cell KR.out.1 1).trans (show _ = some (.bool true) from rfl)
      have m3 := (Row.cell KR.out.2.1 1).trans (show _ = some (.bool false) from rfl)
      go_wp2_with fail
      refine Calls.mono (CS1.out _ KN.out.1) ?_
      rintro e w4 ⟨r1, rfl, hn1, hb⟩
      have HA := Lib.hid (And.intro hn1 (And.intro hb (Below.andThen KR.out.2.2.2.2 hb)))
      clear hn1 hb m1 m3 CS1
      go_wp2_with fail
      refine Calls.mono (signed_any (.slice ro 0 rc) M false _ (KN.out.2.next HA.out.2.1)) ?_
      rintro e w5 ⟨r2, rfl, hn2, hb⟩
      rw [sgn_false, KE.out] at hn2
      have hB := Below.andThen HA.out.2.1 hb
      have hR3 := KR.out.2.2.1.next hB
      have hR4 := KR.out.2.2.2.1.next hB
      have p0 := (Row.cell hR3 0).trans (show _ = some (.slice none 0 0) from rfl)
      have p1 := (Row.cell hR3 1).trans (show _ = some (.bool false) from rfl)
      have p2 := (Row.cell hR4 0).trans (show _ = some (.slice none 0 0) from rfl)
      have p3 := (Row.cell hR4 1).trans (show _ = some (.bool false) from rfl)
      have f0 := Row.frozen hR3 0
      have f1 := Row.frozen hR3 1
      have f2 := Row.frozen hR4 0
      have f3 := Row.frozen hR4 1
      have hq := HA.out.1.next hb
      have HBB := Lib.hid (Below.andThen HA.out.2.2 hb)
      obtain ⟨q1, q2, q3, q4, rfl, _, _, _⟩ := hq.form
      obtain ⟨t1, t2, t3, t4, rfl, _, _, _⟩ := hn2.form
      have HRR := Lib.hid (And.intro hR3 (And.intro hR4 (And.intro hq hn2)))
      have hne := HE.out.2.2
      clear hn2 hb hB hR3 hR4 hq
      go_wp2_with fail
      refine bodyPost_ret (v := .tuple #[.agg #[.slice q1 q2 q3, .bool q4], .agg #[.slice t1 t2 t3, .bool t4]]) (by first | (simp [results, Tryz.results76, go_sem]; done) | simp [results, Tryz.results76, go_sem, *]) rfl ?_
      obtain ⟨g3, g4, gq, gr⟩ := HRR.out
      have u1 := g3.set 0 (.slice q1 q2 q3)
      have u2 := (g4.other (Ne.symm hne) 0 (.slice q1 q2 q3)).other (Ne.symm hne) 1 (.bool q4)
      have u3 := u2.set 0 (.slice t1 t2 t3)
      exact ⟨_, _, rfl, NumV.store u3 (NumV.store u2 (NumV.store u1 (NumV.store g3 gq))), NumV.store u3 (NumV.store u2 (NumV.store u1 (NumV.store g3 gr))),
        (((HBB.out.setCell (p := ⟨b3, 0, none⟩) HE.out.1 _).setCell (p := ⟨b3, 1, none⟩) HE.out.1 _).setCell (p := ⟨b4, 0, none⟩) HE.out.2.1 _).setCell (p := ⟨b4, 1, none⟩) HE.out.2.1 _⟩
    · have hm0 : 0 < M := by
        rcases Nat.eq_zero_or_pos M with h | h
        · exact absurd (hM0.2 h) h0
        · exact h
      have KQ := Lib.hid (show In.sgn (A + 1) true = x / y from by rw [HD.out.1, decide_eq_true hm0]; rfl)
      have KE := Lib.hid (show ((y.natAbs - M : Nat) : Int) = x % y from by rw [HD.out.2, decide_eq_true hm0]; rfl)
      have d0 : decide (0 < (RL : Int)) = true := by simp; omega
      have CPL := Lib.hid (plus_any (.slice qo QL qc) (.slice (some ⟨w3.heap.size, 0, none⟩) 1 1) A 1 (w3.alloc (.cells #[.int .i64 1] 3)).drew (KN.out.1.next (((Below.refl _ _).alloc (Nat.le_refl _) _).drew)) ((one_nsl w3).next (Below.refl _ _).drew) (by rw [HQL.out]; have := HLQ.out; omega) (by decide))
      have hl1 : Below w3.heap.size w3 (w3.alloc (.cells #[.int .i64 1] 3)).drew := ((Below.refl _ _).alloc (Nat.le_refl _) _).drew
      have lb2 := KR.out.2.1.lt
      clear hM0 hm0 HD HS HS'
      go_upto_region 3 with (fail)
      have m0 : w3.drew.cell? ⟨b2, 0, none⟩ = some (.slice o' L' c') := k3
      go_region_held3 (fun w' => w'.cell? ⟨b2, 0, none⟩ = some (.slice o' L' c')) (first | assumption | go_keep) (first
        | (go_at_call 103; with_reducible refine Calls.mono CPL.out ?_; rintro e wa ⟨r1, rfl, hn1, hb1⟩; have HA := Lib.hid (And.intro hn1 (Below.andThen hl1 hb1)); have na := (HA.out.2.cell (p := ⟨b2, 0, none⟩) lb2).trans k3; clear hn1 hb1)
        | (go_at_call 104; with_reducible refine Calls.mono (CM.out _ (HYY.out.next HA.out.2) (KN.out.2.next HA.out.2)) ?_; rintro e wb ⟨r2, rfl, hn2, hb2⟩; have HB := Lib.hid (And.intro hn2 (And.intro (HA.out.1.next hb2) (Below.andThen HA.out.2 hb2))); have nb := (HB.out.2.2.cell (p := ⟨b2, 0, none⟩) lb2).trans k3; clear hn2 hb2))
      replace KR := Lib.hid (And.intro (KR.out.1.next HB.out.2.2) (And.intro (KR.out.2.1.next HB.out.2.2) (And.intro (KR.out.2.2.1.next HB.out.2.2) (And.intro (KR.out.2.2.2.1.next HB.out.2.2) (Below.andThen KR.out.2.2.2.2 HB.out.2.2)))))
      replace KN := Lib.hid (And.intro HB.out.2.1 HB.out.1)
      clear HA HB CPL CM hl1 lb2 m0 na nb d0 h00
      go_upto_region 4 with (fail)
      have CS1 := Lib.hid (fun W h => signed_any r1 (A + 1) true W h)
      rw [KQ.out] at CS1
      have m1 := (Row.cell KR.out.1 1).trans (show _ = some (.bool true) from rfl)
      have m3 := (Row.cell KR.out.2.1 1).trans (show _ = some (.bool false) from rfl)
      go_wp2_with fail
      refine Calls.mono (CS1.out _ KN.out.1) ?_
      rintro e w4 ⟨r1, rfl, hn1, hb⟩
      have HA := Lib.hid (And.intro hn1 (And.intro hb (Below.andThen KR.out.2.2.2.2 hb)))
      clear hn1 hb m1 m3 CS1
      go_wp2_with fail
      refine Calls.mono (signed_any r2 (y.natAbs - M) false _ (KN.out.2.next HA.out.2.1)) ?_
      rintro e w5 ⟨r2, rfl, hn2, hb⟩
      rw [sgn_false, KE.out] at hn2
      have hB := Below.andThen HA.out.2.1 hb
      have hR3 := KR.out.2.2.1.next hB
      have hR4 := KR.out.2.2.2.1.next hB
      have p0 := (Row.cell hR3 0).trans (show _ = some (.slice none 0 0) from rfl)
      have p1 := (Row.cell hR3 1).trans (show _ = some (.bool false) from rfl)
      have p2 := (Row.cell hR4 0).trans (show _ = some (.slice none 0 0) from rfl)
      have p3 := (Row.cell hR4 1).trans (show _ = some (.bool false) from rfl)
      have f0 := Row.frozen hR3 0
      have f1 := Row.frozen hR3 1
      have f2 := Row.frozen hR4 0
      have f3 := Row.frozen hR4 1
      have hq := HA.out.1.next hb
      have HBB := Lib.hid (Below.andThen HA.out.2.2 hb)
      obtain ⟨q1, q2, q3, q4, rfl, _, _, _⟩ := hq.form
      obtain ⟨t1, t2, t3, t4, rfl, _, _, _⟩ := hn2.form
      have HRR := Lib.hid (And.intro hR3 (And.intro hR4 (And.intro hq hn2)))
      have hne := HE.out.2.2
      clear hn2 hb hB hR3 hR4 hq
      go_wp2_with fail
      refine bodyPost_ret (v := .tuple #[.agg #[.slice q1 q2 q3, .bool q4], .agg #[.slice t1 t2 t3, .bool t4]]) (by first | (simp [results, Tryz.results76, go_sem]; done) | simp [results, Tryz.results76, go_sem, *]) rfl ?_
      obtain ⟨g3, g4, gq, gr⟩ := HRR.out
      have u1 := g3.set 0 (.slice q1 q2 q3)
      have u2 := (g4.other (Ne.symm hne) 0 (.slice q1 q2 q3)).other (Ne.symm hne) 1 (.bool q4)
      have u3 := u2.set 0 (.slice t1 t2 t3)
      exact ⟨_, _, rfl, NumV.store u3 (NumV.store u2 (NumV.store u1 (NumV.store g3 gq))), NumV.store u3 (NumV.store u2 (NumV.store u1 (NumV.store g3 gr))),
        (((HBB.out.setCell (p := ⟨b3, 0, none⟩) HE.out.1 _).setCell (p := ⟨b3, 1, none⟩) HE.out.1 _).setCell (p := ⟨b4, 0, none⟩) HE.out.2.1 _).setCell (p := ⟨b4, 1, none⟩) HE.out.2.1 _⟩
  · by_cases h0 : RL = 0
    · have hm0 : M = 0 := hM0.1 h0
      have KQ := Lib.hid (show In.sgn A false = x / y from by rw [HD.out.1, hm0]; rfl)
      have KE := Lib.hid (show (M : Int) = x % y from by rw [HD.out.2, hm0]; rfl)
      subst h0
      clear hM0 k3 HD h00 CM HYY HLQ HM HS HS' hm0
      go_upto_region 4 with (fail)
      have CS1 := Lib.hid (fun W h => signed_any (.slice qo QL qc) A false W h)
      rw [KQ.out] at CS1
      have m1 := (Row.cell KR.out.1 1).trans (show _ = some (.bool true) from rfl)
      have m3 := (Row.cell KR.out.2.1 1).trans (show _ = some (.bool true) from rfl)
      go_wp2_with fail
      refine Calls.mono (CS1.out _ KN.out.1) ?_
      rintro e w4 ⟨r1, rfl, hn1, hb⟩
      have HA := Lib.hid (And.intro hn1 (And.intro hb (Below.andThen KR.out.2.2.2.2 hb)))
      clear hn1 hb m1 m3 CS1
      go_wp2_with fail
      refine Calls.mono (signed_any (.slice ro 0 rc) M false _ (KN.out.2.next HA.out.2.1)) ?_
      rintro e w5 ⟨r2, rfl, hn2, hb⟩
      rw [sgn_false, KE.out] at hn2
      have hB := Below.andThen HA.out.2.1 hb
      have hR3 := KR.out.2.2.1.next hB
      have hR4 := KR.out.2.2.2.1.next hB
      have p0 := (Row.cell hR3 0).trans (show _ = some (.slice none 0 0) from rfl)
      have p1 := (Row.cell hR3 1).trans (show _ = some (.bool false) from rfl)
      have p2 := (Row.cell hR4 0).trans (show _ = some (.slice none 0 0) from rfl)
      have p3 := (Row.cell hR4 1).trans (show _ = some (.bool false) from rfl)
      have f0 := Row.frozen hR3 0
      have f1 := Row.frozen hR3 1
      have f2 := Row.frozen hR4 0
      have f3 := Row.frozen hR4 1
      have hq := HA.out.1.next hb
      have HBB := Lib.hid (Below.andThen HA.out.2.2 hb)
      obtain ⟨q1, q2, q3, q4, rfl, _, _, _⟩ := hq.form
      obtain ⟨t1, t2, t3, t4, rfl, _, _, _⟩ := hn2.form
      have HRR := Lib.hid (And.intro hR3 (And.intro hR4 (And.intro hq hn2)))
      have hne := HE.out.2.2
      clear hn2 hb hB hR3 hR4 hq
      go_wp2_with fail
      refine bodyPost_ret (v := .tuple #[.agg #[.slice q1 q2 q3, .bool q4], .agg #[.slice t1 t2 t3, .bool t4]]) (by first | (simp [results, Tryz.results76, go_sem]; done) | simp [results, Tryz.results76, go_sem, *]) rfl ?_
      obtain ⟨g3, g4, gq, gr⟩ := HRR.out
      have u1 := g3.set 0 (.slice q1 q2 q3)
      have u2 := (g4.other (Ne.symm hne) 0 (.slice q1 q2 q3)).other (Ne.symm hne) 1 (.bool q4)
      have u3 := u2.set 0 (.slice t1 t2 t3)
      exact ⟨_, _, rfl, NumV.store u3 (NumV.store u2 (NumV.store u1 (NumV.store g3 gq))), NumV.store u3 (NumV.store u2 (NumV.store u1 (NumV.store g3 gr))),
        (((HBB.out.setCell (p := ⟨b3, 0, none⟩) HE.out.1 _).setCell (p := ⟨b3, 1, none⟩) HE.out.1 _).setCell (p := ⟨b4, 0, none⟩) HE.out.2.1 _).setCell (p := ⟨b4, 1, none⟩) HE.out.2.1 _⟩
    · have hm0 : 0 < M := by
        rcases Nat.eq_zero_or_pos M with h | h
        · exact absurd (hM0.2 h) h0
        · exact h
      have KQ := Lib.hid (show In.sgn (A + 1) false = x / y from by rw [HD.out.1, decide_eq_true hm0]; rfl)
      have KE := Lib.hid (show ((y.natAbs - M : Nat) : Int) = x % y from by rw [HD.out.2, decide_eq_true hm0]; rfl)
      have d0 : decide (0 < (RL : Int)) = true := by simp; omega
      have CPL := Lib.hid (plus_any (.slice qo QL qc) (.slice (some ⟨w3.heap.size, 0, none⟩) 1 1) A 1 (w3.alloc (.cells #[.int .i64 1] 3)).drew (KN.out.1.next (((Below.refl _ _).alloc (Nat.le_refl _) _).drew)) ((one_nsl w3).next (Below.refl _ _).drew) (by rw [HQL.out]; have := HLQ.out; omega) (by decide))
      have hl1 : Below w3.heap.size w3 (w3.alloc (.cells #[.int .i64 1] 3)).drew := ((Below.refl _ _).alloc (Nat.le_refl _) _).drew
      have lb2 := KR.out.2.1.lt
      clear hM0 hm0 HD HS HS'
      go_upto_region 3 with (fail)
      have m0 : w3.drew.cell? ⟨b2, 0, none⟩ = some (.slice o' L' c') := k3
      go_region_held3 (fun w' => w'.cell? ⟨b2, 0, none⟩ = some (.slice o' L' c')) (first | assumption | go_keep) (first
        | (go_at_call 103; with_reducible refine Calls.mono CPL.out ?_; rintro e wa ⟨r1, rfl, hn1, hb1⟩; have HA := Lib.hid (And.intro hn1 (Below.andThen hl1 hb1)); have na := (HA.out.2.cell (p := ⟨b2, 0, none⟩) lb2).trans k3; clear hn1 hb1)
        | (go_at_call 104; with_reducible refine Calls.mono (CM.out _ (HYY.out.next HA.out.2) (KN.out.2.next HA.out.2)) ?_; rintro e wb ⟨r2, rfl, hn2, hb2⟩; have HB := Lib.hid (And.intro hn2 (And.intro (HA.out.1.next hb2) (Below.andThen HA.out.2 hb2))); have nb := (HB.out.2.2.cell (p := ⟨b2, 0, none⟩) lb2).trans k3; clear hn2 hb2))
      replace KR := Lib.hid (And.intro (KR.out.1.next HB.out.2.2) (And.intro (KR.out.2.1.next HB.out.2.2) (And.intro (KR.out.2.2.1.next HB.out.2.2) (And.intro (KR.out.2.2.2.1.next HB.out.2.2) (Below.andThen KR.out.2.2.2.2 HB.out.2.2)))))
      replace KN := Lib.hid (And.intro HB.out.2.1 HB.out.1)
      clear HA HB CPL CM hl1 lb2 m0 na nb d0 h00
      go_upto_region 4 with (fail)
      have CS1 := Lib.hid (fun W h => signed_any r1 (A + 1) false W h)
      rw [KQ.out] at CS1
      have m1 := (Row.cell KR.out.1 1).trans (show _ = some (.bool true) from rfl)
      have m3 := (Row.cell KR.out.2.1 1).trans (show _ = some (.bool true) from rfl)
      go_wp2_with fail
      refine Calls.mono (CS1.out _ KN.out.1) ?_
      rintro e w4 ⟨r1, rfl, hn1, hb⟩
      have HA := Lib.hid (And.intro hn1 (And.intro hb (Below.andThen KR.out.2.2.2.2 hb)))
      clear hn1 hb m1 m3 CS1
      go_wp2_with fail
      refine Calls.mono (signed_any r2 (y.natAbs - M) false _ (KN.out.2.next HA.out.2.1)) ?_
      rintro e w5 ⟨r2, rfl, hn2, hb⟩
      rw [sgn_false, KE.out] at hn2
      have hB := Below.andThen HA.out.2.1 hb
      have hR3 := KR.out.2.2.1.next hB
      have hR4 := KR.out.2.2.2.1.next hB
      have p0 := (Row.cell hR3 0).trans (show _ = some (.slice none 0 0) from rfl)
      have p1 := (Row.cell hR3 1).trans (show _ = some (.bool false) from rfl)
      have p2 := (Row.cell hR4 0).trans (show _ = some (.slice none 0 0) from rfl)
      have p3 := (Row.cell hR4 1).trans (show _ = some (.bool false) from rfl)
      have f0 := Row.frozen hR3 0
      have f1 := Row.frozen hR3 1
      have f2 := Row.frozen hR4 0
      have f3 := Row.frozen hR4 1
      have hq := HA.out.1.next hb
      have HBB := Lib.hid (Below.andThen HA.out.2.2 hb)
      obtain ⟨q1, q2, q3, q4, rfl, _, _, _⟩ := hq.form
      obtain ⟨t1, t2, t3, t4, rfl, _, _, _⟩ := hn2.form
      have HRR := Lib.hid (And.intro hR3 (And.intro hR4 (And.intro hq hn2)))
      have hne := HE.out.2.2
      clear hn2 hb hB hR3 hR4 hq
      go_wp2_with fail
      refine bodyPost_ret (v := .tuple #[.agg #[.slice q1 q2 q3, .bool q4], .agg #[.slice t1 t2 t3, .bool t4]]) (by first | (simp [results, Tryz.results76, go_sem]; done) | simp [results, Tryz.results76, go_sem, *]) rfl ?_
      obtain ⟨g3, g4, gq, gr⟩ := HRR.out
      have u1 := g3.set 0 (.slice q1 q2 q3)
      have u2 := (g4.other (Ne.symm hne) 0 (.slice q1 q2 q3)).other (Ne.symm hne) 1 (.bool q4)
      have u3 := u2.set 0 (.slice t1 t2 t3)
      exact ⟨_, _, rfl, NumV.store u3 (NumV.store u2 (NumV.store u1 (NumV.store g3 gq))), NumV.store u3 (NumV.store u2 (NumV.store u1 (NumV.store g3 gr))),
        (((HBB.out.setCell (p := ⟨b3, 0, none⟩) HE.out.1 _).setCell (p := ⟨b3, 1, none⟩) HE.out.1 _).setCell (p := ⟨b4, 0, none⟩) HE.out.2.1 _).setCell (p := ⟨b4, 1, none⟩) HE.out.2.1 _⟩
end Go.Proofs.YtlehjmanlccncaaGreatDoor
