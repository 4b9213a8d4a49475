/- Numbers with signs: sums. -/
import Derived.Test.YtjhnfejlkljkjaaGreatDoorIntS
namespace Go.Proofs.YtjhnfejlkljkjaaGreatDoor
open Go.RowKit

set_option maxRecDepth 100000 in
set_option maxHeartbeats 4000000 in
theorem plusZ_any (u v : Value) (x y : Int) (w : World) (hu : NumV w u x) (hv : NumV w v y) (lx : (In.gs x.natAbs).length ≤ 1000) (ly : (In.gs y.natAbs).length ≤ 1000) :
    Calls Tryz.prog 29 #[u, v] w fun e w' => ∃ r, e = .returned r ∧ NumV w' r (x + y) ∧ Below w.heap.size w w' := by
  obtain ⟨o, L, c, s, rfl, hs, -, hsn⟩ := hu.form
  obtain ⟨o', L', c', s', rfl, hs', -, hsn'⟩ := hv.form
  have HS := Lib.hid hs
  have HS' := Lib.hid hs'
  have ex : In.sgn x.natAbs s = x := by rw [← hsn, In.sgn_neg]
  have ey : In.sgn y.natAbs s' = y := by rw [← hsn', In.sgn_neg]
  have HX := Lib.hid (And.intro ex ey)
  clear hs hsn hu hs' hsn' hv ex ey
  go_enter Tryz.func29, Tryz.ntmps29
  go_upto_region 1 with (fail)
  refine wp_named fun w1 hw => ?_
  obtain ⟨b1, hb1⟩ : ∃ x, x = w.heap.size := ⟨_, rfl⟩
  obtain ⟨b2, hb2⟩ : ∃ x, x = w.heap.size + 1 := ⟨_, rfl⟩
  obtain ⟨b3, hb3⟩ : ∃ x, x = w.heap.size + 1 + 1 := ⟨_, rfl⟩
  have R1 : Row w1 b1 47 [.slice o L c, .bool s] ∧ Row w1 b2 47 [.slice o' L' c', .bool s'] ∧ Row w1 b3 47 zeroN ∧ Below w.heap.size w w1 := by
    rw [hw, hb1, hb2, hb3]
    exact boxes2 w _ [.slice o L c, .bool s] [.slice o' L' c', .bool s'] zeroN
  rw [← hb3, ← hb2, ← hb1]
  have HR := Lib.hid R1
  have HE := Lib.hid (show w.heap.size ≤ b1 ∧ w.heap.size ≤ b2 ∧ w.heap.size ≤ b3 ∧ b1 ≠ b2 ∧ b1 ≠ b3 ∧ b2 ≠ b3 from by omega)
  have k0 := (Row.cell R1.1 0).trans (show _ = some (.slice o L c) from rfl)
  have k1 := (Row.cell R1.1 1).trans (show _ = some (.bool s) from rfl)
  have k2 := (Row.cell R1.2.1 0).trans (show _ = some (.slice o' L' c') from rfl)
  have k3 := (Row.cell R1.2.1 1).trans (show _ = some (.bool s') from rfl)
  clear hw R1 hb1 hb2 hb3
  by_cases hss : s = s'
  · subst hss
    have HZ := Lib.hid (show In.sgn (x.natAbs + y.natAbs) s = x + y from by rw [← In.sgn_plus, HX.out.1, HX.out.2])
    have h00 : Below w1.heap.size w1 w1.drew := (Below.refl _ _).drew
    have CT := Lib.hid (plus_any (.slice o L c) (.slice o' L' c') x.natAbs y.natAbs w1.drew (HS.out.next (HR.out.2.2.2.drew)) (HS'.out.next (HR.out.2.2.2.drew)) lx ly)
    go_upto_region 2 with (fail)
    have m0 : w1.drew.cell? ⟨b1, 0, none⟩ = some (.slice o L c) := k0
    have m1 : w1.drew.cell? ⟨b1, 1, none⟩ = some (.bool s) := k1
    have m2 : w1.drew.cell? ⟨b2, 0, none⟩ = some (.slice o' L' c') := k2
    clear k0 k1 k2 k3
    go_region_law (first
      | (go_simp; go_at_call 54; with_reducible refine Calls.mono CT.out ?_; rintro e wa ⟨r1, rfl, hn1, hb1⟩; have HA := Lib.hid (And.intro hn1 (Below.andThen h00 hb1)); have k4 := (Row.cell (HR.out.1.next HA.out.2) 1).trans (show _ = some (.bool s) from rfl); clear hn1 hb1)
      | (go_simp; go_at_call 45; with_reducible refine Calls.mono (signed_any r1 (x.natAbs + y.natAbs) s _ HA.out.1) ?_; rintro e wb ⟨r2, rfl, hn2, hb2⟩; have hB := Below.andThen HA.out.2 hb2; have hR2 := HR.out.2.2.1.next hB; have k6 := (Row.cell hR2 0).trans (show _ = some (.slice none 0 0) from rfl); have k7 := (Row.cell hR2 1).trans (show _ = some (.bool false) from rfl); have f6 := Row.frozen hR2 0; have f7 := Row.frozen hR2 1; rw [HZ.out] at hn2; obtain ⟨o3, L3, c3, s3, rfl, _, _, _⟩ := hn2.form; have HF := Lib.hid (And.intro (num_store hR2 hn2) hB); clear hn2 hb2 hB hR2))
    all_goals (
      go_simp
      go_wp2_with fail
      refine bodyPost_ret (v := .agg #[.slice o3 L3 c3, .bool s3]) (by first | (simp [results, Tryz.results29, go_sem]; done) | simp [results, Tryz.results29, go_sem, *]) rfl ⟨_, rfl, HF.out.1.1, (Below.andThen HR.out.2.2.2 HF.out.2).trans (HF.out.1.2.1.mono HE.out.2.2.1)⟩)
  have d1 : (s == s') = false := by rw [beq_eq_false_iff_ne]; exact hss
  have CC := Lib.hid (compare_any (.slice o L c) (.slice o' L' c') x.natAbs y.natAbs w1 (HS.out.next HR.out.2.2.2) (HS'.out.next HR.out.2.2.2) lx ly)
  have HSS := Lib.hid hss
  clear hss
  by_cases hlt : x.natAbs < y.natAbs
  · have HZ := Lib.hid (show In.sgn (y.natAbs - x.natAbs) s' = x + y from by rw [← In.sgn_less HSS.out hlt, HX.out.1, HX.out.2])
    rw [In.cmpN_lt hlt] at CC
    go_wp2_with fail
    refine Calls.mono CC.out ?_
    rintro e w2 ⟨rfl, hb⟩
    have hR1 := HR.out.1.next hb
    have hR2 := HR.out.2.1.next hb
    have hR3 := HR.out.2.2.1.next hb
    have n0 := (Row.cell hR1 0).trans (show _ = some (.slice o L c) from rfl)
    have n1 := (Row.cell hR1 1).trans (show _ = some (.bool s) from rfl)
    have n2 := (Row.cell hR2 0).trans (show _ = some (.slice o' L' c') from rfl)
    have n3 := (Row.cell hR2 1).trans (show _ = some (.bool s') from rfl)
    have f0 := Row.frozen hR1 0
    have f1 := Row.frozen hR1 1
    have f2 := Row.frozen hR2 0
    have f3 := Row.frozen hR2 1
    have HB2 := Lib.hid (And.intro hR1 (And.intro hR2 (And.intro hR3 (Below.andThen HR.out.2.2.2 hb))))
    have hne := HE.out.2.2.2.1
    clear hb hR1 hR2 hR3 k0 k1 k2 k3 CC
    go_upto_region 5 with (fail)
    refine wp_named fun w3 hw => ?_
    have K : Row w3 b1 47 [.slice o' L' c', .bool s'] ∧ Row w3 b2 47 [.slice o L c, .bool s] ∧ Row w3 b3 47 zeroN ∧ Below w.heap.size w w3 ∧ NSl w3 (.slice o' L' c') y.natAbs ∧ NSl w3 (.slice o L c) x.natAbs := by
      obtain ⟨q1, q2, q3, q4⟩ := HB2.out
      obtain ⟨e1, e2, e3, e4, e5, e6⟩ := HE.out
      rw [hw]
      have p1 := q1.set 0 (.slice o' L' c')
      have p2 := p1.set 1 (.bool s')
      have t1 := (q2.other (Ne.symm e4) 0 (.slice o' L' c')).other (Ne.symm e4) 1 (.bool s')
      have t2 := t1.set 0 (.slice o L c)
      exact ⟨(p2.other e4 0 _).other e4 1 _, t2.set 1 _, (((q3.other (Ne.symm e5) 0 _).other (Ne.symm e5) 1 _).other (Ne.symm e6) 0 _).other (Ne.symm e6) 1 _,
        ((((q4.setCell (p := ⟨b1, 0, none⟩) e1 _).setCell (p := ⟨b1, 1, none⟩) e1 _).setCell (p := ⟨b2, 0, none⟩) e2 _).setCell (p := ⟨b2, 1, none⟩) e2 _),
        NSl.store t2 (NSl.store t1 (NSl.store p1 (NSl.store q1 (HS'.out.next q4)))), NSl.store t2 (NSl.store t1 (NSl.store p1 (NSl.store q1 (HS.out.next q4))))⟩
    have KR := Lib.hid (And.intro K.1 (And.intro K.2.1 (And.intro K.2.2.1 K.2.2.2.1)))
    have KN := Lib.hid (And.intro K.2.2.2.2.1 (And.intro K.2.2.2.2.2 (Nat.le_of_lt hlt)))
    have KZ := HZ
    replace HE := Lib.hid HE.out.2.2.1
    clear hw K n0 n1 n2 n3 f0 f1 f2 f3 HB2 hne hlt
    have h00 : Below w3.heap.size w3 w3.drew := (Below.refl _ _).drew
    have m0 : w3.drew.cell? ⟨b1, 0, none⟩ = some (.slice o' L' c') := Row.cell KR.out.1 0
    have m1 : w3.drew.cell? ⟨b1, 1, none⟩ = some (.bool s') := Row.cell KR.out.1 1
    have m2 : w3.drew.cell? ⟨b2, 0, none⟩ = some (.slice o L c) := Row.cell KR.out.2.1 0
    have m3 : w3.drew.cell? ⟨b2, 1, none⟩ = some (.bool s) := Row.cell KR.out.2.1 1
    have CT := Lib.hid (minus_any (.slice o' L' c') (.slice o L c) y.natAbs x.natAbs w3.drew (KN.out.1.next h00) (KN.out.2.1.next h00) ly KN.out.2.2)
    go_region_law (first
      | (go_simp; go_at_call 56; with_reducible refine Calls.mono CT.out ?_; rintro e wa ⟨r1, rfl, hn1, hb1⟩; have HA := Lib.hid (And.intro hn1 (Below.andThen h00 hb1)); have k4 := (Row.cell (KR.out.1.next HA.out.2) 1).trans (show _ = some (.bool s') from rfl); clear hn1 hb1)
      | (go_simp; go_at_call 45; with_reducible refine Calls.mono (signed_any r1 (y.natAbs - x.natAbs) s' _ HA.out.1) ?_; rintro e wb ⟨r2, rfl, hn2, hb2⟩; have hB := Below.andThen HA.out.2 hb2; have hR2 := KR.out.2.2.1.next hB; have k6 := (Row.cell hR2 0).trans (show _ = some (.slice none 0 0) from rfl); have k7 := (Row.cell hR2 1).trans (show _ = some (.bool false) from rfl); have f6 := Row.frozen hR2 0; have f7 := Row.frozen hR2 1; rw [KZ.out] at hn2; obtain ⟨o3, L3, c3, s3, rfl, _, _, _⟩ := hn2.form; have HF := Lib.hid (And.intro (num_store hR2 hn2) hB); clear hn2 hb2 hB hR2))
    all_goals (
      go_simp
      go_wp2_with fail
      refine bodyPost_ret (v := .agg #[.slice o3 L3 c3, .bool s3]) (by first | (simp [results, Tryz.results29, go_sem]; done) | simp [results, Tryz.results29, go_sem, *]) rfl ⟨_, rfl, HF.out.1.1, (Below.trans KR.out.2.2.2 (HF.out.2.mono (by have := KR.out.2.2.2.size; omega))).trans (HF.out.1.2.1.mono (by have := HE.out; omega))⟩)
  · have hge : y.natAbs ≤ x.natAbs := by omega
    have HZ := Lib.hid (show In.sgn (x.natAbs - y.natAbs) s = x + y from by rw [← In.sgn_more HSS.out hge, HX.out.1, HX.out.2])
    have d2 : decide (In.cmpN x.natAbs y.natAbs < 0) = false := by rw [cmpN_neg, decide_eq_false hlt]
    go_wp2_with fail
    refine Calls.mono CC.out ?_
    rintro e w3 ⟨rfl, hb⟩
    have KR := Lib.hid (And.intro (HR.out.1.next hb) (And.intro (HR.out.2.1.next hb) (And.intro (HR.out.2.2.1.next hb) (Below.andThen HR.out.2.2.2 hb))))
    have KN := Lib.hid (And.intro (HS.out.next KR.out.2.2.2) (And.intro (HS'.out.next KR.out.2.2.2) hge))
    have KZ := HZ
    replace HE := Lib.hid HE.out.2.2.1
    clear hb k0 k1 k2 k3 CC hlt
    go_upto_region 5 with (fail)
    have h00 : Below w3.heap.size w3 w3.drew := (Below.refl _ _).drew
    have m0 : w3.drew.cell? ⟨b1, 0, none⟩ = some (.slice o L c) := Row.cell KR.out.1 0
    have m1 : w3.drew.cell? ⟨b1, 1, none⟩ = some (.bool s) := Row.cell KR.out.1 1
    have m2 : w3.drew.cell? ⟨b2, 0, none⟩ = some (.slice o' L' c') := Row.cell KR.out.2.1 0
    have m3 : w3.drew.cell? ⟨b2, 1, none⟩ = some (.bool s') := Row.cell KR.out.2.1 1
    have CT := Lib.hid (minus_any (.slice o L c) (.slice o' L' c') x.natAbs y.natAbs w3.drew (KN.out.1.next h00) (KN.out.2.1.next h00) lx KN.out.2.2)
    go_region_law (first
      | (go_simp; go_at_call 56; with_reducible refine Calls.mono CT.out ?_; rintro e wa ⟨r1, rfl, hn1, hb1⟩; have HA := Lib.hid (And.intro hn1 (Below.andThen h00 hb1)); have k4 := (Row.cell (KR.out.1.next HA.out.2) 1).trans (show _ = some (.bool s) from rfl); clear hn1 hb1)
      | (go_simp; go_at_call 45; with_reducible refine Calls.mono (signed_any r1 (x.natAbs - y.natAbs) s _ HA.out.1) ?_; rintro e wb ⟨r2, rfl, hn2, hb2⟩; have hB := Below.andThen HA.out.2 hb2; have hR2 := KR.out.2.2.1.next hB; have k6 := (Row.cell hR2 0).trans (show _ = some (.slice none 0 0) from rfl); have k7 := (Row.cell hR2 1).trans (show _ = some (.bool false) from rfl); have f6 := Row.frozen hR2 0; have f7 := Row.frozen hR2 1; rw [KZ.out] at hn2; obtain ⟨o3, L3, c3, s3, rfl, _, _, _⟩ := hn2.form; have HF := Lib.hid (And.intro (num_store hR2 hn2) hB); clear hn2 hb2 hB hR2))
    all_goals (
      go_simp
      go_wp2_with fail
      refine bodyPost_ret (v := .agg #[.slice o3 L3 c3, .bool s3]) (by first | (simp [results, Tryz.results29, go_sem]; done) | simp [results, Tryz.results29, go_sem, *]) rfl ⟨_, rfl, HF.out.1.1, (Below.trans KR.out.2.2.2 (HF.out.2.mono (by have := KR.out.2.2.2.size; omega))).trans (HF.out.1.2.1.mono (by have := HE.out; omega))⟩)
end Go.Proofs.YtjhnfejlkljkjaaGreatDoor
