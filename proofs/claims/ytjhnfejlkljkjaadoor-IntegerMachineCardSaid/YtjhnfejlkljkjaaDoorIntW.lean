/- Numbers with signs: quotients and remainders. -/
import Derived.Test.YtjhnfejlkljkjaaDoorIntS
namespace Go.Proofs.YtjhnfejlkljkjaaDoor
open Go.RowKit

theorem sgn_false (n : Nat) : In.sgn n false = (n : Int) := rfl
theorem boxes3 (w : World) (t : TypeId) (C D E F : List Value) : Row ((((w.alloc (.cells C.toArray t)).alloc (.cells D.toArray t)).alloc (.cells E.toArray t)).alloc (.cells F.toArray t)) w.heap.size t C ∧ Row ((((w.alloc (.cells C.toArray t)).alloc (.cells D.toArray t)).alloc (.cells E.toArray t)).alloc (.cells F.toArray t)) (w.heap.size + 1) t D ∧
    Row ((((w.alloc (.cells C.toArray t)).alloc (.cells D.toArray t)).alloc (.cells E.toArray t)).alloc (.cells F.toArray t)) (w.heap.size + 1 + 1) t E ∧ Row ((((w.alloc (.cells C.toArray t)).alloc (.cells D.toArray t)).alloc (.cells E.toArray t)).alloc (.cells F.toArray t)) (w.heap.size + 1 + 1 + 1) t F ∧
    Below w.heap.size w ((((w.alloc (.cells C.toArray t)).alloc (.cells D.toArray t)).alloc (.cells E.toArray t)).alloc (.cells F.toArray t)) := by
  obtain ⟨h1, h2, h3, h4⟩ := boxes2 w t C D E
  refine ⟨h1.alloc _, h2.alloc _, h3.alloc _, ?_, h4.alloc (by simp; omega) _⟩
  have := Row.new (((w.alloc (.cells C.toArray t)).alloc (.cells D.toArray t)).alloc (.cells E.toArray t)) t F
  rwa [World.size_alloc, World.size_alloc, World.size_alloc] at this

theorem one_nsl (w : World) : NSl (w.alloc (.cells #[.int .i64 1] 3)) (.slice (some ⟨w.heap.size, 0, none⟩) 1 1) 1 := by
  have e : In.gs 1 = [1] := by decide
  refine NSl.mk' (by rw [e]; rfl) (Nat.le_refl _) (by decide) (fun h => by cases h) ?_
  rw [e]
  exact row_sl (Row.new w 3 [natV 1])
set_option maxRecDepth 100000 in
set_option maxHeartbeats 4000000 in
theorem overZ_any (u v : Value) (x y : Int) (w : World) (hu : NumV w u x) (hv : NumV w v y) (hy : y ≠ 0) (lx : (In.gs x.natAbs).length ≤ 900) (ly : (In.gs y.natAbs).length ≤ 900) :
    Calls Tryd.prog 34 #[u, v] w fun e w' => ∃ q r, e = .returned (.tuple #[q, r]) ∧ NumV w' q (x / y) ∧ NumV w' r (x % y) ∧ Below w.heap.size w w' := by
  obtain ⟨o, L, c, s, rfl, hs, -, hsn⟩ := hu.form
  obtain ⟨o', L', c', s', rfl, hs', -, hsn'⟩ := hv.form
  have HS := Lib.hid hs
  have HS' := Lib.hid hs'
  have hb0 : 0 < y.natAbs := by omega
  have HD := Lib.hid (show x / y = In.sgn (if (s && decide (0 < x.natAbs % y.natAbs)) = true then x.natAbs / y.natAbs + 1 else x.natAbs / y.natAbs) (!(s == s')) ∧ x % y = ((if (s && decide (0 < x.natAbs % y.natAbs)) = true then y.natAbs - x.natAbs % y.natAbs else x.natAbs % y.natAbs : Nat) : Int) from by
    have h := In.div_sgn (a := x.natAbs) hb0 s s'
    have e1 : In.sgn x.natAbs s = x := by rw [← hsn, In.sgn_neg]
    have e2 : In.sgn y.natAbs s' = y := by rw [← hsn', In.sgn_neg]
    rw [e1, e2] at h
    exact h)
  have hmod := Nat.mod_lt x.natAbs hb0
  have lq : (In.gs (x.natAbs / y.natAbs)).length ≤ 900 := Nat.le_trans (gs_len_le (Nat.div_le_self _ _)) lx
  have lr : (In.gs (x.natAbs % y.natAbs)).length ≤ 900 := Nat.le_trans (gs_len_le (Nat.le_of_lt hmod)) ly
  have HLQ := Lib.hid (And.intro lq (And.intro lr ly))
  clear hs hsn hu hs' hsn' hv lq lr
  have CO := Lib.hid (fun W h h' => over_any (.slice o L c) (.slice o' L' c') x.natAbs y.natAbs W h h' hb0 lx ly)
  generalize hA : x.natAbs / y.natAbs = A at *
  generalize hM : x.natAbs % y.natAbs = M at *
  have HM := Lib.hid hmod
  clear hA hM hmod hy hb0 lx ly
  go_enter Tryd.func34, Tryd.ntmps34
  go_upto_region 1 with (fail)
  refine wp_named fun w1 hw => ?_
  obtain ⟨b1, hb1⟩ : ∃ x, x = w.heap.size := ⟨_, rfl⟩
  obtain ⟨b2, hb2⟩ : ∃ x, x = w.heap.size + 1 := ⟨_, rfl⟩
  obtain ⟨b3, hb3⟩ : ∃ x, x = w.heap.size + 1 + 1 := ⟨_, rfl⟩
  obtain ⟨b4, hb4⟩ : ∃ x, x = w.heap.size + 1 + 1 + 1 := ⟨_, rfl⟩
  have R1 : Row w1 b1 51 [.slice o L c, .bool s] ∧ Row w1 b2 51 [.slice o' L' c', .bool s'] ∧ Row w1 b3 51 zeroN ∧ Row w1 b4 51 zeroN ∧ Below w.heap.size w w1 := by
    rw [hw, hb1, hb2, hb3, hb4]
    exact boxes3 w _ [.slice o L c, .bool s] [.slice o' L' c', .bool s'] zeroN zeroN
  rw [← hb4, ← hb3, ← hb2, ← hb1]
  have HR := Lib.hid R1
  have HE := Lib.hid (show w.heap.size ≤ b3 ∧ w.heap.size ≤ b4 ∧ b3 ≠ b4 from by omega)
  have k0 := (Row.cell R1.1 0).trans (show _ = some (.slice o L c) from rfl)
  have k2 := (Row.cell R1.2.1 0).trans (show _ = some (.slice o' L' c') from rfl)
  clear hw R1 hb1 hb2 hb3 hb4
  go_wp2_with fail
  refine Calls.mono (CO.out _ (HS.out.next HR.out.2.2.2.2) (HS'.out.next HR.out.2.2.2.2)) ?_
  rintro e w3 ⟨q, r, rfl, hq, hr, hb⟩
  have KR := Lib.hid (And.intro (HR.out.1.next hb) (And.intro (HR.out.2.1.next hb) (And.intro (HR.out.2.2.1.next hb) (And.intro (HR.out.2.2.2.1.next hb) (Below.andThen HR.out.2.2.2.2 hb)))))
  have KN := Lib.hid (And.intro hq hr)
  have k1 := (Row.cell KR.out.1 1).trans (show _ = some (.bool s) from rfl)
  have k3 := (Row.cell KR.out.2.1 0).trans (show _ = some (.slice o' L' c') from rfl)
  obtain ⟨qo, qc, rfl, _⟩ := hq.ex
  obtain ⟨ro, rc, rfl, _⟩ := hr.ex
  clear hq hr hb k0 k2 CO HR
  have hM0 := In.gs_nil (n := M)
  generalize hQL : (In.gs A).length = QL at *
  have HQL := Lib.hid hQL
  clear hQL
  generalize (In.gs M).length = RL at *
  have h00 : Below w3.heap.size w3 w3.drew := (Below.refl _ _).drew
  have CM := Lib.hid (fun W (h : NSl W (.slice o' L' c') y.natAbs) (h' : NSl W (.slice ro RL rc) M) => minus_any (.slice o' L' c') (.slice ro RL rc) y.natAbs M W h h' (by have := HLQ.out; omega) (Nat.le_of_lt HM.out))
  have HYY := Lib.hid (HS'.out.next KR.out.2.2.2.2)
  cases s <;> cases s'
  · have KQ := Lib.hid (show In.sgn A false = x / y from by rw [HD.out.1]; rfl)
    have KE := Lib.hid (show (M : Int) = x % y from by rw [HD.out.2]; rfl)
    clear hM0 k3 HD h00 CM HYY HLQ HM HS HS'
    go_upto_region 4 with (fail)
    have CS1 := Lib.hid (fun W h => signed_any (.slice qo QL qc) A false W h)
    rw [KQ.out] at CS1
    have m1 := (Row.cell KR.out.1 1).trans (show _ = some (.bool false) from rfl)
    have m3 := (Row.cell KR.out.2.1 1).trans (show _ = some (.bool false) from rfl)
    go_wp2_with fail
    refine Calls.mono (CS1.out _ KN.out.1) ?_
    rintro e w4 ⟨r1, rfl, hn1, hb⟩
    have HA := Lib.hid (And.intro hn1 (And.intro hb (Below.andThen KR.out.2.2.2.2 hb)))
    clear hn1 hb m1 m3 CS1
    go_wp2_with fail
    refine Calls.mono (signed_any (.slice ro RL rc) M false _ (KN.out.2.next HA.out.2.1)) ?_
    rintro e w5 ⟨r2, rfl, hn2, hb⟩
    rw [sgn_false, KE.out] at hn2
    have hB := Below.andThen HA.out.2.1 hb
    have hR3 := KR.out.2.2.1.next hB
    have hR4 := KR.out.2.2.2.1.next hB
    have p0 := (Row.cell hR3 0).trans (show _ = some (.slice none 0 0) from rfl)
    have p1 := (Row.cell hR3 1).trans (show _ = some (.bool false) from rfl)
    have p2 := (Row.cell hR4 0).trans (show _ = some (.slice none 0 0) from rfl)
    have p3 := (Row.cell hR4 1).trans (show _ = some (.bool false) from rfl)
    have f0 := Row.frozen hR3 0
    have f1 := Row.frozen hR3 1
    have f2 := Row.frozen hR4 0
    have f3 := Row.frozen hR4 1
    have hq := HA.out.1.next hb
    have HBB := Lib.hid (Below.andThen HA.out.2.2 hb)
    obtain ⟨q1, q2, q3, q4, rfl, _, _, _⟩ := hq.form
    obtain ⟨t1, t2, t3, t4, rfl, _, _, _⟩ := hn2.form
    have HRR := Lib.hid (And.intro hR3 (And.intro hR4 (And.intro hq hn2)))
    have hne := HE.out.2.2
    clear hn2 hb hB hR3 hR4 hq
    go_wp2_with fail
    refine bodyPost_ret (v := .tuple #[.agg #[.slice q1 q2 q3, .bool q4], .agg #[.slice t1 t2 t3, .bool t4]]) (by first | (simp [results, Tryd.results34, go_sem]; done) | simp [results, Tryd.results34, go_sem, *]) rfl ?_
    obtain ⟨g3, g4, gq, gr⟩ := HRR.out
    have u1 := g3.set 0 (.slice q1 q2 q3)
    have u2 := (g4.other (Ne.symm hne) 0 (.slice q1 q2 q3)).other (Ne.symm hne) 1 (.bool q4)
    have u3 := u2.set 0 (.slice t1 t2 t3)
    exact ⟨_, _, rfl, NumV.store u3 (NumV.store u2 (NumV.store u1 (NumV.store g3 gq))), NumV.store u3 (NumV.store u2 (NumV.store u1 (NumV.store g3 gr))),
      (((HBB.out.setCell (p := ⟨b3, 0, none⟩) HE.out.1 _).setCell (p := ⟨b3, 1, none⟩) HE.out.1 _).setCell (p := ⟨b4, 0, none⟩) HE.out.2.1 _).setCell (p := ⟨b4, 1, none⟩) HE.out.2.1 _⟩
  · have KQ := Lib.hid (show In.sgn A true = x / y from by rw [HD.out.1]; rfl)
    have KE := Lib.hid (show (M : Int) = x % y from by rw [HD.out.2]; rfl)
    clear hM0 k3 HD h00 CM HYY HLQ HM HS HS'
    go_upto_region 4 with (fail)
    have CS1 := Lib.hid (fun W h => signed_any (.slice qo QL qc) A true W h)
    rw [KQ.out] at CS1
    have m1 := (Row.cell KR.out.1 1).trans (show _ = some (.bool false) from rfl)
    have m3 := (Row.cell KR.out.2.1 1).trans (show _ = some (.bool true) from rfl)
    go_wp2_with fail
    refine Calls.mono (CS1.out _ KN.out.1) ?_
    rintro e w4 ⟨r1, rfl, hn1, hb⟩
    have HA := Lib.hid (And.intro hn1 (And.intro hb (Below.andThen KR.out.2.2.2.2 hb)))
    clear hn1 hb m1 m3 CS1
    go_wp2_with fail
    refine Calls.mono (signed_any (.slice ro RL rc) M false _ (KN.out.2.next HA.out.2.1)) ?_
    rintro e w5 ⟨r2, rfl, hn2, hb⟩
    rw [sgn_false, KE.out] at hn2
    have hB := Below.andThen HA.out.2.1 hb
    have hR3 := KR.out.2.2.1.next hB
    have hR4 := KR.out.2.2.2.1.next hB
    have p0 := (Row.cell hR3 0).trans (show _ = some (.slice none 0 0) from rfl)
    have p1 := (Row.cell hR3 1).trans (show _ = some (.bool false) from rfl)
    have p2 := (Row.cell hR4 0).trans (show _ = some (.slice none 0 0) from rfl)
    have p3 := (Row.cell hR4 1).trans (show _ = some (.bool false) from rfl)
    have f0 := Row.frozen hR3 0
    have f1 := Row.frozen hR3 1
    have f2 := Row.frozen hR4 0
    have f3 := Row.frozen hR4 1
    have hq := HA.out.1.next hb
    have HBB := Lib.hid (Below.andThen HA.out.2.2 hb)
    obtain ⟨q1, q2, q3, q4, rfl, _, _, _⟩ := hq.form
    obtain ⟨t1, t2, t3, t4, rfl, _, _, _⟩ := hn2.form
    have HRR := Lib.hid (And.intro hR3 (And.intro hR4 (And.intro hq hn2)))
    have hne := HE.out.2.2
    clear hn2 hb hB hR3 hR4 hq
    go_wp2_with fail
    refine bodyPost_ret (v := .tuple #[.agg #[.slice q1 q2 q3, .bool q4], .agg #[.slice t1 t2 t3, .bool t4]]) (by first | (simp [results, Tryd.results34, go_sem]; done) | simp [results, Tryd.results34, go_sem, *]) rfl ?_
    obtain ⟨g3, g4, gq, gr⟩ := HRR.out
    have u1 := g3.set 0 (.slice q1 q2 q3)
    have u2 := (g4.other (Ne.symm hne) 0 (.slice q1 q2 q3)).other (Ne.symm hne) 1 (.bool q4)
    have u3 := u2.set 0 (.slice t1 t2 t3)
    exact ⟨_, _, rfl, NumV.store u3 (NumV.store u2 (NumV.store u1 (NumV.store g3 gq))), NumV.store u3 (NumV.store u2 (NumV.store u1 (NumV.store g3 gr))),
      (((HBB.out.setCell (p := ⟨b3, 0, none⟩) HE.out.1 _).setCell (p := ⟨b3, 1, none⟩) HE.out.1 _).setCell (p := ⟨b4, 0, none⟩) HE.out.2.1 _).setCell (p := ⟨b4, 1, none⟩) HE.out.2.1 _⟩
  · by_cases h0 : RL = 0
    · have hm0 : M = 0 := hM0.1 h0
      have KQ := Lib.hid (show In.sgn A true = x / y from by rw [HD.out.1, hm0]; rfl)
      have KE := Lib.hid (show (M : Int) = x % y from by rw [HD.out.2, hm0]; rfl)
      subst h0
      clear hM0 k3 HD h00 CM HYY HLQ HM HS HS' hm0
      go_upto_region 4 with (fail)
      have CS1 := Lib.hid (fun W h => signed_any (.slice qo QL qc) A true W h)
      rw [KQ.out] at CS1
      have m1 := (Row.cell KR.out.1 1).trans (show _ = some (.bool true) from rfl)
      have m3 := (Row.cell KR.out.2.1 1).trans (show _ = some (.bool false) from rfl)
      go_wp2_with fail
      refine Calls.mono (CS1.out _ KN.out.1) ?_
      rintro e w4 ⟨r1, rfl, hn1, hb⟩
      have HA := Lib.hid (And.intro hn1 (And.intro hb (Below.andThen KR.out.2.2.2.2 hb)))
      clear hn1 hb m1 m3 CS1
      go_wp2_with fail
      refine Calls.mono (signed_any (.slice ro 0 rc) M false _ (KN.out.2.next HA.out.2.1)) ?_
      rintro e w5 ⟨r2, rfl, hn2, hb⟩
      rw [sgn_false, KE.out] at hn2
      have hB := Below.andThen HA.out.2.1 hb
      have hR3 := KR.out.2.2.1.next hB
      have hR4 := KR.out.2.2.2.1.next hB
      have p0 := (Row.cell hR3 0).trans (show _ = some (.slice none 0 0) from rfl)
      have p1 := (Row.cell hR3 1).trans (show _ = some (.bool false) from rfl)
      have p2 := (Row.cell hR4 0).trans (show _ = some (.slice none 0 0) from rfl)
      have p3 := (Row.cell hR4 1).trans (show _ = some (.bool false) from rfl)
      have f0 := Row.frozen hR3 0
      have f1 := Row.frozen hR3 1
      have f2 := Row.frozen hR4 0
      have f3 := Row.frozen hR4 1
      have hq := HA.out.1.next hb
      have HBB := Lib.hid (Below.andThen HA.out.2.2 hb)
      obtain ⟨q1, q2, q3, q4, rfl, _, _, _⟩ := hq.form
      obtain ⟨t1, t2, t3, t4, rfl, _, _, _⟩ := hn2.form
      have HRR := Lib.hid (And.intro hR3 (And.intro hR4 (And.intro hq hn2)))
      have hne := HE.out.2.2
      clear hn2 hb hB hR3 hR4 hq
      go_wp2_with fail
      refine bodyPost_ret (v := .tuple #[.agg #[.slice q1 q2 q3, .bool q4], .agg #[.slice t1 t2 t3, .bool t4]]) (by first | (simp [results, Tryd.results34, go_sem]; done) | simp [results, Tryd.results34, go_sem, *]) rfl ?_
      obtain ⟨g3, g4, gq, gr⟩ := HRR.out
      have u1 := g3.set 0 (.slice q1 q2 q3)
      have u2 := (g4.other (Ne.symm hne) 0 (.slice q1 q2 q3)).other (Ne.symm hne) 1 (.bool q4)
      have u3 := u2.set 0 (.slice t1 t2 t3)
      exact ⟨_, _, rfl, NumV.store u3 (NumV.store u2 (NumV.store u1 (NumV.store g3 gq))), NumV.store u3 (NumV.store u2 (NumV.store u1 (NumV.store g3 gr))),
        (((HBB.out.setCell (p := ⟨b3, 0, none⟩) HE.out.1 _).setCell (p := ⟨b3, 1, none⟩) HE.out.1 _).setCell (p := ⟨b4, 0, none⟩) HE.out.2.1 _).setCell (p := ⟨b4, 1, none⟩) HE.out.2.1 _⟩
    · have hm0 : 0 < M := by
        rcases Nat.eq_zero_or_pos M with h | h
        · exact absurd (hM0.2 h) h0
        · exact h
      have KQ := Lib.hid (show In.sgn (A + 1) true = x / y from by rw [HD.out.1, decide_eq_true hm0]; rfl)
      have KE := Lib.hid (show ((y.natAbs - M : Nat) : Int) = x % y from by rw [HD.out.2, decide_eq_true hm0]; rfl)
      have d0 : decide (0 < (RL : Int)) = true := by simp; omega
      have CPL := Lib.hid (plus_any (.slice qo QL qc) (.slice (some ⟨w3.heap.size, 0, none⟩) 1 1) A 1 (w3.alloc (.cells #[.int .i64 1] 3)).drew (KN.out.1.next (((Below.refl _ _).alloc (Nat.le_refl _) _).drew)) ((one_nsl w3).next (Below.refl _ _).drew) (by rw [HQL.out]; have := HLQ.out; omega) (by decide))
      have hl1 : Below w3.heap.size w3 (w3.alloc (.cells #[.int .i64 1] 3)).drew := ((Below.refl _ _).alloc (Nat.le_refl _) _).drew
      have lb2 := KR.out.2.1.lt
      clear hM0 hm0 HD HS HS'
      go_upto_region 3 with (fail)
      have m0 : w3.drew.cell? ⟨b2, 0, none⟩ = some (.slice o' L' c') := k3
      go_region_held3 (fun w' => w'.cell? ⟨b2, 0, none⟩ = some (.slice o' L' c')) (first | assumption | go_keep) (first
        | (go_at_call 47; with_reducible refine Calls.mono CPL.out ?_; rintro e wa ⟨r1, rfl, hn1, hb1⟩; have HA := Lib.hid (And.intro hn1 (Below.andThen hl1 hb1)); have na := (HA.out.2.cell (p := ⟨b2, 0, none⟩) lb2).trans k3; clear hn1 hb1)
        | (go_at_call 49; with_reducible refine Calls.mono (CM.out _ (HYY.out.next HA.out.2) (KN.out.2.next HA.out.2)) ?_; rintro e wb ⟨r2, rfl, hn2, hb2⟩; have HB := Lib.hid (And.intro hn2 (And.intro (HA.out.1.next hb2) (Below.andThen HA.out.2 hb2))); have nb := (HB.out.2.2.cell (p := ⟨b2, 0, none⟩) lb2).trans k3; clear hn2 hb2))
      replace KR := Lib.hid (And.intro (KR.out.1.next HB.out.2.2) (And.intro (KR.out.2.1.next HB.out.2.2) (And.intro (KR.out.2.2.1.next HB.out.2.2) (And.intro (KR.out.2.2.2.1.next HB.out.2.2) (Below.andThen KR.out.2.2.2.2 HB.out.2.2)))))
      replace KN := Lib.hid (And.intro HB.out.2.1 HB.out.1)
      clear HA HB CPL CM hl1 lb2 m0 na nb d0 h00
      go_upto_region 4 with (fail)
      have CS1 := Lib.hid (fun W h => signed_any r1 (A + 1) true W h)
      rw [KQ.out] at CS1
      have m1 := (Row.cell KR.out.1 1).trans (show _ = some (.bool true) from rfl)
      have m3 := (Row.cell KR.out.2.1 1).trans (show _ = some (.bool false) from rfl)
      go_wp2_with fail
      refine Calls.mono (CS1.out _ KN.out.1) ?_
      rintro e w4 ⟨r1, rfl, hn1, hb⟩
      have HA := Lib.hid (And.intro hn1 (And.intro hb (Below.andThen KR.out.2.2.2.2 hb)))
      clear hn1 hb m1 m3 CS1
      go_wp2_with fail
      refine Calls.mono (signed_any r2 (y.natAbs - M) false _ (KN.out.2.next HA.out.2.1)) ?_
      rintro e w5 ⟨r2, rfl, hn2, hb⟩
      rw [sgn_false, KE.out] at hn2
      have hB := Below.andThen HA.out.2.1 hb
      have hR3 := KR.out.2.2.1.next hB
      have hR4 := KR.out.2.2.2.1.next hB
      have p0 := (Row.cell hR3 0).trans (show _ = some (.slice none 0 0) from rfl)
      have p1 := (Row.cell hR3 1).trans (show _ = some (.bool false) from rfl)
      have p2 := (Row.cell hR4 0).trans (show _ = some (.slice none 0 0) from rfl)
      have p3 := (Row.cell hR4 1).trans (show _ = some (.bool false) from rfl)
      have f0 := Row.frozen hR3 0
      have f1 := Row.frozen hR3 1
      have f2 := Row.frozen hR4 0
      have f3 := Row.frozen hR4 1
      have hq := HA.out.1.next hb
      have HBB := Lib.hid (Below.andThen HA.out.2.2 hb)
      obtain ⟨q1, q2, q3, q4, rfl, _, _, _⟩ := hq.form
      obtain ⟨t1, t2, t3, t4, rfl, _, _, _⟩ := hn2.form
      have HRR := Lib.hid (And.intro hR3 (And.intro hR4 (And.intro hq hn2)))
      have hne := HE.out.2.2
      clear hn2 hb hB hR3 hR4 hq
      go_wp2_with fail
      refine bodyPost_ret (v := .tuple #[.agg #[.slice q1 q2 q3, .bool q4], .agg #[.slice t1 t2 t3, .bool t4]]) (by first | (simp [results, Tryd.results34, go_sem]; done) | simp [results, Tryd.results34, go_sem, *]) rfl ?_
      obtain ⟨g3, g4, gq, gr⟩ := HRR.out
      have u1 := g3.set 0 (.slice q1 q2 q3)
      have u2 := (g4.other (Ne.symm hne) 0 (.slice q1 q2 q3)).other (Ne.symm hne) 1 (.bool q4)
      have u3 := u2.set 0 (.slice t1 t2 t3)
      exact ⟨_, _, rfl, NumV.store u3 (NumV.store u2 (NumV.store u1 (NumV.store g3 gq))), NumV.store u3 (NumV.store u2 (NumV.store u1 (NumV.store g3 gr))),
        (((HBB.out.setCell (p := ⟨b3, 0, none⟩) HE.out.1 _).setCell (p := ⟨b3, 1, none⟩) HE.out.1 _).setCell (p := ⟨b4, 0, none⟩) HE.out.2.1 _).setCell (p := ⟨b4, 1, none⟩) HE.out.2.1 _⟩
  · by_cases h0 : RL = 0
    · have hm0 : M = 0 := hM0.1 h0
      have KQ := Lib.hid (show In.sgn A false = x / y from by rw [HD.out.1, hm0]; rfl)
      have KE := Lib.hid (show (M : Int) = x % y from by rw [HD.out.2, hm0]; rfl)
      subst h0
      clear hM0 k3 HD h00 CM HYY HLQ HM HS HS' hm0
      go_upto_region 4 with (fail)
      have CS1 := Lib.hid (fun W h => signed_any (.slice qo QL qc) A false W h)
      rw [KQ.out] at CS1
      have m1 := (Row.cell KR.out.1 1).trans (show _ = some (.bool true) from rfl)
      have m3 := (Row.cell KR.out.2.1 1).trans (show _ = some (.bool true) from rfl)
      go_wp2_with fail
      refine Calls.mono (CS1.out _ KN.out.1) ?_
      rintro e w4 ⟨r1, rfl, hn1, hb⟩
      have HA := Lib.hid (And.intro hn1 (And.intro hb (Below.andThen KR.out.2.2.2.2 hb)))
      clear hn1 hb m1 m3 CS1
      go_wp2_with fail
      refine Calls.mono (signed_any (.slice ro 0 rc) M false _ (KN.out.2.next HA.out.2.1)) ?_
      rintro e w5 ⟨r2, rfl, hn2, hb⟩
      rw [sgn_false, KE.out] at hn2
      have hB := Below.andThen HA.out.2.1 hb
      have hR3 := KR.out.2.2.1.next hB
      have hR4 := KR.out.2.2.2.1.next hB
      have p0 := (Row.cell hR3 0).trans (show _ = some (.slice none 0 0) from rfl)
      have p1 := (Row.cell hR3 1).trans (show _ = some (.bool false) from rfl)
      have p2 := (Row.cell hR4 0).trans (show _ = some (.slice none 0 0) from rfl)
      have p3 := (Row.cell hR4 1).trans (show _ = some (.bool false) from rfl)
      have f0 := Row.frozen hR3 0
      have f1 := Row.frozen hR3 1
      have f2 := Row.frozen hR4 0
      have f3 := Row.frozen hR4 1
      have hq := HA.out.1.next hb
      have HBB := Lib.hid (Below.andThen HA.out.2.2 hb)
      obtain ⟨q1, q2, q3, q4, rfl, _, _, _⟩ := hq.form
      obtain ⟨t1, t2, t3, t4, rfl, _, _, _⟩ := hn2.form
      have HRR := Lib.hid (And.intro hR3 (And.intro hR4 (And.intro hq hn2)))
      have hne := HE.out.2.2
      clear hn2 hb hB hR3 hR4 hq
      go_wp2_with fail
      refine bodyPost_ret (v := .tuple #[.agg #[.slice q1 q2 q3, .bool q4], .agg #[.slice t1 t2 t3, .bool t4]]) (by first | (simp [results, Tryd.results34, go_sem]; done) | simp [results, Tryd.results34, go_sem, *]) rfl ?_
      obtain ⟨g3, g4, gq, gr⟩ := HRR.out
      have u1 := g3.set 0 (.slice q1 q2 q3)
      have u2 := (g4.other (Ne.symm hne) 0 (.slice q1 q2 q3)).other (Ne.symm hne) 1 (.bool q4)
      have u3 := u2.set 0 (.slice t1 t2 t3)
      exact ⟨_, _, rfl, NumV.store u3 (NumV.store u2 (NumV.store u1 (NumV.store g3 gq))), NumV.store u3 (NumV.store u2 (NumV.store u1 (NumV.store g3 gr))),
        (((HBB.out.setCell (p := ⟨b3, 0, none⟩) HE.out.1 _).setCell (p := ⟨b3, 1, none⟩) HE.out.1 _).setCell (p := ⟨b4, 0, none⟩) HE.out.2.1 _).setCell (p := ⟨b4, 1, none⟩) HE.out.2.1 _⟩
    · have hm0 : 0 < M := by
        rcases Nat.eq_zero_or_pos M with h | h
        · exact absurd (hM0.2 h) h0
        · exact h
      have KQ := Lib.hid (show In.sgn (A + 1) false = x / y from by rw [HD.out.1, decide_eq_true hm0]; rfl)
      have KE := Lib.hid (show ((y.natAbs - M : Nat) : Int) = x % y from by rw [HD.out.2, decide_eq_true hm0]; rfl)
      have d0 : decide (0 < (RL : Int)) = true := by simp; omega
      have CPL := Lib.hid (plus_any (.slice qo QL qc) (.slice (some ⟨w3.heap.size, 0, none⟩) 1 1) A 1 (w3.alloc (.cells #[.int .i64 1] 3)).drew (KN.out.1.next (((Below.refl _ _).alloc (Nat.le_refl _) _).drew)) ((one_nsl w3).next (Below.refl _ _).drew) (by rw [HQL.out]; have := HLQ.out; omega) (by decide))
      have hl1 : Below w3.heap.size w3 (w3.alloc (.cells #[.int .i64 1] 3)).drew := ((Below.refl _ _).alloc (Nat.le_refl _) _).drew
      have lb2 := KR.out.2.1.lt
      clear hM0 hm0 HD HS HS'
      go_upto_region 3 with (fail)
      have m0 : w3.drew.cell? ⟨b2, 0, none⟩ = some (.slice o' L' c') := k3
      go_region_held3 (fun w' => w'.cell? ⟨b2, 0, none⟩ = some (.slice o' L' c')) (first | assumption | go_keep) (first
        | (go_at_call 47; with_reducible refine Calls.mono CPL.out ?_; rintro e wa ⟨r1, rfl, hn1, hb1⟩; have HA := Lib.hid (And.intro hn1 (Below.andThen hl1 hb1)); have na := (HA.out.2.cell (p := ⟨b2, 0, none⟩) lb2).trans k3; clear hn1 hb1)
        | (go_at_call 49; with_reducible refine Calls.mono (CM.out _ (HYY.out.next HA.out.2) (KN.out.2.next HA.out.2)) ?_; rintro e wb ⟨r2, rfl, hn2, hb2⟩; have HB := Lib.hid (And.intro hn2 (And.intro (HA.out.1.next hb2) (Below.andThen HA.out.2 hb2))); have nb := (HB.out.2.2.cell (p := ⟨b2, 0, none⟩) lb2).trans k3; clear hn2 hb2))
      replace KR := Lib.hid (And.intro (KR.out.1.next HB.out.2.2) (And.intro (KR.out.2.1.next HB.out.2.2) (And.intro (KR.out.2.2.1.next HB.out.2.2) (And.intro (KR.out.2.2.2.1.next HB.out.2.2) (Below.andThen KR.out.2.2.2.2 HB.out.2.2)))))
      replace KN := Lib.hid (And.intro HB.out.2.1 HB.out.1)
      clear HA HB CPL CM hl1 lb2 m0 na nb d0 h00
      go_upto_region 4 with (fail)
      have CS1 := Lib.hid (fun W h => signed_any r1 (A + 1) false W h)
      rw [KQ.out] at CS1
      have m1 := (Row.cell KR.out.1 1).trans (show _ = some (.bool true) from rfl)
      have m3 := (Row.cell KR.out.2.1 1).trans (show _ = some (.bool true) from rfl)
      go_wp2_with fail
      refine Calls.mono (CS1.out _ KN.out.1) ?_
      rintro e w4 ⟨r1, rfl, hn1, hb⟩
      have HA := Lib.hid (And.intro hn1 (And.intro hb (Below.andThen KR.out.2.2.2.2 hb)))
      clear hn1 hb m1 m3 CS1
      go_wp2_with fail
      refine Calls.mono (signed_any r2 (y.natAbs - M) false _ (KN.out.2.next HA.out.2.1)) ?_
      rintro e w5 ⟨r2, rfl, hn2, hb⟩
      rw [sgn_false, KE.out] at hn2
      have hB := Below.andThen HA.out.2.1 hb
      have hR3 := KR.out.2.2.1.next hB
      have hR4 := KR.out.2.2.2.1.next hB
      have p0 := (Row.cell hR3 0).trans (show _ = some (.slice none 0 0) from rfl)
      have p1 := (Row.cell hR3 1).trans (show _ = some (.bool false) from rfl)
      have p2 := (Row.cell hR4 0).trans (show _ = some (.slice none 0 0) from rfl)
      have p3 := (Row.cell hR4 1).trans (show _ = some (.bool false) from rfl)
      have f0 := Row.frozen hR3 0
      have f1 := Row.frozen hR3 1
      have f2 := Row.frozen hR4 0
      have f3 := Row.frozen hR4 1
      have hq := HA.out.1.next hb
      have HBB := Lib.hid (Below.andThen HA.out.2.2 hb)
      obtain ⟨q1, q2, q3, q4, rfl, _, _, _⟩ := hq.form
      obtain ⟨t1, t2, t3, t4, rfl, _, _, _⟩ := hn2.form
      have HRR := Lib.hid (And.intro hR3 (And.intro hR4 (And.intro hq hn2)))
      have hne := HE.out.2.2
      clear hn2 hb hB hR3 hR4 hq
      go_wp2_with fail
      refine bodyPost_ret (v := .tuple #[.agg #[.slice q1 q2 q3, .bool q4], .agg #[.slice t1 t2 t3, .bool t4]]) (by first | (simp [results, Tryd.results34, go_sem]; done) | simp [results, Tryd.results34, go_sem, *]) rfl ?_
      obtain ⟨g3, g4, gq, gr⟩ := HRR.out
      have u1 := g3.set 0 (.slice q1 q2 q3)
      have u2 := (g4.other (Ne.symm hne) 0 (.slice q1 q2 q3)).other (Ne.symm hne) 1 (.bool q4)
      have u3 := u2.set 0 (.slice t1 t2 t3)
      exact ⟨_, _, rfl, NumV.store u3 (NumV.store u2 (NumV.store u1 (NumV.store g3 gq))), NumV.store u3 (NumV.store u2 (NumV.store u1 (NumV.store g3 gr))),
        (((HBB.out.setCell (p := ⟨b3, 0, none⟩) HE.out.1 _).setCell (p := ⟨b3, 1, none⟩) HE.out.1 _).setCell (p := ⟨b4, 0, none⟩) HE.out.2.1 _).setCell (p := ⟨b4, 1, none⟩) HE.out.2.1 _⟩
end Go.Proofs.YtjhnfejlkljkjaaDoor
