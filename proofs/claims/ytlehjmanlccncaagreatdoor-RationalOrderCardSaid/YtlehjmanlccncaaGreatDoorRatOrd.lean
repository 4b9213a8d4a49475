/- For every input, RationalOrder returns true; the listed tables hold what the program's text lays. -/
import Derived.Test.YtlehjmanlccncaaGreatDoorRatQC
import Derived.Deep.DeepCutAuto
set_option linter.unusedVariables false
set_option linter.unusedSimpArgs false
namespace Go.Proofs.YtlehjmanlccncaaGreatDoor
open Go.RowKit Go.ChangeShapes Go.WideShapes Go.ChangeAt

theorem rows4 (w : World) (t0 t1 t2 t3 : TypeId) (C0 C1 C2 C3 : List Value) (W : World)
    (e : W = (((w.alloc (.cells C0.toArray t0)).alloc (.cells C1.toArray t1)).alloc (.cells C2.toArray t2)).alloc (.cells C3.toArray t3)) :
    Row W w.heap.size t0 C0 ∧ Row W (w.heap.size + 1) t1 C1 ∧ Row W (w.heap.size + 1 + 1) t2 C2 ∧ Row W (w.heap.size + 1 + 1 + 1) t3 C3 ∧ Below w.heap.size w W := by
  subst e
  have h0 := Row.new w t0 C0
  have h1 := Row.new (w.alloc (.cells C0.toArray t0)) t1 C1
  have h2 := Row.new ((w.alloc (.cells C0.toArray t0)).alloc (.cells C1.toArray t1)) t2 C2
  have h3 := Row.new (((w.alloc (.cells C0.toArray t0)).alloc (.cells C1.toArray t1)).alloc (.cells C2.toArray t2)) t3 C3
  simp only [World.size_alloc] at h1 h2 h3
  exact ⟨((h0.alloc _).alloc _).alloc _, (h1.alloc _).alloc _, h2.alloc _, h3, by (repeat' first | exact Below.refl _ _ | assumption | (refine below_drewN ?_ _) | (refine Below.drew ?_) | (refine Below.alloc ?_ ?_ _) | (refine Below.setCell ?_ ?_ _) | (simp; done) | (simp; omega) | omega)⟩
theorem zero_tx' : ((⟨#[48]⟩ : ByteArray), (⟨#[49]⟩ : ByteArray)) = Ra.tx (some (0, 1)) := by
  rw [(In.num_some num0).1, (In.num_some num1).1]
  rfl
/-- the four functions, whatever comes out -/
theorem op_cases (o : Option (Int × Int)) : ∃ (s1 s2 : ByteArray) (es : Int), resV o = .tuple #[ratV (s1, s2), .int .i64 es] ∧ ((es = 40 ∧ o = none) ∨ (es = 0 ∧ ∃ r, o = some r ∧ Ra.tx (some r) = (s1, s2))) := by
  cases o with
  | none => exact ⟨_, _, _, rfl, .inl ⟨rfl, rfl⟩⟩
  | some r => exact ⟨_, _, _, rfl, .inr ⟨rfl, r, rfl, rfl⟩⟩
theorem list_ne {x y : ByteArray} (h : ¬ x = y) : ¬ x.toList = y.toList := fun k => h (ba_ext (by rwa [ByteArray.toList_eq, ByteArray.toList_eq] at k))
set_option maxRecDepth 100000 in
set_option maxHeartbeats 8000000 in
theorem rationalOrder_law (x0 x1 x2 x3 y0 y1 y2 y3 z0 z1 z2 z3 t0 t1 : Int) (w : World) (T : RW w)
    (hx0 : -9223372036854775808 ≤ x0 ∧ x0 ≤ 9223372036854775807)
    (hx1 : -9223372036854775808 ≤ x1 ∧ x1 ≤ 9223372036854775807)
    (hx2 : -9223372036854775808 ≤ x2 ∧ x2 ≤ 9223372036854775807)
    (hx3 : -9223372036854775808 ≤ x3 ∧ x3 ≤ 9223372036854775807)
    (hy0 : -9223372036854775808 ≤ y0 ∧ y0 ≤ 9223372036854775807)
    (hy1 : -9223372036854775808 ≤ y1 ∧ y1 ≤ 9223372036854775807)
    (hy2 : -9223372036854775808 ≤ y2 ∧ y2 ≤ 9223372036854775807)
    (hy3 : -9223372036854775808 ≤ y3 ∧ y3 ≤ 9223372036854775807)
    (hz0 : -9223372036854775808 ≤ z0 ∧ z0 ≤ 9223372036854775807)
    (hz1 : -9223372036854775808 ≤ z1 ∧ z1 ≤ 9223372036854775807)
    (hz2 : -9223372036854775808 ≤ z2 ∧ z2 ≤ 9223372036854775807)
    (hz3 : -9223372036854775808 ≤ z3 ∧ z3 ≤ 9223372036854775807)
    (ht0 : -9223372036854775808 ≤ t0 ∧ t0 ≤ 9223372036854775807)
    (ht1 : -9223372036854775808 ≤ t1 ∧ t1 ≤ 9223372036854775807)
    : Calls Tryz.prog 7 #[.agg #[.int .i64 x0, .int .i64 x1, .int .i64 x2, .int .i64 x3], .agg #[.int .i64 y0, .int .i64 y1, .int .i64 y2, .int .i64 y3], .agg #[.int .i64 z0, .int .i64 z1, .int .i64 z2, .int .i64 z3], .agg #[.int .i64 t0, .int .i64 t1]] w fun r w' => r = .returned (.bool true) ∧ Below w.heap.size w w' := by
  have HT := Lib.hid T
  have HT0 := Lib.hid T
  have BB := Lib.hid (Below.refl w.heap.size w)
  have HS := Lib.hid sane_any
  have CI := Lib.hid is_any
  have CX := Lib.hid (fun W => Long_any x0 x1 x2 x3 W hx0 hx1 hx2 hx3)
  have CY := Lib.hid (fun W => Long_any y0 y1 y2 y3 W hy0 hy1 hy2 hy3)
  have CZ := Lib.hid (fun W => Long_any z0 z1 z2 z3 W hz0 hz1 hz2 hz3)
  have CS := Lib.hid (fun W => Small_any t0 t1 W ht0 ht1)
  have okt := (small_ok t0 t1).1
  generalize smallP t0 t1 = t at *
  clear T hx0 hx1 hx2 hx3 hy0 hy1 hy2 hy3 hz0 hz1 hz2 hz3 ht0 ht1
  go_enter Tryz.func7, Tryz.ntmps7
  go_upto_region 1 with (fail)
  refine wp_named fun w1 hq => ?_
  obtain ⟨r0, r1, r2, r3, hb⟩ := rows4 w 24 24 24 25 [.int .i64 x0, .int .i64 x1, .int .i64 x2, .int .i64 x3] [.int .i64 y0, .int .i64 y1, .int .i64 y2, .int .i64 y3] [.int .i64 z0, .int .i64 z1, .int .i64 z2, .int .i64 z3] [.int .i64 t0, .int .i64 t1] w1 hq
  have X := Lib.hid r0
  have Y := Lib.hid r1
  have Z := Lib.hid r2
  have S := Lib.hid r3
  generalize w.heap.size + 1 + 1 + 1 = bS at *
  generalize w.heap.size + 1 + 1 = bZ at *
  generalize w.heap.size + 1 = bY at *
  obtain ⟨bX, ebX⟩ : ∃ b, b = w.heap.size := ⟨_, rfl⟩
  rw [← ebX] at X ⊢
  replace HT := Lib.hid (HT.out.next hb)
  replace BB := Lib.hid (Below.andThen BB.out hb)
  clear hq hb ebX r0 r1 r2 r3
  go_wp2_with fail
  with_reducible refine Calls.mono (HS.out _ HT.out) ?_
  rintro e w2 ⟨rfl, hb⟩
  replace HT := Lib.hid (HT.out.next hb)
  replace X := Lib.hid (X.out.next hb)
  replace Y := Lib.hid (Y.out.next hb)
  replace Z := Lib.hid (Z.out.next hb)
  replace S := Lib.hid (S.out.next hb)
  replace BB := Lib.hid (Below.andThen BB.out hb)
  clear hb
  go_upto_region 2 with (fail)
  have cX0 := (X.out.cell 0).trans (show _ = some (Value.int .i64 _) from rfl)
  have cX1 := (X.out.cell 1).trans (show _ = some (Value.int .i64 _) from rfl)
  have cX2 := (X.out.cell 2).trans (show _ = some (Value.int .i64 _) from rfl)
  have cX3 := (X.out.cell 3).trans (show _ = some (Value.int .i64 _) from rfl)
  have lX := X.out.lt
  go_wp2_with fail
  clear cX0 cX1 cX2 cX3 lX X
  with_reducible refine Calls.mono (CX.out _) ?_
  rintro e w3 ⟨p, rfl, hpp, -, -, hb⟩
  replace HT := Lib.hid (HT.out.next hb)
  replace Y := Lib.hid (Y.out.next hb)
  replace Z := Lib.hid (Z.out.next hb)
  replace S := Lib.hid (S.out.next hb)
  replace BB := Lib.hid (Below.andThen BB.out hb)
  clear hb
  clear CX
  obtain ⟨p1, p2, ep⟩ : ∃ u1 u2, Ra.tx (some p) = (u1, u2) := ⟨_, _, rfl⟩
  rw [ep]
  go_upto_region 3 with (fail)
  refine wp_named fun v3 hq => ?_
  obtain ⟨bA, ebA⟩ : ∃ b, b = w3.heap.size := ⟨_, rfl⟩
  have A := Lib.hid (show Row v3 bA 23 [.string p1, .string p2] from by rw [hq, ebA]; first | exact Row.new _ _ _ | exact ((Row.new w3 23 [.string ⟨#[]⟩, .string ⟨#[]⟩]).set 0 (.string p1)).set 1 (.string p2))
  have hb : Below w3.heap.size w3 v3 := by rw [hq]; first | exact (Below.refl _ _).alloc (Nat.le_refl _) _ | exact (((Below.refl _ _).alloc (Nat.le_refl _) _).setCell (p := ⟨w3.heap.size, 0, none⟩) (Nat.le_refl _) _).setCell (p := ⟨w3.heap.size, 1, none⟩) (Nat.le_refl _) _
  replace HT := Lib.hid (HT.out.next hb)
  replace Y := Lib.hid (Y.out.next hb)
  replace Z := Lib.hid (Z.out.next hb)
  replace S := Lib.hid (S.out.next hb)
  replace BB := Lib.hid (Below.andThen BB.out hb)
  rw [← ebA]
  clear hq hb ebA
  have cX0 := (Y.out.cell 0).trans (show _ = some (Value.int .i64 _) from rfl)
  have cX1 := (Y.out.cell 1).trans (show _ = some (Value.int .i64 _) from rfl)
  have cX2 := (Y.out.cell 2).trans (show _ = some (Value.int .i64 _) from rfl)
  have cX3 := (Y.out.cell 3).trans (show _ = some (Value.int .i64 _) from rfl)
  have lX := Y.out.lt
  go_wp2_with fail
  clear cX0 cX1 cX2 cX3 lX Y
  with_reducible refine Calls.mono (CY.out _) ?_
  rintro e w4 ⟨q, rfl, hpq, -, -, hb⟩
  replace HT := Lib.hid (HT.out.next hb)
  replace A := Lib.hid (A.out.next hb)
  replace Z := Lib.hid (Z.out.next hb)
  replace S := Lib.hid (S.out.next hb)
  replace BB := Lib.hid (Below.andThen BB.out hb)
  clear hb
  clear CY
  obtain ⟨q1, q2, eq⟩ : ∃ u1 u2, Ra.tx (some q) = (u1, u2) := ⟨_, _, rfl⟩
  rw [eq]
  go_upto_region 4 with (fail)
  refine wp_named fun v4 hq => ?_
  obtain ⟨bB, ebB⟩ : ∃ b, b = w4.heap.size := ⟨_, rfl⟩
  have B := Lib.hid (show Row v4 bB 23 [.string q1, .string q2] from by rw [hq, ebB]; first | exact Row.new _ _ _ | exact ((Row.new w4 23 [.string ⟨#[]⟩, .string ⟨#[]⟩]).set 0 (.string q1)).set 1 (.string q2))
  have hb : Below w4.heap.size w4 v4 := by rw [hq]; first | exact (Below.refl _ _).alloc (Nat.le_refl _) _ | exact (((Below.refl _ _).alloc (Nat.le_refl _) _).setCell (p := ⟨w4.heap.size, 0, none⟩) (Nat.le_refl _) _).setCell (p := ⟨w4.heap.size, 1, none⟩) (Nat.le_refl _) _
  replace HT := Lib.hid (HT.out.next hb)
  replace A := Lib.hid (A.out.next hb)
  replace Z := Lib.hid (Z.out.next hb)
  replace S := Lib.hid (S.out.next hb)
  replace BB := Lib.hid (Below.andThen BB.out hb)
  rw [← ebB]
  clear hq hb ebB
  have cX0 := (Z.out.cell 0).trans (show _ = some (Value.int .i64 _) from rfl)
  have cX1 := (Z.out.cell 1).trans (show _ = some (Value.int .i64 _) from rfl)
  have cX2 := (Z.out.cell 2).trans (show _ = some (Value.int .i64 _) from rfl)
  have cX3 := (Z.out.cell 3).trans (show _ = some (Value.int .i64 _) from rfl)
  have lX := Z.out.lt
  go_wp2_with fail
  clear cX0 cX1 cX2 cX3 lX Z
  with_reducible refine Calls.mono (CZ.out _) ?_
  rintro e w5 ⟨r, rfl, hpr, -, -, hb⟩
  replace HT := Lib.hid (HT.out.next hb)
  replace A := Lib.hid (A.out.next hb)
  replace B := Lib.hid (B.out.next hb)
  replace S := Lib.hid (S.out.next hb)
  replace BB := Lib.hid (Below.andThen BB.out hb)
  clear hb
  clear CZ
  obtain ⟨r1, r2, er⟩ : ∃ u1 u2, Ra.tx (some r) = (u1, u2) := ⟨_, _, rfl⟩
  rw [er]
  go_upto_region 5 with (fail)
  refine wp_named fun v5 hq => ?_
  obtain ⟨bC, ebC⟩ : ∃ b, b = w5.heap.size := ⟨_, rfl⟩
  have C := Lib.hid (show Row v5 bC 23 [.string r1, .string r2] from by rw [hq, ebC]; first | exact Row.new _ _ _ | exact ((Row.new w5 23 [.string ⟨#[]⟩, .string ⟨#[]⟩]).set 0 (.string r1)).set 1 (.string r2))
  have hb : Below w5.heap.size w5 v5 := by rw [hq]; first | exact (Below.refl _ _).alloc (Nat.le_refl _) _ | exact (((Below.refl _ _).alloc (Nat.le_refl _) _).setCell (p := ⟨w5.heap.size, 0, none⟩) (Nat.le_refl _) _).setCell (p := ⟨w5.heap.size, 1, none⟩) (Nat.le_refl _) _
  replace HT := Lib.hid (HT.out.next hb)
  replace A := Lib.hid (A.out.next hb)
  replace B := Lib.hid (B.out.next hb)
  replace S := Lib.hid (S.out.next hb)
  replace BB := Lib.hid (Below.andThen BB.out hb)
  rw [← ebC]
  clear hq hb ebC
  obtain ⟨cS0, cS1⟩ := S.out.two
  have lS := S.out.lt
  go_wp2_with fail
  clear cS0 cS1 lS
  clear S
  obtain ⟨u1, u2, et⟩ : ∃ u1 u2, Ra.tx (some t) = (u1, u2) := ⟨_, _, rfl⟩
  rw [et] at CS
  with_reducible refine Calls.mono (CS.out _) ?_
  rintro e w6 ⟨rfl, hb⟩
  replace HT := Lib.hid (HT.out.next hb)
  replace A := Lib.hid (A.out.next hb)
  replace B := Lib.hid (B.out.next hb)
  replace C := Lib.hid (C.out.next hb)
  replace BB := Lib.hid (Below.andThen BB.out hb)
  clear hb
  go_upto_region 6 with (fail)
  refine wp_named fun v6 hq => ?_
  obtain ⟨bS, ebS⟩ : ∃ b, b = w6.heap.size := ⟨_, rfl⟩
  have S := Lib.hid (show Row v6 bS 23 [.string u1, .string u2] from by rw [hq, ebS]; first | exact Row.new _ _ _ | exact ((Row.new w6 23 [.string ⟨#[]⟩, .string ⟨#[]⟩]).set 0 (.string u1)).set 1 (.string u2))
  have hb : Below w6.heap.size w6 v6 := by rw [hq]; first | exact (Below.refl _ _).alloc (Nat.le_refl _) _ | exact (((Below.refl _ _).alloc (Nat.le_refl _) _).setCell (p := ⟨w6.heap.size, 0, none⟩) (Nat.le_refl _) _).setCell (p := ⟨w6.heap.size, 1, none⟩) (Nat.le_refl _) _
  replace HT := Lib.hid (HT.out.next hb)
  replace A := Lib.hid (A.out.next hb)
  replace B := Lib.hid (B.out.next hb)
  replace C := Lib.hid (C.out.next hb)
  replace BB := Lib.hid (Below.andThen BB.out hb)
  rw [← ebS]
  clear hq hb ebS
  have iab := Ra.cmp_in hpp hpq
  have ibc := Ra.cmp_in hpq hpr
  have iac := Ra.cmp_in hpp hpr
  have eab := Ra.cmp_eq hpp hpq
  have tr1 := Ra.cmp_trans hpp hpq hpr
  have tr2 := Ra.cmp_trans_lt hpp hpq hpr
  have ctu := Ra.cmp_turn hpp hpq
  have cse := (Ra.cmp_eq hpp hpp).2 rfl
  have itz := Ra.cmp_in okt Ra.zero_ok
  have htxe : p = q ↔ (p1 = q1 ∧ p2 = q2) := by
    constructor
    · intro h
      rw [h, eq] at ep
      injection ep with h1 h2
      exact ⟨h1.symm, h2.symm⟩
    · rintro ⟨h1, h2⟩
      have := Ra.tx_inj (Ra.okO_some hpp) (Ra.okO_some hpq) (by rw [ep, eq, h1, h2])
      exact Option.some.inj this
  rw [htxe] at eab
  obtain ⟨d1, d2, ed, hd, hdc⟩ := op_cases (Ra.subO (some p) (some q))
  obtain ⟨f1, f2, ef, hf, hfc⟩ := op_cases (Ra.addO (some p) (some t))
  obtain ⟨g1, g2, eg, hg, hgc⟩ := op_cases (Ra.addO (some q) (some t))
  obtain ⟨m1, m2, em, hm, hmc⟩ := op_cases (Ra.mulO (some p) (some t))
  obtain ⟨n1, n2, en, hn, hnc⟩ := op_cases (Ra.mulO (some q) (some t))
  have CSU := Lib.hid (fun W (T : RW W) => Sub_r (Ra.tx (some p)) (Ra.tx (some q)) W T.tab)
  rw [Ra.val_tx hpp, Ra.val_tx hpq, hd, ep, eq] at CSU
  have CA1 := Lib.hid (fun W (T : RW W) => Add_r (Ra.tx (some p)) (Ra.tx (some t)) W T.tab)
  rw [Ra.val_tx hpp, Ra.val_tx okt, hf, ep, et] at CA1
  have CA2 := Lib.hid (fun W (T : RW W) => Add_r (Ra.tx (some q)) (Ra.tx (some t)) W T.tab)
  rw [Ra.val_tx hpq, Ra.val_tx okt, hg, eq, et] at CA2
  have CM1 := Lib.hid (fun W (T : RW W) => Mul_r (Ra.tx (some p)) (Ra.tx (some t)) W T.tab)
  rw [Ra.val_tx hpp, Ra.val_tx okt, hm, ep, et] at CM1
  have CM2 := Lib.hid (fun W (T : RW W) => Mul_r (Ra.tx (some q)) (Ra.tx (some t)) W T.tab)
  rw [Ra.val_tx hpq, Ra.val_tx okt, hn, eq, et] at CM2
  have C1 := Lib.hid (Cmp_q hpp hpq rfl)
  have C2 := Lib.hid (Cmp_q hpq hpr rfl)
  have C3 := Lib.hid (Cmp_q hpp hpr rfl)
  have C4 := Lib.hid (Cmp_q hpq hpp ctu)
  have C5 := Lib.hid (Cmp_q hpp hpp cse)
  have C6 := Lib.hid (Cmp_q okt Ra.zero_ok rfl)
  rw [ep, eq] at C1 C4
  rw [eq, er] at C2
  rw [ep, er] at C3
  rw [ep] at C5
  rw [et, ← zero_tx'] at C6
  -- the differences, the sums, the products
  have HD := Lib.hid (show ed = 40 ∨ (ed = 0 ∧ ∀ W, RW W → Calls Tryz.prog 20 #[ratV (d1, d2), ratV (⟨#[48]⟩, ⟨#[49]⟩)] W fun e w' => e = .returned (.int .i64 (Ra.cmpO (some p) (some q))) ∧ Below W.heap.size W w') from by
    rcases hdc with ⟨h, -⟩ | ⟨h, d, h2, h3⟩
    · exact .inl h
    · refine .inr ⟨h, fun W T => ?_⟩
      have := Cmp_q (Ra.subO_ok _ _ d h2) Ra.zero_ok (Ra.cmp_sub hpp hpq h2) W T
      rwa [h3, ← zero_tx'] at this)
  have HA := Lib.hid (show ef = 40 ∨ (ef = 0 ∧ eg = 40) ∨ (ef = 0 ∧ eg = 0 ∧ ∀ W, RW W → Calls Tryz.prog 20 #[ratV (f1, f2), ratV (g1, g2)] W fun e w' => e = .returned (.int .i64 (Ra.cmpO (some p) (some q))) ∧ Below W.heap.size W w') from by
    rcases hfc with ⟨h, -⟩ | ⟨h, d, h2, h3⟩
    · exact .inl h
    · rcases hgc with ⟨k, -⟩ | ⟨k, g, k2, k3⟩
      · exact .inr (.inl ⟨h, k⟩)
      · refine .inr (.inr ⟨h, k, fun W T => ?_⟩)
        have := Cmp_q (Ra.addO_ok _ _ d h2) (Ra.addO_ok _ _ g k2) (Ra.cmp_add hpp hpq okt h2 k2) W T
        rwa [h3, k3] at this)
  have HM := Lib.hid (show em = 40 ∨ (em = 0 ∧ en = 40) ∨ (em = 0 ∧ en = 0 ∧ ∀ W, RW W → Calls Tryz.prog 20 #[ratV (m1, m2), ratV (n1, n2)] W fun e w' => e = .returned (.int .i64 (Ra.cmpO (some p) (some q) * Ra.cmpO (some t) (some (0, 1)))) ∧ Below W.heap.size W w') from by
    rcases hmc with ⟨h, -⟩ | ⟨h, d, h2, h3⟩
    · exact .inl h
    · rcases hnc with ⟨k, -⟩ | ⟨k, g, k2, k3⟩
      · exact .inr (.inl ⟨h, k⟩)
      · refine .inr (.inr ⟨h, k, fun W T => ?_⟩)
        have := Cmp_q (Ra.mulO_ok _ _ d h2) (Ra.mulO_ok _ _ g k2) (Ra.cmp_mul hpp hpq okt h2 k2) W T
        rwa [h3, k3] at this)
  clear hd hdc hf hfc hg hgc hm hmc hn hnc ep eq er et htxe hpp hpq hpr okt ctu cse
  generalize Ra.cmpO (some p) (some q) = ab at *
  generalize Ra.cmpO (some q) (some r) = bc at *
  generalize Ra.cmpO (some p) (some r) = ac at *
  generalize Ra.cmpO (some t) (some (0, 1)) = tz at *
  have HTR := Lib.hid (And.intro tr1 tr2)
  have HC := Lib.hid (show (ab = 0 ∧ p1 = q1 ∧ p2 = q2) ∨ (ab = -1 ∧ ¬ p1.toList = q1.toList) ∨ (ab = -1 ∧ p1 = q1 ∧ ¬ p2.toList = q2.toList) ∨ (ab = 1 ∧ ¬ p1.toList = q1.toList) ∨ (ab = 1 ∧ p1 = q1 ∧ ¬ p2.toList = q2.toList) from by
    by_cases h : ab = 0
    · exact .inl ⟨h, eab.1 h⟩
    · have h2 : ab = -1 ∨ ab = 1 := by omega
      have h3 : ¬ p1 = q1 ∨ (p1 = q1 ∧ ¬ p2 = q2) := by
        by_cases k : p1 = q1
        · exact .inr ⟨k, fun k2 => h (eab.2 ⟨k, k2⟩)⟩
        · exact .inl k
      rcases h2 with h2 | h2
      · rcases h3 with h3 | ⟨h3, h4⟩
        · exact .inr (.inl ⟨h2, list_ne h3⟩)
        · exact .inr (.inr (.inl ⟨h2, h3, list_ne h4⟩))
      · rcases h3 with h3 | ⟨h3, h4⟩
        · exact .inr (.inr (.inr (.inl ⟨h2, list_ne h3⟩)))
        · exact .inr (.inr (.inr (.inr ⟨h2, h3, list_ne h4⟩))))
  have HI := Lib.hid (And.intro iab (And.intro ibc (And.intro iac itz)))
  clear tr1 tr2 eab iab ibc iac itz
  obtain ⟨cA0, cA1⟩ := A.out.two
  have lA := A.out.lt
  obtain ⟨cB0, cB1⟩ := B.out.two
  have lB := B.out.lt
  go_wp2_with fail
  clear cA0 cA1 lA cB0 cB1 lB
  with_reducible refine Calls.mono (C1.out _ HT.out) ?_
  rintro e w7 ⟨rfl, hb⟩
  replace HT := Lib.hid (HT.out.next hb)
  replace A := Lib.hid (A.out.next hb)
  replace B := Lib.hid (B.out.next hb)
  replace C := Lib.hid (C.out.next hb)
  replace S := Lib.hid (S.out.next hb)
  replace BB := Lib.hid (Below.andThen BB.out hb)
  clear hb
  go_upto_region 7 with (fail)
  obtain ⟨cB0, cB1⟩ := B.out.two
  have lB := B.out.lt
  obtain ⟨cC0, cC1⟩ := C.out.two
  have lC := C.out.lt
  go_wp2_with fail
  clear cB0 cB1 lB cC0 cC1 lC
  with_reducible refine Calls.mono (C2.out _ HT.out) ?_
  rintro e w8 ⟨rfl, hb⟩
  replace HT := Lib.hid (HT.out.next hb)
  replace A := Lib.hid (A.out.next hb)
  replace B := Lib.hid (B.out.next hb)
  replace C := Lib.hid (C.out.next hb)
  replace S := Lib.hid (S.out.next hb)
  replace BB := Lib.hid (Below.andThen BB.out hb)
  clear hb
  go_upto_region 8 with (fail)
  obtain ⟨cA0, cA1⟩ := A.out.two
  have lA := A.out.lt
  obtain ⟨cC0, cC1⟩ := C.out.two
  have lC := C.out.lt
  go_wp2_with fail
  clear cA0 cA1 lA cC0 cC1 lC
  with_reducible refine Calls.mono (C3.out _ HT.out) ?_
  rintro e w9 ⟨rfl, hb⟩
  replace HT := Lib.hid (HT.out.next hb)
  replace A := Lib.hid (A.out.next hb)
  replace B := Lib.hid (B.out.next hb)
  replace C := Lib.hid (C.out.next hb)
  replace S := Lib.hid (S.out.next hb)
  replace BB := Lib.hid (Below.andThen BB.out hb)
  clear hb
  go_upto_region 9 with (fail)
  clear C1 C2 C3 HS
  have HIab := Lib.hid (show -1 ≤ ab ∧ ab ≤ 1 from HI.out.1)
  go_cut [92] (fun v wx => v = .bool false ∧ Below w9.heap.size w9 wx)
  case first =>
    clear CSU CA1 CA2 CM1 CM2 C6 HD HA HM CI
    have HQ := Lib.hid (show (ab = 1) ∨ (ab ≤ 0 ∧ bc = 1) ∨ (ab ≤ 0 ∧ bc = 0 ∧ ac ≤ 0) ∨ (ab ≤ 0 ∧ bc = -1 ∧ ac < 0) from by
      have h1 := HI.out.1
      have h2 := HI.out.2.1
      have h3 := HTR.out
      by_cases k : ab = 1
      · exact .inl k
      · have k2 : bc = 1 ∨ bc = 0 ∨ bc = -1 := by omega
        rcases k2 with k2 | k2 | k2
        · exact .inr (.inl ⟨by omega, k2⟩)
        · exact .inr (.inr (.inl ⟨by omega, k2, h3.1 (by omega) (by omega)⟩))
        · exact .inr (.inr (.inr ⟨by omega, k2, h3.2 (by omega) (by omega)⟩)))
    clear HTR HI
    rcases HC.out with ⟨rfl, rfl, rfl⟩ | ⟨rfl, hne⟩ | ⟨rfl, rfl, hne⟩ | ⟨rfl, hne⟩ | ⟨rfl, rfl, hne⟩
    all_goals
      rcases HQ.out with hq1 | ⟨hq1, rfl⟩ | ⟨hq1, rfl, hq2⟩ | ⟨hq1, rfl, hq2⟩
    all_goals first
      | (exfalso; omega)
      | (clear HC HQ hq1
         obtain ⟨cA0, cA1⟩ := A.out.two
         have lA := A.out.lt
         obtain ⟨cB0, cB1⟩ := B.out.two
         have lB := B.out.lt
         go_wp2_with fail
         clear cA0 cA1 lA cB0 cB1 lB
         with_reducible refine Calls.mono (C4.out _ HT.out) ?_
         rintro e x1 ⟨rfl, hb⟩
         replace A := Lib.hid (A.out.next hb)
         replace B := Lib.hid (B.out.next hb)
         replace HT := Lib.hid (HT.out.next hb)
         have HB := Lib.hid hb
         clear hb
         obtain ⟨cA0, cA1⟩ := A.out.two
         have lA := A.out.lt
         obtain ⟨cB0, cB1⟩ := B.out.two
         have lB := B.out.lt
         go_wp2_with fail
         with_reducible refine Calls.mono (C5.out _ HT.out) ?_
         rintro e x2 ⟨rfl, hb⟩
         replace HB := Lib.hid (Below.andThen HB.out hb)
         clear cA0 cA1 lA cB0 cB1 lB
         clear hb
         go_wp2_with fail
         go_meet
         exact ⟨by first | rfl | (simp; omega), HB.out⟩)
  rename World => w10
  obtain ⟨rfl, hb⟩ := hcut
  replace HT := Lib.hid (HT.out.next hb)
  replace A := Lib.hid (A.out.next hb)
  replace B := Lib.hid (B.out.next hb)
  replace C := Lib.hid (C.out.next hb)
  replace S := Lib.hid (S.out.next hb)
  replace BB := Lib.hid (Below.andThen BB.out hb)
  clear hb
  clear C4 C5 HTR HC
  obtain ⟨cA0, cA1⟩ := A.out.two
  have lA := A.out.lt
  obtain ⟨cB0, cB1⟩ := B.out.two
  have lB := B.out.lt
  go_wp2_with fail
  clear cA0 cA1 lA cB0 cB1 lB
  with_reducible refine Calls.mono (CSU.out _ HT.out) ?_
  rintro e w11 ⟨rfl, hb⟩
  replace HT := Lib.hid (HT.out.next hb)
  replace A := Lib.hid (A.out.next hb)
  replace B := Lib.hid (B.out.next hb)
  replace C := Lib.hid (C.out.next hb)
  replace S := Lib.hid (S.out.next hb)
  replace BB := Lib.hid (Below.andThen BB.out hb)
  clear hb
  go_upto_region 12 with (fail)
  refine wp_named fun v11 hq => ?_
  obtain ⟨bD, ebD⟩ : ∃ b, b = w11.heap.size := ⟨_, rfl⟩
  have D := Lib.hid (show Row v11 bD 23 [.string d1, .string d2] from by rw [hq, ebD]; first | exact Row.new _ _ _ | exact ((Row.new w11 23 [.string ⟨#[]⟩, .string ⟨#[]⟩]).set 0 (.string d1)).set 1 (.string d2))
  have hb : Below w11.heap.size w11 v11 := by rw [hq]; first | exact (Below.refl _ _).alloc (Nat.le_refl _) _ | exact (((Below.refl _ _).alloc (Nat.le_refl _) _).setCell (p := ⟨w11.heap.size, 0, none⟩) (Nat.le_refl _) _).setCell (p := ⟨w11.heap.size, 1, none⟩) (Nat.le_refl _) _
  replace HT := Lib.hid (HT.out.next hb)
  replace A := Lib.hid (A.out.next hb)
  replace B := Lib.hid (B.out.next hb)
  replace C := Lib.hid (C.out.next hb)
  replace S := Lib.hid (S.out.next hb)
  replace BB := Lib.hid (Below.andThen BB.out hb)
  rw [← ebD]
  clear hq hb ebD
  go_cut [107] (fun v wx => v = .bool false ∧ Below v11.heap.size v11 wx)
  case first =>
    clear CSU CA1 CA2 CM1 CM2 C6 HA HM
    obtain ⟨cD0, cD1⟩ := D.out.two
    have lD := D.out.lt
    have BB0 := BB
    clear BB
    have BB := Lib.hid (Below.refl v11.heap.size v11)
    rcases HD.out with rfl | ⟨rfl, k⟩
    · clear HD CI
      refine wp_region_kin (by kernel_rfl) (by kernel_rfl) v11.heap.size 0 (by simp) (fun hk => ?_)
      repeat (go_big_quiet_step (fail))
      refine wpQuiet_nil ?_
      clear hk
      intro x1 hb
      replace BB := Lib.hid (Below.andThen BB.out hb)
      clear hb
      go_wp2_with fail
      go_meet
      exact ⟨rfl, BB.out⟩
    · have K := Lib.hid k
      clear k HD
      refine wp_region_kin (by kernel_rfl) (by kernel_rfl) v11.heap.size 0 (by simp) (fun hk => ?_)
      repeat (go_big_quiet_step (first | (go_at_call 41; first | with_reducible exact Calls.kin (CI.out _ _ _)) | (go_at_call 20; first | with_reducible exact Calls.kin (K.out _ (HT.out.next (Kin.below _))))))
      refine wpQuiet_nil ?_
      clear hk
      intro x1 hb
      replace BB := Lib.hid (Below.andThen BB.out hb)
      clear hb
      go_wp2_with fail
      go_meet
      exact ⟨rfl, BB.out⟩
  rename World => w12
  obtain ⟨rfl, hb⟩ := hcut
  replace HT := Lib.hid (HT.out.next hb)
  replace A := Lib.hid (A.out.next hb)
  replace B := Lib.hid (B.out.next hb)
  replace C := Lib.hid (C.out.next hb)
  replace S := Lib.hid (S.out.next hb)
  replace BB := Lib.hid (Below.andThen BB.out hb)
  clear hb
  clear D HD CSU
  go_upto_region 14 with (fail)
  obtain ⟨cA0, cA1⟩ := A.out.two
  have lA := A.out.lt
  obtain ⟨cS0, cS1⟩ := S.out.two
  have lS := S.out.lt
  go_wp2_with fail
  clear cA0 cA1 lA cS0 cS1 lS
  with_reducible refine Calls.mono (CA1.out _ HT.out) ?_
  rintro e w13 ⟨rfl, hb⟩
  replace HT := Lib.hid (HT.out.next hb)
  replace A := Lib.hid (A.out.next hb)
  replace B := Lib.hid (B.out.next hb)
  replace S := Lib.hid (S.out.next hb)
  replace BB := Lib.hid (Below.andThen BB.out hb)
  clear hb
  go_upto_region 15 with (fail)
  refine wp_named fun v13 hq => ?_
  obtain ⟨bF, ebF⟩ : ∃ b, b = w13.heap.size := ⟨_, rfl⟩
  have F := Lib.hid (show Row v13 bF 23 [.string f1, .string f2] from by rw [hq, ebF]; first | exact Row.new _ _ _ | exact ((Row.new w13 23 [.string ⟨#[]⟩, .string ⟨#[]⟩]).set 0 (.string f1)).set 1 (.string f2))
  have NEF := Lib.hid (show bA ≠ bF ∧ bB ≠ bF ∧ bS ≠ bF from by rw [ebF]; exact ⟨Nat.ne_of_lt A.out.lt, Nat.ne_of_lt B.out.lt, Nat.ne_of_lt S.out.lt⟩)
  have HLF := Lib.hid (show w.heap.size ≤ bF from by rw [ebF]; exact BB.out.size)
  have hb : Below w13.heap.size w13 v13 := by rw [hq]; first | exact (Below.refl _ _).alloc (Nat.le_refl _) _ | exact (((Below.refl _ _).alloc (Nat.le_refl _) _).setCell (p := ⟨w13.heap.size, 0, none⟩) (Nat.le_refl _) _).setCell (p := ⟨w13.heap.size, 1, none⟩) (Nat.le_refl _) _
  replace HT := Lib.hid (HT.out.next hb)
  replace A := Lib.hid (A.out.next hb)
  replace B := Lib.hid (B.out.next hb)
  replace S := Lib.hid (S.out.next hb)
  replace BB := Lib.hid (Below.andThen BB.out hb)
  rw [← ebF]
  clear hq hb ebF
  obtain ⟨cB0, cB1⟩ := B.out.two
  have lB := B.out.lt
  obtain ⟨cS0, cS1⟩ := S.out.two
  have lS := S.out.lt
  go_wp2_with fail
  clear cB0 cB1 lB cS0 cS1 lS
  with_reducible refine Calls.mono (CA2.out _ HT.out) ?_
  rintro e w14 ⟨rfl, hb⟩
  replace HT := Lib.hid (HT.out.next hb)
  replace A := Lib.hid (A.out.next hb)
  replace B := Lib.hid (B.out.next hb)
  replace S := Lib.hid (S.out.next hb)
  replace F := Lib.hid (F.out.next hb)
  replace BB := Lib.hid (Below.andThen BB.out hb)
  clear hb
  go_upto_region 16 with (fail)
  refine wp_named fun v14 hq => ?_
  obtain ⟨bG, ebG⟩ : ∃ b, b = w14.heap.size := ⟨_, rfl⟩
  have G := Lib.hid (show Row v14 bG 23 [.string g1, .string g2] from by rw [hq, ebG]; first | exact Row.new _ _ _ | exact ((Row.new w14 23 [.string ⟨#[]⟩, .string ⟨#[]⟩]).set 0 (.string g1)).set 1 (.string g2))
  have NEG := Lib.hid (show bB ≠ bG ∧ bS ≠ bG ∧ bF ≠ bG from by rw [ebG]; exact ⟨Nat.ne_of_lt B.out.lt, Nat.ne_of_lt S.out.lt, Nat.ne_of_lt F.out.lt⟩)
  have HLG := Lib.hid (show w.heap.size ≤ bG from by rw [ebG]; exact BB.out.size)
  have hb : Below w14.heap.size w14 v14 := by rw [hq]; first | exact (Below.refl _ _).alloc (Nat.le_refl _) _ | exact (((Below.refl _ _).alloc (Nat.le_refl _) _).setCell (p := ⟨w14.heap.size, 0, none⟩) (Nat.le_refl _) _).setCell (p := ⟨w14.heap.size, 1, none⟩) (Nat.le_refl _) _
  replace HT := Lib.hid (HT.out.next hb)
  replace A := Lib.hid (A.out.next hb)
  replace B := Lib.hid (B.out.next hb)
  replace S := Lib.hid (S.out.next hb)
  replace F := Lib.hid (F.out.next hb)
  replace BB := Lib.hid (Below.andThen BB.out hb)
  rw [← ebG]
  clear hq hb ebG
  go_cut [132] (fun v wx => v = .bool false ∧ Below v14.heap.size v14 wx)
  case first =>
    clear CA1 CA2 CM1 CM2 C6 HM
    obtain ⟨cF0, cF1⟩ := F.out.two
    have lF := F.out.lt
    obtain ⟨cG0, cG1⟩ := G.out.two
    have lG := G.out.lt
    rcases HA.out with rfl | ⟨rfl, rfl⟩ | ⟨rfl, rfl, k⟩
    · clear HA
      go_wp2_with fail
      go_meet
      exact ⟨rfl, Below.refl _ _⟩
    · clear HA
      go_wp2_with fail
      go_meet
      exact ⟨rfl, Below.refl _ _⟩
    · have K := Lib.hid k
      clear k HA
      go_wp2_with fail
      with_reducible refine Calls.mono (K.out _ HT.out) ?_
      rintro e x2 ⟨rfl, hb⟩
      have HB := Lib.hid hb
      clear hb cF0 cF1 lF cG0 cG1 lG
      go_wp2_with fail
      go_meet
      exact ⟨rfl, HB.out⟩
  rename World => w15
  obtain ⟨rfl, hb⟩ := hcut
  replace HT := Lib.hid (HT.out.next hb)
  replace A := Lib.hid (A.out.next hb)
  replace B := Lib.hid (B.out.next hb)
  replace S := Lib.hid (S.out.next hb)
  replace F := Lib.hid (F.out.next hb)
  replace G := Lib.hid (G.out.next hb)
  replace BB := Lib.hid (Below.andThen BB.out hb)
  clear hb
  clear HA CA1 CA2
  go_upto_region 18 with (fail)
  obtain ⟨cA0, cA1⟩ := A.out.two
  have lA := A.out.lt
  obtain ⟨cS0, cS1⟩ := S.out.two
  have lS := S.out.lt
  go_wp2_with fail
  clear cA0 cA1 lA cS0 cS1 lS
  with_reducible refine Calls.mono (CM1.out _ HT.out) ?_
  rintro e w16 ⟨rfl, hb⟩
  replace HT := Lib.hid (HT.out.next hb)
  replace A := Lib.hid (A.out.next hb)
  replace B := Lib.hid (B.out.next hb)
  replace S := Lib.hid (S.out.next hb)
  replace F := Lib.hid (F.out.next hb)
  replace G := Lib.hid (G.out.next hb)
  replace BB := Lib.hid (Below.andThen BB.out hb)
  clear hb
  obtain ⟨cF0, cF1⟩ := F.out.two
  have lF := F.out.lt
  have fF0 := F.out.frozen 0
  have fF1 := F.out.frozen 1
  go_upto_region 19 with (fail)
  clear fF0 fF1
  clear cF0 cF1 lF
  refine wp_named fun v16 hq => ?_
  replace B := Lib.hid (show Row v16 bB 23 [_, _] from by rw [hq]; exact (B.out.other NEF.out.2.1 _ _).other NEF.out.2.1 _ _)
  replace S := Lib.hid (show Row v16 bS 23 [_, _] from by rw [hq]; exact (S.out.other NEF.out.2.2 _ _).other NEF.out.2.2 _ _)
  replace G := Lib.hid (show Row v16 bG 23 [_, _] from by rw [hq]; exact (G.out.other NEG.out.2.2.symm _ _).other NEG.out.2.2.symm _ _)
  replace F := Lib.hid (show Row v16 bF 23 [.string m1, .string m2] from by rw [hq]; exact (F.out.set 0 (.string m1)).set 1 (.string m2))
  replace BB := Lib.hid (show Below w.heap.size w v16 from by rw [hq]; exact (BB.out.setCell (p := ⟨bF, 0, none⟩) HLF.out _).setCell (p := ⟨bF, 1, none⟩) HLF.out _)
  clear hq HT
  have HT := Lib.hid (HT0.out.next BB.out)
  obtain ⟨cB0, cB1⟩ := B.out.two
  have lB := B.out.lt
  obtain ⟨cS0, cS1⟩ := S.out.two
  have lS := S.out.lt
  go_wp2_with fail
  clear cB0 cB1 lB cS0 cS1 lS
  with_reducible refine Calls.mono (CM2.out _ HT.out) ?_
  rintro e w17 ⟨rfl, hb⟩
  replace HT := Lib.hid (HT.out.next hb)
  replace S := Lib.hid (S.out.next hb)
  replace F := Lib.hid (F.out.next hb)
  replace G := Lib.hid (G.out.next hb)
  replace BB := Lib.hid (Below.andThen BB.out hb)
  clear hb
  obtain ⟨cG0, cG1⟩ := G.out.two
  have lG := G.out.lt
  have fG0 := G.out.frozen 0
  have fG1 := G.out.frozen 1
  go_upto_region 20 with (fail)
  clear fG0 fG1
  clear cG0 cG1 lG
  refine wp_named fun v17 hq => ?_
  replace S := Lib.hid (show Row v17 bS 23 [_, _] from by rw [hq]; exact (S.out.other NEG.out.2.1 _ _).other NEG.out.2.1 _ _)
  replace F := Lib.hid (show Row v17 bF 23 [_, _] from by rw [hq]; exact (F.out.other NEG.out.2.2 _ _).other NEG.out.2.2 _ _)
  replace G := Lib.hid (show Row v17 bG 23 [.string n1, .string n2] from by rw [hq]; exact (G.out.set 0 (.string n1)).set 1 (.string n2))
  replace BB := Lib.hid (show Below w.heap.size w v17 from by rw [hq]; exact (BB.out.setCell (p := ⟨bG, 0, none⟩) HLG.out _).setCell (p := ⟨bG, 1, none⟩) HLG.out _)
  clear hq HT
  have HT := Lib.hid (HT0.out.next BB.out)
  clear CM1 CM2 A B C
  obtain ⟨cF0, cF1⟩ := F.out.two
  have lF := F.out.lt
  obtain ⟨cG0, cG1⟩ := G.out.two
  have lG := G.out.lt
  obtain ⟨cS0, cS1⟩ := S.out.two
  have lS := S.out.lt
  rcases HM.out with rfl | ⟨rfl, rfl⟩ | ⟨rfl, rfl, k⟩
  · clear HM
    refine wp_region_kin (by kernel_rfl) (by kernel_rfl) v17.heap.size 0 (by simp) (fun hk => ?_)
    repeat (go_big_quiet_step (fail))
    refine wpQuiet_nil ?_
    clear hk
    intro x1 hb
    replace BB := Lib.hid (Below.andThen BB.out hb)
    clear hb
    go_wp2_with fail
    go_ret
    exact ⟨rfl, BB.out⟩
  · clear HM
    refine wp_region_kin (by kernel_rfl) (by kernel_rfl) v17.heap.size 0 (by simp) (fun hk => ?_)
    repeat (go_big_quiet_step (fail))
    refine wpQuiet_nil ?_
    clear hk
    intro x1 hb
    replace BB := Lib.hid (Below.andThen BB.out hb)
    clear hb
    go_wp2_with fail
    go_ret
    exact ⟨rfl, BB.out⟩
  · have K := Lib.hid k
    clear k HM
    obtain ⟨pr, hpr⟩ : ∃ pr, pr = ab * tz := ⟨_, rfl⟩
    rw [← hpr] at K
    have h1 : ab = -1 ∨ ab = 0 ∨ ab = 1 := by have := HI.out.1; omega
    have h2 : tz = -1 ∨ tz = 0 ∨ tz = 1 := by have := HI.out.2.2.2; omega
    clear HI HIab
    rcases h1 with rfl | rfl | rfl <;> rcases h2 with rfl | rfl | rfl
    all_goals
      simp only [Int.reduceMul, Int.reduceNeg] at hpr
      subst hpr
      refine wp_region_kin (by kernel_rfl) (by kernel_rfl) v17.heap.size 0 (by simp) (fun hk => ?_)
      repeat (go_big_quiet_step (first | (go_at_call 41; first | with_reducible exact Calls.kin (CI.out _ _ _)) | (go_at_call 20; first | with_reducible exact Calls.kin (K.out _ (HT.out.next (Kin.below _))) | with_reducible exact Calls.kin (C6.out _ (HT.out.next (Kin.below _))))))
      refine wpQuiet_nil ?_
      clear hk
      intro x1 hb
      replace BB := Lib.hid (Below.andThen BB.out hb)
      clear hb
      go_wp2_with fail
      go_ret
      exact ⟨rfl, BB.out⟩
namespace rationalOrder
theorem flat0 : leafsOf Tryz.prog 5 24 = some [some (some .i64), some (some .i64), some (some .i64), some (some .i64)] := by kernel_rfl
theorem flat1 : leafsOf Tryz.prog 5 24 = some [some (some .i64), some (some .i64), some (some .i64), some (some .i64)] := by kernel_rfl
theorem flat2 : leafsOf Tryz.prog 5 24 = some [some (some .i64), some (some .i64), some (some .i64), some (some .i64)] := by kernel_rfl
theorem flat3 : leafsOf Tryz.prog 5 25 = some [some (some .i64), some (some .i64)] := by kernel_rfl
set_option maxRecDepth 100000 in
theorem contract (H : Type) (enc : TypeId × Value → H) (W : World) (base : Nat) (args : Array Value) (ds gs : List (DataW H)) (before : List MemPlace)
    (hval : ∀ (j : Nat) t v, Tryz.f7.params[j]? = some t → args[j]? = some v → Value.okWide Tryz.prog W .any base t v)
    (hW : DataW.Whole enc Tryz.prog Tryz.f7.params.toList Rows.rationalOrderSpec.vars false W args.toList ds gs before) (hL : laidMetH Tryz.prog Rows.rationalOrderRow.laid W) (hsh : W.ShapedOpen Tryz.prog) :
    Calls Tryz.prog 7 args W fun e W' => ∃ v, e = .returned v ∧ Rows.rationalOrderSpec.post enc Tryz.prog Tryz.f7 false true false false W args v W' := by
  have hW' := hW
  obtain ⟨p, q, hA0, hV, rfl, hfz, hnd⟩ := hW
  have hA : DataW.TrodAll enc Tryz.prog W 0 (fun _ => true) true Tryz.f7.params.toList args.toList ds p := hA0
  rw [Tryz.params7] at hA hval
  obtain ⟨v0, vs0, d0, ds0, p0, q0, hargs, rfl, rfl, h0, r0⟩ := trodAll_cons hA
  obtain ⟨v1, vs1, d1, ds1, p1, q1, rfl, rfl, rfl, h1, r1⟩ := trodAll_cons r0
  obtain ⟨v2, vs2, d2, ds2, p2, q2, rfl, rfl, rfl, h2, r2⟩ := trodAll_cons r1
  obtain ⟨v3, vs3, d3, ds3, p3, q3, rfl, rfl, rfl, h3, r3⟩ := trodAll_cons r2
  obtain ⟨rfl, rfl, rfl⟩ := trodAll_nil r3
  obtain rfl : args = #[v0, v1, v2, v3] := by cases args; simp_all
  obtain ⟨cs0, rfl, c0x0, rs0x0, rfl, ⟨a0, rfl, k0⟩, c0x1, rs0x1, rfl, ⟨a1, rfl, k1⟩, c0x2, rs0x2, rfl, ⟨a2, rfl, k2⟩, c0x3, rs0x3, rfl, ⟨a3, rfl, k3⟩, rfl⟩ := open_agg 5 flat0 (by kernel_rfl) (hval 0 _ _ rfl rfl) h0
  obtain ⟨cs1, rfl, c1x0, rs1x0, rfl, ⟨a4, rfl, k4⟩, c1x1, rs1x1, rfl, ⟨a5, rfl, k5⟩, c1x2, rs1x2, rfl, ⟨a6, rfl, k6⟩, c1x3, rs1x3, rfl, ⟨a7, rfl, k7⟩, rfl⟩ := open_agg 5 flat1 (by kernel_rfl) (hval 1 _ _ rfl rfl) h1
  obtain ⟨cs2, rfl, c2x0, rs2x0, rfl, ⟨a8, rfl, k8⟩, c2x1, rs2x1, rfl, ⟨a9, rfl, k9⟩, c2x2, rs2x2, rfl, ⟨a10, rfl, k10⟩, c2x3, rs2x3, rfl, ⟨a11, rfl, k11⟩, rfl⟩ := open_agg 5 flat2 (by kernel_rfl) (hval 2 _ _ rfl rfl) h2
  obtain ⟨cs3, rfl, c3x0, rs3x0, rfl, ⟨a12, rfl, k12⟩, c3x1, rs3x1, rfl, ⟨a13, rfl, k13⟩, rfl⟩ := open_agg 5 flat3 (by kernel_rfl) (hval 3 _ _ rfl rfl) h3
  refine (rationalOrder_law a0 a1 a2 a3 a4 a5 a6 a7 a8 a9 a10 a11 a12 a13 W (rwT hL hsh) (bd_i64 k0) (bd_i64 k1) (bd_i64 k2) (bd_i64 k3) (bd_i64 k4) (bd_i64 k5) (bd_i64 k6) (bd_i64 k7) (bd_i64 k8) (bd_i64 k9) (bd_i64 k10) (bd_i64 k11) (bd_i64 k12) (bd_i64 k13)).mono fun e W' ⟨he, hb⟩ => ?_
  subst he
  obtain ⟨rfl, _⟩ := trodVars_none hV
  exact ⟨_, rfl, law_post laidOut (by kernel_rfl) rfl (by kernel_rfl) Tryz.underlying4 hW' rfl hb⟩

noncomputable def laidWorld (os : Os) : World := World.laidAll Tryz.prog os Rows.rationalOrderRow.laid
def args0 : Array Value := #[.agg #[.int .i64 0, .int .i64 0, .int .i64 0, .int .i64 0], .agg #[.int .i64 0, .int .i64 0, .int .i64 0, .int .i64 0], .agg #[.int .i64 0, .int .i64 0, .int .i64 0, .int .i64 0], .agg #[.int .i64 0, .int .i64 0]]
theorem laid_met (os : Os) : laidMet Tryz.prog Rows.rationalOrderRow.laid ((laidWorld os).forCall (fun _ _ => 0) ⟨#[], args0, []⟩).memory :=
  laidMet_laidAll _ (by kernel_rfl) (by kernel_rfl)
theorem reads (os : Os) {H : Type} (enc : TypeId × Value → H) : ∃ places, DataW.whole enc Tryz.prog ((laidWorld os).forCall (fun _ _ => 0) ⟨#[], args0, []⟩).memory Tryz.f7.params.toList Rows.rationalOrderSpec.vars false args0.toList 8 = some ([.agg [.lit (.int .i64 0), .lit (.int .i64 0), .lit (.int .i64 0), .lit (.int .i64 0)], .agg [.lit (.int .i64 0), .lit (.int .i64 0), .lit (.int .i64 0), .lit (.int .i64 0)], .agg [.lit (.int .i64 0), .lit (.int .i64 0), .lit (.int .i64 0), .lit (.int .i64 0)], .agg [.lit (.int .i64 0), .lit (.int .i64 0)]], [], places) :=
  ⟨[], by kernel_rfl⟩

set_option maxRecDepth 100000 in
theorem lifted (os : Os) (started : os.Started) (H : Type) (enc : TypeId × Value → H) (F : Stop.Interp) :
    ReturnsInHanded {} Tryz.checked os 7 .any ((OpenSpec.ofChange Rows.rationalOrderSpec).preRow enc Tryz.prog Tryz.f7 Rows.rationalOrderRow.domain false Rows.rationalOrderRow.laid) (((OpenSpec.ofChange Rows.rationalOrderSpec).at F).post enc Tryz.prog Tryz.f7 false true false false) := by
  obtain ⟨places, hx⟩ := reads os enc
  refine returnsInHanded_of_row (C := Tryz.checked) (s := OpenSpec.ofChange Rows.rationalOrderSpec) own started (by kernel_rfl) Tryz.func7
    (witness_row_at (enc := enc) (C := Tryz.checked) false (laidWorld os) args0 (World.laidAll_os _ _ _) (by kernel_rfl) (by kernel_rfl) (by kernel_rfl)
      (OpenSpec.preRow_of_cond 8 hx (by kernel_rfl) (fun k hk => by cases hk) (by kernel_rfl) (laid_met os))) ?_
  intro W base args ds gs before hval hW _ _ _ hL hsh _
  exact contract H enc W base args ds gs before hval hW hL hsh

theorem said : Rows.RationalOrderSaid :=
  OpenClaim.holds_of_cond 7 Tryz.f7 rfl rfl rfl rfl rfl rfl rfl ⟨rfl, rfl, rfl, rfl, rfl⟩ rfl rfl rfl rfl rfl (by kernel_rfl) Tryz.func7 (by kernel_rfl)
    (of_decide_eq_true (by kernel_rfl)) (by unfold Func.isWrapper; first | (rw [if_pos (by decide +kernel)]; kernel_rfl) | (rw [if_neg (by decide +kernel)]; exact ⟨rfl, rfl⟩))
    (fun os started H enc _ F => by rw [OpenClaim.pre_eq_preRow]; exact lifted os started H enc F)

theorem plain (f : FuncId) (fn : Func) (hf : Tryz.pinned.checked.prog.funcNamed "newswire/newswirelaw04.RationalOrder" = some f) (hfn : Tryz.pinned.checked.prog.funcs[f]? = some fn) :
    false = Tryz.pinned.checked.prog.looks [] ∧ ∀ (j : Nat) t, fn.params[j]? = some t → Tryz.pinned.checked.prog.wantsStandIn t = false := by
  obtain rfl : f = 7 := Option.some.inj ((show Tryz.prog.funcNamed "newswire/newswirelaw04.RationalOrder" = some 7 by kernel_rfl).symm.trans hf) |>.symm
  obtain rfl : fn = Tryz.f7 := (Option.some.inj (Tryz.func7.symm.trans hfn)).symm
  refine ⟨by kernel_rfl, fun j t ht => ?_⟩
  have all : (Tryz.f7.params.toList.all fun t => Tryz.prog.wantsStandIn t == false) = true := by kernel_rfl
  have := List.all_eq_true.1 all t (by rw [← Array.mem_def]; exact Array.mem_of_getElem? ht)
  exact (show Tryz.prog.wantsStandIn t = false by simpa using this)

/-- The statement. -/
theorem card : Rows.RationalOrderCardSaid :=
  Claim7.holds_tied_plain_at .later [] _ _ _ _ said (fun _ h => by cases h) (by kernel_rfl) (fun _ h => by cases h) rationalOrder_row_tie rfl ⟨rfl, rfl⟩ (by kernel_rfl) rfl plain (by kernel_rfl)
end rationalOrder
end Go.Proofs.YtlehjmanlccncaaGreatDoor
