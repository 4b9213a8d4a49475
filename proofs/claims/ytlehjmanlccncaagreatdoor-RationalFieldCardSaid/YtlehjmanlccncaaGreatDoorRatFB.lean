/- RationalField: the walk, where the fractions are small. -/
import Derived.Test.YtlehjmanlccncaaGreatDoorRatFA
set_option linter.unusedVariables false
set_option linter.unusedSimpArgs false
namespace Go.Proofs.YtlehjmanlccncaaGreatDoor
open Go.RowKit

set_option maxRecDepth 100000 in
set_option maxHeartbeats 16000000 in
theorem field_false (x0 x1 x2 x3 y0 y1 y2 y3 z0 z1 : Int) (w : World) (T : RW w)
    (hx0 : -9223372036854775808 ≤ x0 ∧ x0 ≤ 9223372036854775807)
    (hx1 : -9223372036854775808 ≤ x1 ∧ x1 ≤ 9223372036854775807)
    (hx2 : -9223372036854775808 ≤ x2 ∧ x2 ≤ 9223372036854775807)
    (hx3 : -9223372036854775808 ≤ x3 ∧ x3 ≤ 9223372036854775807)
    (hy0 : -9223372036854775808 ≤ y0 ∧ y0 ≤ 9223372036854775807)
    (hy1 : -9223372036854775808 ≤ y1 ∧ y1 ≤ 9223372036854775807)
    (hy2 : -9223372036854775808 ≤ y2 ∧ y2 ≤ 9223372036854775807)
    (hy3 : -9223372036854775808 ≤ y3 ∧ y3 ≤ 9223372036854775807)
    (hz0 : -9223372036854775808 ≤ z0 ∧ z0 ≤ 9223372036854775807)
    (hz1 : -9223372036854775808 ≤ z1 ∧ z1 ≤ 9223372036854775807)
    : Calls Tryz.prog 6 #[.agg #[.int .i64 x0, .int .i64 x1, .int .i64 x2, .int .i64 x3], .agg #[.int .i64 y0, .int .i64 y1, .int .i64 y2, .int .i64 y3], .agg #[.int .i64 z0, .int .i64 z1], .bool false] w fun r w' => r = .returned (.bool true) ∧ Below w.heap.size w w' := by
  have HT := Lib.hid T
  have HT0 := Lib.hid T
  have BB := Lib.hid (Below.refl w.heap.size w)
  have HS := Lib.hid sane_any
  have CI := Lib.hid is_any
  have CX0 := Lib.hid (fun W => Small_any x0 x1 W hx0 hx1)
  have CY0 := Lib.hid (fun W => Small_any y0 y1 W hy0 hy1)
  have CZ := Lib.hid (fun W => Small_any z0 z1 W hz0 hz1)
  have HLX := Lib.hid (fun W => Long_any x0 x1 x2 x3 W hx0 hx1 hx2 hx3)
  have HLY := Lib.hid (fun W => Long_any y0 y1 y2 y3 W hy0 hy1 hy2 hy3)
  have okx := small_ok x0 x1
  have oky := small_ok y0 y1
  have hpc := (small_ok z0 z1).1
  obtain ⟨c, hcs⟩ : ∃ c, smallP z0 z1 = c := ⟨_, rfl⟩
  rw [hcs] at CZ hpc
  obtain ⟨c1', c2', ec⟩ : ∃ u1 u2, Ra.tx (some c) = (u1, u2) := ⟨_, _, rfl⟩
  rw [ec] at CZ
  obtain ⟨sx, hsx⟩ : ∃ c, smallP x0 x1 = c := ⟨_, rfl⟩
  obtain ⟨sy, hsy⟩ : ∃ c, smallP y0 y1 = c := ⟨_, rfl⟩
  rw [hsx] at CX0 okx
  rw [hsy] at CY0 oky
  obtain ⟨sx1, sx2, esx⟩ : ∃ u1 u2, Ra.tx (some sx) = (u1, u2) := ⟨_, _, rfl⟩
  obtain ⟨sy1, sy2, esy⟩ : ∃ u1 u2, Ra.tx (some sy) = (u1, u2) := ⟨_, _, rfl⟩
  rw [esx] at CX0
  rw [esy] at CY0
  clear T hx0 hx1 hx2 hx3 hy0 hy1 hy2 hy3 hz0 hz1 hcs hsx hsy
  go_enter Tryz.func6, Tryz.ntmps6
  go_upto_region 1 with (fail)
  refine wp_named fun w1 hq => ?_
  obtain ⟨r0, r1, r2, hb⟩ := rows3 w 24 24 25 [.int .i64 x0, .int .i64 x1, .int .i64 x2, .int .i64 x3] [.int .i64 y0, .int .i64 y1, .int .i64 y2, .int .i64 y3] [.int .i64 z0, .int .i64 z1] w1 hq
  have X := Lib.hid r0
  have Y := Lib.hid r1
  have S := Lib.hid r2
  generalize w.heap.size + 1 + 1 = bS at *
  generalize w.heap.size + 1 = bY at *
  obtain ⟨bX, ebX⟩ : ∃ b, b = w.heap.size := ⟨_, rfl⟩
  rw [← ebX] at X ⊢
  replace HT := Lib.hid (HT.out.next hb)
  replace BB := Lib.hid (Below.andThen BB.out hb)
  clear hq hb ebX r0 r1 r2
  go_wp2_with fail
  with_reducible refine Calls.mono (HS.out _ HT.out) ?_
  rintro e w2 ⟨rfl, hb⟩
  replace HT := Lib.hid (HT.out.next hb)
  replace X := Lib.hid (X.out.next hb)
  replace Y := Lib.hid (Y.out.next hb)
  replace S := Lib.hid (S.out.next hb)
  replace BB := Lib.hid (Below.andThen BB.out hb)
  clear hb
  go_upto_region 2 with (fail)
  have cX0 := X.out.cell 0
  have cX1 := X.out.cell 1
  have lX := X.out.lt
  simp only [List.getElem?_cons_zero, List.getElem?_cons_succ] at cX0 cX1
  go_wp2_with fail
  clear cX0 cX1 lX
  with_reducible refine Calls.mono (CX0.out _) ?_
  rintro e w3 ⟨rfl, hb⟩
  replace HT := Lib.hid (HT.out.next hb)
  replace X := Lib.hid (X.out.next hb)
  replace Y := Lib.hid (Y.out.next hb)
  replace S := Lib.hid (S.out.next hb)
  replace BB := Lib.hid (Below.andThen BB.out hb)
  clear hb
  go_upto_region 3 with (fail)
  refine wp_named fun v3 hq => ?_
  obtain ⟨bA, ebA⟩ : ∃ b, b = w3.heap.size := ⟨_, rfl⟩
  have A := Lib.hid (show Row v3 bA 23 [.string sx1, .string sx2] from by rw [hq, ebA]; first | exact Row.new _ _ _ | exact ((Row.new w3 23 [.string ⟨#[]⟩, .string ⟨#[]⟩]).set 0 (.string sx1)).set 1 (.string sx2))
  have NEA := Lib.hid (show bX ≠ bA ∧ bY ≠ bA ∧ bS ≠ bA from by rw [ebA]; exact ⟨Nat.ne_of_lt X.out.lt, Nat.ne_of_lt Y.out.lt, Nat.ne_of_lt S.out.lt⟩)
  have HLA := Lib.hid (show w.heap.size ≤ bA from by rw [ebA]; exact BB.out.size)
  have hb : Below w3.heap.size w3 v3 := by rw [hq]; first | exact (Below.refl _ _).alloc (Nat.le_refl _) _ | exact (((Below.refl _ _).alloc (Nat.le_refl _) _).setCell (p := ⟨w3.heap.size, 0, none⟩) (Nat.le_refl _) _).setCell (p := ⟨w3.heap.size, 1, none⟩) (Nat.le_refl _) _
  replace HT := Lib.hid (HT.out.next hb)
  replace X := Lib.hid (X.out.next hb)
  replace Y := Lib.hid (Y.out.next hb)
  replace S := Lib.hid (S.out.next hb)
  replace BB := Lib.hid (Below.andThen BB.out hb)
  rw [← ebA]
  clear hq hb ebA
  have cY0 := Y.out.cell 0
  have cY1 := Y.out.cell 1
  have lY := Y.out.lt
  simp only [List.getElem?_cons_zero, List.getElem?_cons_succ] at cY0 cY1
  go_wp2_with fail
  clear cY0 cY1 lY
  with_reducible refine Calls.mono (CY0.out _) ?_
  rintro e w4 ⟨rfl, hb⟩
  replace HT := Lib.hid (HT.out.next hb)
  replace A := Lib.hid (A.out.next hb)
  replace X := Lib.hid (X.out.next hb)
  replace Y := Lib.hid (Y.out.next hb)
  replace S := Lib.hid (S.out.next hb)
  replace BB := Lib.hid (Below.andThen BB.out hb)
  clear hb
  go_upto_region 4 with (fail)
  refine wp_named fun v4 hq => ?_
  obtain ⟨bB, ebB⟩ : ∃ b, b = w4.heap.size := ⟨_, rfl⟩
  have B := Lib.hid (show Row v4 bB 23 [.string sy1, .string sy2] from by rw [hq, ebB]; first | exact Row.new _ _ _ | exact ((Row.new w4 23 [.string ⟨#[]⟩, .string ⟨#[]⟩]).set 0 (.string sy1)).set 1 (.string sy2))
  have NEB := Lib.hid (show bA ≠ bB ∧ bX ≠ bB ∧ bY ≠ bB ∧ bS ≠ bB from by rw [ebB]; exact ⟨Nat.ne_of_lt A.out.lt, Nat.ne_of_lt X.out.lt, Nat.ne_of_lt Y.out.lt, Nat.ne_of_lt S.out.lt⟩)
  have HLB := Lib.hid (show w.heap.size ≤ bB from by rw [ebB]; exact BB.out.size)
  have hb : Below w4.heap.size w4 v4 := by rw [hq]; first | exact (Below.refl _ _).alloc (Nat.le_refl _) _ | exact (((Below.refl _ _).alloc (Nat.le_refl _) _).setCell (p := ⟨w4.heap.size, 0, none⟩) (Nat.le_refl _) _).setCell (p := ⟨w4.heap.size, 1, none⟩) (Nat.le_refl _) _
  replace HT := Lib.hid (HT.out.next hb)
  replace A := Lib.hid (A.out.next hb)
  replace X := Lib.hid (X.out.next hb)
  replace Y := Lib.hid (Y.out.next hb)
  replace S := Lib.hid (S.out.next hb)
  replace BB := Lib.hid (Below.andThen BB.out hb)
  rw [← ebB]
  clear hq hb ebB
  obtain ⟨cS0, cS1⟩ := S.out.two
  have lS := S.out.lt
  go_wp2_with fail
  clear cS0 cS1 lS
  with_reducible refine Calls.mono (CZ.out _) ?_
  rintro e w5 ⟨rfl, hb⟩
  replace HT := Lib.hid (HT.out.next hb)
  replace A := Lib.hid (A.out.next hb)
  replace B := Lib.hid (B.out.next hb)
  replace X := Lib.hid (X.out.next hb)
  replace Y := Lib.hid (Y.out.next hb)
  replace BB := Lib.hid (Below.andThen BB.out hb)
  clear hb
  go_upto_region 5 with (fail)
  refine wp_named fun v5 hq => ?_
  obtain ⟨bC, ebC⟩ : ∃ b, b = w5.heap.size := ⟨_, rfl⟩
  have C := Lib.hid (show Row v5 bC 23 [.string c1', .string c2'] from by rw [hq, ebC]; first | exact Row.new _ _ _ | exact ((Row.new w5 23 [.string ⟨#[]⟩, .string ⟨#[]⟩]).set 0 (.string c1')).set 1 (.string c2'))
  have NEC := Lib.hid (show bA ≠ bC ∧ bB ≠ bC ∧ bX ≠ bC ∧ bY ≠ bC from by rw [ebC]; exact ⟨Nat.ne_of_lt A.out.lt, Nat.ne_of_lt B.out.lt, Nat.ne_of_lt X.out.lt, Nat.ne_of_lt Y.out.lt⟩)
  have HLC := Lib.hid (show w.heap.size ≤ bC from by rw [ebC]; exact BB.out.size)
  have hb : Below w5.heap.size w5 v5 := by rw [hq]; first | exact (Below.refl _ _).alloc (Nat.le_refl _) _ | exact (((Below.refl _ _).alloc (Nat.le_refl _) _).setCell (p := ⟨w5.heap.size, 0, none⟩) (Nat.le_refl _) _).setCell (p := ⟨w5.heap.size, 1, none⟩) (Nat.le_refl _) _
  replace HT := Lib.hid (HT.out.next hb)
  replace A := Lib.hid (A.out.next hb)
  replace B := Lib.hid (B.out.next hb)
  replace X := Lib.hid (X.out.next hb)
  replace Y := Lib.hid (Y.out.next hb)
  replace BB := Lib.hid (Below.andThen BB.out hb)
  rw [← ebC]
  clear hq hb ebC
  clear CX0 CY0 CZ HS S
  generalize sx1 = p1 at *
  generalize sx2 = p2 at *
  generalize sy1 = q1 at *
  generalize sy2 = q2 at *
  have ep := esx
  have eq := esy
  have hfit := small_fits okx.1 oky.1 okx.2.1 okx.2.2 oky.2.1 oky.2.2
  have hpp := okx.1
  have hpq := oky.1
  generalize sx = p at *
  generalize sy = q at *
  clear HLX HLY X Y okx oky esx esy
  go_upto_region 8 with (fail)
  as_aux_lemma =>
    have vc := Ra.val_tx hpc
    have va := Ra.val_tx hpp
    have vb := Ra.val_tx hpq
    have oA := Ra.okO_some hpp
    have oB := Ra.okO_some hpq
    have oC := Ra.okO_some hpc
    rw [ep] at va
    rw [eq] at vb
    rw [ec] at vc
    obtain ⟨a1, a2, xa, ra, za, ka⟩ := op_all (Ra.addO (some p) (some q))
    obtain ⟨b1, b2, xb, rb, zb, kb⟩ := op_all (Ra.subO (some p) (some q))
    obtain ⟨c1, c2, xc, rc, zc, kc⟩ := op_all (Ra.mulO (some p) (some q))
    obtain ⟨d1, d2, xd, rd, zd, kd⟩ := op_all (Ra.divO (some p) (some q))
    obtain ⟨e1, e2, xe, re, ze, ke⟩ := op_all (Ra.subO (some q) (some p))
    obtain ⟨f1, f2, xf, rf, zf, kf⟩ := op_all (Ra.divO (some q) (some p))
    obtain ⟨g1, g2, xg, rg, zg, kg⟩ := op_all (Ra.addO (some q) (some c))
    obtain ⟨h1, h2, xh, rh, zh, kh⟩ := op_all (Ra.subO (some q) (some c))
    obtain ⟨i1, i2, xi, ri, zi, ki⟩ := op_all (Ra.mulO (some q) (some c))
    obtain ⟨j1, j2, xj, rj, zj, kj⟩ := op_all (Ra.divO (some q) (some c))
    obtain ⟨k1, k2, xk, rk, zk, kk⟩ := op_all (Ra.addO (Ra.addO (some p) (some q)) (some c))
    obtain ⟨l1, l2, xl, rl, zl, kl⟩ := op_all (Ra.subO (Ra.addO (some p) (some q)) (some c))
    obtain ⟨m1, m2, xm, rm, zm, km⟩ := op_all (Ra.mulO (Ra.addO (some p) (some q)) (some c))
    obtain ⟨n1, n2, xn, rn, zn, kn⟩ := op_all (Ra.divO (Ra.addO (some p) (some q)) (some c))
    obtain ⟨o1, o2, xo, ro, zo, ko⟩ := op_all (Ra.addO (some p) (Ra.addO (some q) (some c)))
    obtain ⟨s1, s2, xs, rs, zs, ks⟩ := op_all (Ra.mulO (some p) (Ra.mulO (some q) (some c)))
    obtain ⟨t1, t2, xt, rt, zt, kt⟩ := op_all (Ra.mulO (Ra.mulO (some p) (some q)) (some c))
    obtain ⟨u1, u2, xu, ru, zu, ku⟩ := op_all (Ra.mulO (some p) (some c))
    obtain ⟨v1, v2, xv, rv, zv, kv⟩ := op_all (Ra.addO (Ra.mulO (some p) (some c)) (Ra.mulO (some q) (some c)))
    obtain ⟨x1, x2, xx, rx, zx, kx⟩ := op_all (Ra.subO (Ra.addO (some p) (some q)) (some q))
    obtain ⟨y1, y2, xy, ry, zy, ky⟩ := op_all (Ra.mulO (Ra.divO (some p) (some q)) (some q))
    have va0 := val_of (Ra.addO_ok _ _) za
    have vg0 := val_of (Ra.addO_ok _ _) zg
    have vc0 := val_of (Ra.mulO_ok _ _) zc
    have vi0 := val_of (Ra.mulO_ok _ _) zi
    have vd0 := val_of (Ra.divO_ok _ _) zd
    have vu0 := val_of (Ra.mulO_ok _ _) zu
    have F1 := Lib.hid (fun W (T : RW W) => four_any (p0 := a1) (q0 := a2) (e0 := xa) (p1 := b1) (q1 := b2) (e1 := xb) (p2 := c1) (q2 := c2) (e2 := xc) (p3 := d1) (q3 := d2) (e3 := xd) (p1, p2) (q1, q2) W T.tab (by rw [va, vb]; exact ra) (by rw [va, vb]; exact rb) (by rw [va, vb]; exact rc) (by rw [va, vb]; exact rd))
    have F2 := Lib.hid (fun W (T : RW W) => four_any (p0 := a1) (q0 := a2) (e0 := xa) (p1 := e1) (q1 := e2) (e1 := xe) (p2 := c1) (q2 := c2) (e2 := xc) (p3 := f1) (q3 := f2) (e3 := xf) (q1, q2) (p1, p2) W T.tab (by rw [va, vb, Ra.addO_comm]; exact ra) (by rw [va, vb]; exact re) (by rw [va, vb, Ra.mulO_comm]; exact rc) (by rw [va, vb]; exact rf))
    have F3 := Lib.hid (fun W (T : RW W) => four_any (p0 := g1) (q0 := g2) (e0 := xg) (p1 := h1) (q1 := h2) (e1 := xh) (p2 := i1) (q2 := i2) (e2 := xi) (p3 := j1) (q3 := j2) (e3 := xj) (q1, q2) (c1', c2') W T.tab (by rw [vb, vc]; exact rg) (by rw [vb, vc]; exact rh) (by rw [vb, vc]; exact ri) (by rw [vb, vc]; exact rj))
    have F4 := Lib.hid (fun W (T : RW W) => four_any (p0 := k1) (q0 := k2) (e0 := xk) (p1 := l1) (q1 := l2) (e1 := xl) (p2 := m1) (q2 := m2) (e2 := xm) (p3 := n1) (q3 := n2) (e3 := xn) (a1, a2) (c1', c2') W T.tab (by rw [va0, vc]; exact rk) (by rw [va0, vc]; exact rl) (by rw [va0, vc]; exact rm) (by rw [va0, vc]; exact rn))
    have CO := Lib.hid (fun W (T : RW W) => Add_r (p1, p2) (g1, g2) W T.tab)
    rw [va, vg0, ro] at CO
    have CS := Lib.hid (fun W (T : RW W) => Mul_r (p1, p2) (i1, i2) W T.tab)
    rw [va, vi0, rs] at CS
    have CT := Lib.hid (fun W (T : RW W) => Mul_r (c1, c2) (c1', c2') W T.tab)
    rw [vc0, vc, rt] at CT
    have CU := Lib.hid (fun W (T : RW W) => Mul_r (p1, p2) (c1', c2') W T.tab)
    rw [va, vc, ru] at CU
    have CV := Lib.hid (fun W (T : RW W) => Add_r (u1, u2) (i1, i2) W T.tab)
    rw [vu0, vi0, rv] at CV
    have CM := Lib.hid (fun W (T : RW W) => Mul_r (a1, a2) (c1', c2') W T.tab)
    rw [va0, vc, rm] at CM
    have CX := Lib.hid (fun W (T : RW W) => Sub_r (a1, a2) (q1, q2) W T.tab)
    rw [va0, vb, rx] at CX
    have CY := Lib.hid (fun W (T : RW W) => Mul_r (d1, d2) (q1, q2) W T.tab)
    rw [vd0, vb, ry] at CY
    have H15 := Lib.hid (show xa = 40 ∨ (xa = 0 ∧ xg = 40) ∨ (xa = 0 ∧ xg = 0 ∧ xk = 40) ∨ (xa = 0 ∧ xg = 0 ∧ xk = 0 ∧ xo = 40) ∨ (xa = 0 ∧ xg = 0 ∧ xk = 0 ∧ xo = 0 ∧ k1 = o1 ∧ k2 = o2) from by
      rcases ka with ⟨h, -⟩ | ⟨ha, ha'⟩
      · exact .inl h
      rcases kg with ⟨h, -⟩ | ⟨hg, hg'⟩
      · exact .inr (.inl ⟨ha, h⟩)
      rcases kk with ⟨h, -⟩ | ⟨hk, hk'⟩
      · exact .inr (.inr (.inl ⟨ha, hg, h⟩))
      rcases ko with ⟨h, -⟩ | ⟨ho, ho'⟩
      · exact .inr (.inr (.inr (.inl ⟨ha, hg, hk, h⟩)))
      have e := Ra.add_assoc oA oB oC hk' ho'
      rw [e, zo] at zk
      obtain ⟨e1, e2⟩ := Prod.mk.inj zk
      exact .inr (.inr (.inr (.inr ⟨ha, hg, hk, ho, e1.symm, e2.symm⟩))))
    have H19 := Lib.hid (show xc = 40 ∨ (xc = 0 ∧ xi = 40) ∨ (xc = 0 ∧ xi = 0 ∧ xs = 40) ∨ (xc = 0 ∧ xi = 0 ∧ xs = 0 ∧ xt = 40) ∨ (xc = 0 ∧ xi = 0 ∧ xs = 0 ∧ xt = 0 ∧ s1 = t1 ∧ s2 = t2) from by
      rcases kc with ⟨h, -⟩ | ⟨ha, ha'⟩
      · exact .inl h
      rcases ki with ⟨h, -⟩ | ⟨hg, hg'⟩
      · exact .inr (.inl ⟨ha, h⟩)
      rcases ks with ⟨h, -⟩ | ⟨hk, hk'⟩
      · exact .inr (.inr (.inl ⟨ha, hg, h⟩))
      rcases kt with ⟨h, -⟩ | ⟨ho, ho'⟩
      · exact .inr (.inr (.inr (.inl ⟨ha, hg, hk, h⟩)))
      have e := Ra.mul_assoc oA oB oC ho' hk'
      rw [e, zs] at zt
      obtain ⟨e1, e2⟩ := Prod.mk.inj zt
      exact .inr (.inr (.inr (.inr ⟨ha, hg, hk, ho, e1, e2⟩))))
    have H24 := Lib.hid (show xa = 40 ∨ (xa = 0 ∧ xu = 40) ∨ (xa = 0 ∧ xu = 0 ∧ xi = 40) ∨ (xa = 0 ∧ xu = 0 ∧ xi = 0 ∧ xv = 40) ∨ (xa = 0 ∧ xu = 0 ∧ xi = 0 ∧ xv = 0 ∧ xm = 40) ∨ (xa = 0 ∧ xu = 0 ∧ xi = 0 ∧ xv = 0 ∧ xm = 0 ∧ v1 = m1 ∧ v2 = m2) from by
      rcases ka with ⟨h, -⟩ | ⟨ha, ha'⟩
      · exact .inl h
      rcases ku with ⟨h, -⟩ | ⟨hu, hu'⟩
      · exact .inr (.inl ⟨ha, h⟩)
      rcases ki with ⟨h, -⟩ | ⟨hg, hg'⟩
      · exact .inr (.inr (.inl ⟨ha, hu, h⟩))
      rcases kv with ⟨h, -⟩ | ⟨hk, hk'⟩
      · exact .inr (.inr (.inr (.inl ⟨ha, hu, hg, h⟩)))
      rcases km with ⟨h, -⟩ | ⟨ho, ho'⟩
      · exact .inr (.inr (.inr (.inr (.inl ⟨ha, hu, hg, hk, h⟩))))
      have e := Ra.add_mul oA oB oC hk' ho'
      rw [e, zm] at zv
      obtain ⟨e1, e2⟩ := Prod.mk.inj zv
      exact .inr (.inr (.inr (.inr (.inr ⟨ha, hu, hg, hk, ho, e1.symm, e2.symm⟩)))))
    have H28 := Lib.hid (show xa = 40 ∨ (xa = 0 ∧ xx = 40) ∨ (xa = 0 ∧ xx = 0 ∧ x1 = p1 ∧ x2 = p2) from by
      rcases ka with ⟨h, -⟩ | ⟨ha, ha'⟩
      · exact .inl h
      rcases kx with ⟨h, -⟩ | ⟨hu, hu'⟩
      · exact .inr (.inl ⟨ha, h⟩)
      have e := Ra.sub_add oA oB hu'
      rw [e, ep] at zx
      obtain ⟨e1, e2⟩ := Prod.mk.inj zx
      exact .inr (.inr ⟨ha, hu, e1.symm, e2.symm⟩))
    have H29 := Lib.hid (show xd = 40 ∨ (xd = 0 ∧ xy = 40) ∨ (xd = 0 ∧ xy = 0 ∧ y1 = p1 ∧ y2 = p2) from by
      rcases kd with ⟨h, -⟩ | ⟨ha, ha'⟩
      · exact .inl h
      rcases ky with ⟨h, -⟩ | ⟨hu, hu'⟩
      · exact .inr (.inl ⟨ha, h⟩)
      have e := Ra.mul_div oA oB hu'
      rw [e, ep] at zy
      obtain ⟨e1, e2⟩ := Prod.mk.inj zy
      exact .inr (.inr ⟨ha, hu, e1.symm, e2.symm⟩))
    have HL0 := Lib.hid (show xa = 0 ∧ xc = 0 from ⟨by rcases ka with ⟨-, h⟩ | ⟨h, -⟩; exact absurd h hfit.1; exact h, by rcases kc with ⟨-, h⟩ | ⟨h, -⟩; exact absurd h hfit.2; exact h⟩)
    clear ra za ka
    clear rb zb kb
    clear rc zc kc
    clear rd zd kd
    clear re ze ke
    clear rf zf kf
    clear rg zg kg
    clear rh zh kh
    clear ri zi ki
    clear rj zj kj
    clear rk zk kk
    clear rl zl kl
    clear rm zm km
    clear rn zn kn
    clear ro zo ko
    clear rs zs ks
    clear rt zt kt
    clear ru zu ku
    clear rv zv kv
    clear rx zx kx
    clear ry zy ky
    clear va vb vc oA oB oC va0 vg0 vc0 vi0 vd0 vu0 ep eq ec hpp hpq hpc
    obtain ⟨cA0, cA1⟩ := A.out.two
    have lA := A.out.lt
    obtain ⟨cB0, cB1⟩ := B.out.two
    have lB := B.out.lt
    go_wp2_with fail
    clear cA0 cA1 lA cB0 cB1 lB
    as_aux_lemma =>
      with_reducible refine Calls.mono (F1.out _ HT.out) ?_
      rintro e w8 ⟨rfl, hb⟩
      replace HT := Lib.hid (HT.out.next hb)
      replace A := Lib.hid (A.out.next hb)
      replace B := Lib.hid (B.out.next hb)
      replace C := Lib.hid (C.out.next hb)
      replace BB := Lib.hid (Below.andThen BB.out hb)
      clear hb
      go_upto_region 9 with (fail)
      refine wp_named fun v8 hq => ?_
      obtain ⟨bR, ebR⟩ : ∃ b, b = w8.heap.size := ⟨_, rfl⟩
      obtain ⟨bE, ebE⟩ : ∃ b, b = w8.heap.size + 1 := ⟨_, rfl⟩
      obtain ⟨hR, hE, hb⟩ := four_rows w8 v8 _ _ _ _ _ _ _ _ _ _ _ _ hq
      have R := Lib.hid (show Row v8 bR 31 [.string a1, .string a2, .string b1, .string b2, .string c1, .string c2, .string d1, .string d2] from by rw [ebR]; exact hR)
      have E := Lib.hid (show Row v8 bE 33 [.int .i64 xa, .int .i64 xb, .int .i64 xc, .int .i64 xd] from by rw [ebE]; exact hE)
      clear hR hE
      replace HT := Lib.hid (HT.out.next hb)
      replace A := Lib.hid (A.out.next hb)
      replace B := Lib.hid (B.out.next hb)
      replace C := Lib.hid (C.out.next hb)
      replace BB := Lib.hid (Below.andThen BB.out hb)
      rw [← ebE, ← ebR]
      clear hq hb ebR ebE
      obtain ⟨cA0, cA1⟩ := A.out.two
      have lA := A.out.lt
      obtain ⟨cB0, cB1⟩ := B.out.two
      have lB := B.out.lt
      go_wp2_with fail
      clear cA0 cA1 lA cB0 cB1 lB
      as_aux_lemma =>
        with_reducible refine Calls.mono (F2.out _ HT.out) ?_
        rintro e w9 ⟨rfl, hb⟩
        replace HT := Lib.hid (HT.out.next hb)
        replace A := Lib.hid (A.out.next hb)
        replace B := Lib.hid (B.out.next hb)
        replace C := Lib.hid (C.out.next hb)
        replace R := Lib.hid (R.out.next hb)
        replace E := Lib.hid (E.out.next hb)
        replace BB := Lib.hid (Below.andThen BB.out hb)
        clear hb
        go_upto_region 10 with (fail)
        refine wp_named fun v9 hq => ?_
        obtain ⟨bR2, ebR2⟩ : ∃ b, b = w9.heap.size := ⟨_, rfl⟩
        obtain ⟨bE2, ebE2⟩ : ∃ b, b = w9.heap.size + 1 := ⟨_, rfl⟩
        obtain ⟨hR, hE, hb⟩ := four_rows w9 v9 _ _ _ _ _ _ _ _ _ _ _ _ hq
        have R2 := Lib.hid (show Row v9 bR2 31 [.string a1, .string a2, .string e1, .string e2, .string c1, .string c2, .string f1, .string f2] from by rw [ebR2]; exact hR)
        have E2 := Lib.hid (show Row v9 bE2 33 [.int .i64 xa, .int .i64 xe, .int .i64 xc, .int .i64 xf] from by rw [ebE2]; exact hE)
        clear hR hE
        replace HT := Lib.hid (HT.out.next hb)
        replace A := Lib.hid (A.out.next hb)
        replace B := Lib.hid (B.out.next hb)
        replace C := Lib.hid (C.out.next hb)
        replace R := Lib.hid (R.out.next hb)
        replace E := Lib.hid (E.out.next hb)
        replace BB := Lib.hid (Below.andThen BB.out hb)
        rw [← ebE2, ← ebR2]
        clear hq hb ebR2 ebE2
        go_cut [108] (fun v wx => v = .bool false ∧ v9 = wx)
        case first => as_aux_lemma =>
            clear F1 F2 F3 F4 CO CS CT CU CV CM CX CY H15 H19 H24 H28 H29
            have cR0 := R.out.cell 0
            have cR1 := R.out.cell 1
            have lR := R.out.lt
            simp only [List.getElem?_cons_zero, List.getElem?_cons_succ] at cR0 cR1
            have cR4 := R.out.cell 4
            have cR5 := R.out.cell 5
            have lR := R.out.lt
            simp only [List.getElem?_cons_zero, List.getElem?_cons_succ] at cR4 cR5
            have cR20 := R2.out.cell 0
            have cR21 := R2.out.cell 1
            have lR2 := R2.out.lt
            simp only [List.getElem?_cons_zero, List.getElem?_cons_succ] at cR20 cR21
            have cR24 := R2.out.cell 4
            have cR25 := R2.out.cell 5
            have lR2 := R2.out.lt
            simp only [List.getElem?_cons_zero, List.getElem?_cons_succ] at cR24 cR25
            have cE0 := E.out.cell 0
            have cE2 := E.out.cell 2
            have lE := E.out.lt
            simp only [List.getElem?_cons_zero, List.getElem?_cons_succ] at cE0 cE2
            have cE20 := E2.out.cell 0
            have cE22 := E2.out.cell 2
            have lE2 := E2.out.lt
            simp only [List.getElem?_cons_zero, List.getElem?_cons_succ] at cE20 cE22
            obtain ⟨hl1, hl2⟩ := HL0.out
            subst hl1
            subst hl2
            clear HL0
            go_wp2_with fail
            go_meet
            exact ⟨rfl, rfl⟩
        obtain ⟨rfl, rfl⟩ := hcut
        clear R2 E2 HL0
        go_upto_region 12 with (fail)
        obtain ⟨cB0, cB1⟩ := B.out.two
        have lB := B.out.lt
        obtain ⟨cC0, cC1⟩ := C.out.two
        have lC := C.out.lt
        go_wp2_with fail
        clear cB0 cB1 lB cC0 cC1 lC
        as_aux_lemma =>
          with_reducible refine Calls.mono (F3.out _ HT.out) ?_
          rintro e w12 ⟨rfl, hb⟩
          replace HT := Lib.hid (HT.out.next hb)
          replace A := Lib.hid (A.out.next hb)
          replace B := Lib.hid (B.out.next hb)
          replace C := Lib.hid (C.out.next hb)
          replace R := Lib.hid (R.out.next hb)
          replace E := Lib.hid (E.out.next hb)
          replace BB := Lib.hid (Below.andThen BB.out hb)
          clear hb
          go_upto_region 13 with (fail)
          refine wp_named fun v12 hq => ?_
          obtain ⟨bG, ebG⟩ : ∃ b, b = w12.heap.size := ⟨_, rfl⟩
          obtain ⟨bGE, ebGE⟩ : ∃ b, b = w12.heap.size + 1 := ⟨_, rfl⟩
          obtain ⟨hR, hE, hb⟩ := four_rows w12 v12 _ _ _ _ _ _ _ _ _ _ _ _ hq
          have G := Lib.hid (show Row v12 bG 31 [.string g1, .string g2, .string h1, .string h2, .string i1, .string i2, .string j1, .string j2] from by rw [ebG]; exact hR)
          have GE := Lib.hid (show Row v12 bGE 33 [.int .i64 xg, .int .i64 xh, .int .i64 xi, .int .i64 xj] from by rw [ebGE]; exact hE)
          clear hR hE
          replace HT := Lib.hid (HT.out.next hb)
          replace A := Lib.hid (A.out.next hb)
          replace B := Lib.hid (B.out.next hb)
          replace C := Lib.hid (C.out.next hb)
          replace R := Lib.hid (R.out.next hb)
          replace E := Lib.hid (E.out.next hb)
          replace BB := Lib.hid (Below.andThen BB.out hb)
          rw [← ebGE, ← ebG]
          clear hq hb ebG ebGE
          obtain ⟨cC0, cC1⟩ := C.out.two
          have lC := C.out.lt
          have cR0 := R.out.cell 0
          have cR1 := R.out.cell 1
          have lR := R.out.lt
          simp only [List.getElem?_cons_zero, List.getElem?_cons_succ] at cR0 cR1
          go_wp2_with fail
          clear cC0 cC1 lC
          clear cR0 cR1 lR
          as_aux_lemma =>
            with_reducible refine Calls.mono (F4.out _ HT.out) ?_
            rintro e w13 ⟨rfl, hb⟩
            replace HT := Lib.hid (HT.out.next hb)
            replace A := Lib.hid (A.out.next hb)
            replace B := Lib.hid (B.out.next hb)
            replace C := Lib.hid (C.out.next hb)
            replace R := Lib.hid (R.out.next hb)
            replace E := Lib.hid (E.out.next hb)
            replace G := Lib.hid (G.out.next hb)
            replace GE := Lib.hid (GE.out.next hb)
            replace BB := Lib.hid (Below.andThen BB.out hb)
            clear hb
            go_upto_region 14 with (fail)
            refine wp_named fun v13 hq => ?_
            obtain ⟨bK, ebK⟩ : ∃ b, b = w13.heap.size := ⟨_, rfl⟩
            obtain ⟨bKE, ebKE⟩ : ∃ b, b = w13.heap.size + 1 := ⟨_, rfl⟩
            obtain ⟨hR, hE, hb⟩ := four_rows w13 v13 _ _ _ _ _ _ _ _ _ _ _ _ hq
            have K := Lib.hid (show Row v13 bK 31 [.string k1, .string k2, .string l1, .string l2, .string m1, .string m2, .string n1, .string n2] from by rw [ebK]; exact hR)
            have KE := Lib.hid (show Row v13 bKE 33 [.int .i64 xk, .int .i64 xl, .int .i64 xm, .int .i64 xn] from by rw [ebKE]; exact hE)
            clear hR hE
            replace HT := Lib.hid (HT.out.next hb)
            replace A := Lib.hid (A.out.next hb)
            replace B := Lib.hid (B.out.next hb)
            replace C := Lib.hid (C.out.next hb)
            replace R := Lib.hid (R.out.next hb)
            replace E := Lib.hid (E.out.next hb)
            replace G := Lib.hid (G.out.next hb)
            replace GE := Lib.hid (GE.out.next hb)
            replace BB := Lib.hid (Below.andThen BB.out hb)
            rw [← ebKE, ← ebK]
            clear hq hb ebK ebKE
            obtain ⟨cA0, cA1⟩ := A.out.two
            have lA := A.out.lt
            have cG0 := G.out.cell 0
            have cG1 := G.out.cell 1
            have lG := G.out.lt
            simp only [List.getElem?_cons_zero, List.getElem?_cons_succ] at cG0 cG1
            go_wp2_with fail
            clear cA0 cA1 lA
            clear cG0 cG1 lG
            as_aux_lemma =>
              with_reducible refine Calls.mono (CO.out _ HT.out) ?_
              rintro e w14 ⟨rfl, hb⟩
              replace HT := Lib.hid (HT.out.next hb)
              replace A := Lib.hid (A.out.next hb)
              replace B := Lib.hid (B.out.next hb)
              replace C := Lib.hid (C.out.next hb)
              replace R := Lib.hid (R.out.next hb)
              replace E := Lib.hid (E.out.next hb)
              replace G := Lib.hid (G.out.next hb)
              replace GE := Lib.hid (GE.out.next hb)
              replace K := Lib.hid (K.out.next hb)
              replace KE := Lib.hid (KE.out.next hb)
              replace BB := Lib.hid (Below.andThen BB.out hb)
              clear hb
              go_upto_region 15 with (fail)
              refine wp_named fun v14 hq => ?_
              obtain ⟨bONE, ebONE⟩ : ∃ b, b = w14.heap.size := ⟨_, rfl⟩
              have ONE := Lib.hid (show Row v14 bONE 23 [.string o1, .string o2] from by rw [hq, ebONE]; first | exact Row.new _ _ _ | exact ((Row.new w14 23 [.string ⟨#[]⟩, .string ⟨#[]⟩]).set 0 (.string o1)).set 1 (.string o2))
              have hb : Below w14.heap.size w14 v14 := by rw [hq]; first | exact (Below.refl _ _).alloc (Nat.le_refl _) _ | exact (((Below.refl _ _).alloc (Nat.le_refl _) _).setCell (p := ⟨w14.heap.size, 0, none⟩) (Nat.le_refl _) _).setCell (p := ⟨w14.heap.size, 1, none⟩) (Nat.le_refl _) _
              replace HT := Lib.hid (HT.out.next hb)
              replace A := Lib.hid (A.out.next hb)
              replace B := Lib.hid (B.out.next hb)
              replace C := Lib.hid (C.out.next hb)
              replace R := Lib.hid (R.out.next hb)
              replace E := Lib.hid (E.out.next hb)
              replace G := Lib.hid (G.out.next hb)
              replace GE := Lib.hid (GE.out.next hb)
              replace K := Lib.hid (K.out.next hb)
              replace KE := Lib.hid (KE.out.next hb)
              replace BB := Lib.hid (Below.andThen BB.out hb)
              rw [← ebONE]
              clear hq hb ebONE
              go_cut [151] (fun v wx => v = .bool false ∧ v14 = wx)
              case first => as_aux_lemma =>
                  clear F1 F2 F3 F4 CO CS CT CU CV CM CX CY H19 H24 H28 H29
                  have cE0 := E.out.cell 0
                  have lE := E.out.lt
                  simp only [List.getElem?_cons_zero, List.getElem?_cons_succ] at cE0
                  have cGE0 := GE.out.cell 0
                  have lGE := GE.out.lt
                  simp only [List.getElem?_cons_zero, List.getElem?_cons_succ] at cGE0
                  have cKE0 := KE.out.cell 0
                  have lKE := KE.out.lt
                  simp only [List.getElem?_cons_zero, List.getElem?_cons_succ] at cKE0
                  have cK0 := K.out.cell 0
                  have cK1 := K.out.cell 1
                  have lK := K.out.lt
                  simp only [List.getElem?_cons_zero, List.getElem?_cons_succ] at cK0 cK1
                  obtain ⟨cONE0, cONE1⟩ := ONE.out.two
                  have lONE := ONE.out.lt
                  rcases H15.out with rfl | ⟨rfl, rfl⟩ | ⟨rfl, rfl, rfl⟩ | ⟨rfl, rfl, rfl, rfl⟩ | ⟨rfl, rfl, rfl, rfl, rfl, rfl⟩
                  all_goals
                    clear H15
                    go_wp2_with fail
                    go_meet
                    exact ⟨rfl, rfl⟩
              obtain ⟨rfl, rfl⟩ := hcut
              as_aux_lemma =>
                clear H15 ONE K KE
                go_upto_region 17 with (fail)
                obtain ⟨cA0, cA1⟩ := A.out.two
                have lA := A.out.lt
                have cG4 := G.out.cell 4
                have cG5 := G.out.cell 5
                have lG := G.out.lt
                simp only [List.getElem?_cons_zero, List.getElem?_cons_succ] at cG4 cG5
                go_wp2_with fail
                clear cA0 cA1 lA
                clear cG4 cG5 lG
                with_reducible refine Calls.mono (CS.out _ HT.out) ?_
                rintro e w17 ⟨rfl, hb⟩
                replace HT := Lib.hid (HT.out.next hb)
                replace A := Lib.hid (A.out.next hb)
                replace B := Lib.hid (B.out.next hb)
                replace C := Lib.hid (C.out.next hb)
                replace R := Lib.hid (R.out.next hb)
                replace E := Lib.hid (E.out.next hb)
                replace G := Lib.hid (G.out.next hb)
                replace GE := Lib.hid (GE.out.next hb)
                replace BB := Lib.hid (Below.andThen BB.out hb)
                clear hb
                go_upto_region 18 with (fail)
                refine wp_named fun v17 hq => ?_
                obtain ⟨bTWO, ebTWO⟩ : ∃ b, b = w17.heap.size := ⟨_, rfl⟩
                have TWO := Lib.hid (show Row v17 bTWO 23 [.string s1, .string s2] from by rw [hq, ebTWO]; first | exact Row.new _ _ _ | exact ((Row.new w17 23 [.string ⟨#[]⟩, .string ⟨#[]⟩]).set 0 (.string s1)).set 1 (.string s2))
                have hb : Below w17.heap.size w17 v17 := by rw [hq]; first | exact (Below.refl _ _).alloc (Nat.le_refl _) _ | exact (((Below.refl _ _).alloc (Nat.le_refl _) _).setCell (p := ⟨w17.heap.size, 0, none⟩) (Nat.le_refl _) _).setCell (p := ⟨w17.heap.size, 1, none⟩) (Nat.le_refl _) _
                replace HT := Lib.hid (HT.out.next hb)
                replace A := Lib.hid (A.out.next hb)
                replace B := Lib.hid (B.out.next hb)
                replace C := Lib.hid (C.out.next hb)
                replace R := Lib.hid (R.out.next hb)
                replace E := Lib.hid (E.out.next hb)
                replace G := Lib.hid (G.out.next hb)
                replace GE := Lib.hid (GE.out.next hb)
                replace BB := Lib.hid (Below.andThen BB.out hb)
                rw [← ebTWO]
                clear hq hb ebTWO
                obtain ⟨cC0, cC1⟩ := C.out.two
                have lC := C.out.lt
                have cR4 := R.out.cell 4
                have cR5 := R.out.cell 5
                have lR := R.out.lt
                simp only [List.getElem?_cons_zero, List.getElem?_cons_succ] at cR4 cR5
                go_wp2_with fail
                clear cC0 cC1 lC
                clear cR4 cR5 lR
                as_aux_lemma =>
                  with_reducible refine Calls.mono (CT.out _ HT.out) ?_
                  rintro e w18 ⟨rfl, hb⟩
                  replace HT := Lib.hid (HT.out.next hb)
                  replace A := Lib.hid (A.out.next hb)
                  replace B := Lib.hid (B.out.next hb)
                  replace C := Lib.hid (C.out.next hb)
                  replace R := Lib.hid (R.out.next hb)
                  replace E := Lib.hid (E.out.next hb)
                  replace G := Lib.hid (G.out.next hb)
                  replace GE := Lib.hid (GE.out.next hb)
                  replace TWO := Lib.hid (TWO.out.next hb)
                  replace BB := Lib.hid (Below.andThen BB.out hb)
                  clear hb
                  go_upto_region 19 with (fail)
                  refine wp_named fun v18 hq => ?_
                  obtain ⟨bLEFT, ebLEFT⟩ : ∃ b, b = w18.heap.size := ⟨_, rfl⟩
                  have LEFT := Lib.hid (show Row v18 bLEFT 23 [.string t1, .string t2] from by rw [hq, ebLEFT]; first | exact Row.new _ _ _ | exact ((Row.new w18 23 [.string ⟨#[]⟩, .string ⟨#[]⟩]).set 0 (.string t1)).set 1 (.string t2))
                  have hb : Below w18.heap.size w18 v18 := by rw [hq]; first | exact (Below.refl _ _).alloc (Nat.le_refl _) _ | exact (((Below.refl _ _).alloc (Nat.le_refl _) _).setCell (p := ⟨w18.heap.size, 0, none⟩) (Nat.le_refl _) _).setCell (p := ⟨w18.heap.size, 1, none⟩) (Nat.le_refl _) _
                  replace HT := Lib.hid (HT.out.next hb)
                  replace A := Lib.hid (A.out.next hb)
                  replace B := Lib.hid (B.out.next hb)
                  replace C := Lib.hid (C.out.next hb)
                  replace R := Lib.hid (R.out.next hb)
                  replace E := Lib.hid (E.out.next hb)
                  replace G := Lib.hid (G.out.next hb)
                  replace GE := Lib.hid (GE.out.next hb)
                  replace TWO := Lib.hid (TWO.out.next hb)
                  replace BB := Lib.hid (Below.andThen BB.out hb)
                  rw [← ebLEFT]
                  clear hq hb ebLEFT
                  go_cut [186] (fun v wx => v = .bool false ∧ v18 = wx)
                  case first => as_aux_lemma =>
                      clear F1 F2 F3 F4 CO CS CT CU CV CM CX CY H24 H28 H29
                      have cE2 := E.out.cell 2
                      have lE := E.out.lt
                      simp only [List.getElem?_cons_zero, List.getElem?_cons_succ] at cE2
                      have cGE2 := GE.out.cell 2
                      have lGE := GE.out.lt
                      simp only [List.getElem?_cons_zero, List.getElem?_cons_succ] at cGE2
                      obtain ⟨cTWO0, cTWO1⟩ := TWO.out.two
                      have lTWO := TWO.out.lt
                      obtain ⟨cLEFT0, cLEFT1⟩ := LEFT.out.two
                      have lLEFT := LEFT.out.lt
                      rcases H19.out with rfl | ⟨rfl, rfl⟩ | ⟨rfl, rfl, rfl⟩ | ⟨rfl, rfl, rfl, rfl⟩ | ⟨rfl, rfl, rfl, rfl, rfl, rfl⟩
                      all_goals
                        clear H19
                        go_wp2_with fail
                        go_meet
                        exact ⟨rfl, rfl⟩
                  obtain ⟨rfl, rfl⟩ := hcut
                  as_aux_lemma =>
                    clear H19 TWO LEFT
                    go_upto_region 21 with (fail)
                    obtain ⟨cA0, cA1⟩ := A.out.two
                    have lA := A.out.lt
                    obtain ⟨cC0, cC1⟩ := C.out.two
                    have lC := C.out.lt
                    go_wp2_with fail
                    clear cA0 cA1 lA cC0 cC1 lC
                    with_reducible refine Calls.mono (CU.out _ HT.out) ?_
                    rintro e w21 ⟨rfl, hb⟩
                    replace HT := Lib.hid (HT.out.next hb)
                    replace A := Lib.hid (A.out.next hb)
                    replace B := Lib.hid (B.out.next hb)
                    replace C := Lib.hid (C.out.next hb)
                    replace R := Lib.hid (R.out.next hb)
                    replace E := Lib.hid (E.out.next hb)
                    replace G := Lib.hid (G.out.next hb)
                    replace GE := Lib.hid (GE.out.next hb)
                    replace BB := Lib.hid (Below.andThen BB.out hb)
                    clear hb
                    go_upto_region 22 with (fail)
                    refine wp_named fun v21 hq => ?_
                    obtain ⟨bAC, ebAC⟩ : ∃ b, b = w21.heap.size := ⟨_, rfl⟩
                    have AC := Lib.hid (show Row v21 bAC 23 [.string u1, .string u2] from by rw [hq, ebAC]; first | exact Row.new _ _ _ | exact ((Row.new w21 23 [.string ⟨#[]⟩, .string ⟨#[]⟩]).set 0 (.string u1)).set 1 (.string u2))
                    have hb : Below w21.heap.size w21 v21 := by rw [hq]; first | exact (Below.refl _ _).alloc (Nat.le_refl _) _ | exact (((Below.refl _ _).alloc (Nat.le_refl _) _).setCell (p := ⟨w21.heap.size, 0, none⟩) (Nat.le_refl _) _).setCell (p := ⟨w21.heap.size, 1, none⟩) (Nat.le_refl _) _
                    replace HT := Lib.hid (HT.out.next hb)
                    replace A := Lib.hid (A.out.next hb)
                    replace B := Lib.hid (B.out.next hb)
                    replace C := Lib.hid (C.out.next hb)
                    replace R := Lib.hid (R.out.next hb)
                    replace E := Lib.hid (E.out.next hb)
                    replace G := Lib.hid (G.out.next hb)
                    replace GE := Lib.hid (GE.out.next hb)
                    replace BB := Lib.hid (Below.andThen BB.out hb)
                    rw [← ebAC]
                    clear hq hb ebAC
                    obtain ⟨cAC0, cAC1⟩ := AC.out.two
                    have lAC := AC.out.lt
                    have cG4 := G.out.cell 4
                    have cG5 := G.out.cell 5
                    have lG := G.out.lt
                    simp only [List.getElem?_cons_zero, List.getElem?_cons_succ] at cG4 cG5
                    go_wp2_with fail
                    clear cAC0 cAC1 lAC
                    clear cG4 cG5 lG
                    as_aux_lemma =>
                      with_reducible refine Calls.mono (CV.out _ HT.out) ?_
                      rintro e w22 ⟨rfl, hb⟩
                      replace HT := Lib.hid (HT.out.next hb)
                      replace A := Lib.hid (A.out.next hb)
                      replace B := Lib.hid (B.out.next hb)
                      replace C := Lib.hid (C.out.next hb)
                      replace R := Lib.hid (R.out.next hb)
                      replace E := Lib.hid (E.out.next hb)
                      replace GE := Lib.hid (GE.out.next hb)
                      replace BB := Lib.hid (Below.andThen BB.out hb)
                      clear hb
                      go_upto_region 23 with (fail)
                      refine wp_named fun v22 hq => ?_
                      obtain ⟨bSUM, ebSUM⟩ : ∃ b, b = w22.heap.size := ⟨_, rfl⟩
                      have SUM := Lib.hid (show Row v22 bSUM 23 [.string v1, .string v2] from by rw [hq, ebSUM]; first | exact Row.new _ _ _ | exact ((Row.new w22 23 [.string ⟨#[]⟩, .string ⟨#[]⟩]).set 0 (.string v1)).set 1 (.string v2))
                      have hb : Below w22.heap.size w22 v22 := by rw [hq]; first | exact (Below.refl _ _).alloc (Nat.le_refl _) _ | exact (((Below.refl _ _).alloc (Nat.le_refl _) _).setCell (p := ⟨w22.heap.size, 0, none⟩) (Nat.le_refl _) _).setCell (p := ⟨w22.heap.size, 1, none⟩) (Nat.le_refl _) _
                      replace HT := Lib.hid (HT.out.next hb)
                      replace A := Lib.hid (A.out.next hb)
                      replace B := Lib.hid (B.out.next hb)
                      replace C := Lib.hid (C.out.next hb)
                      replace R := Lib.hid (R.out.next hb)
                      replace E := Lib.hid (E.out.next hb)
                      replace GE := Lib.hid (GE.out.next hb)
                      replace BB := Lib.hid (Below.andThen BB.out hb)
                      rw [← ebSUM]
                      clear hq hb ebSUM
                      obtain ⟨cC0, cC1⟩ := C.out.two
                      have lC := C.out.lt
                      have cR0 := R.out.cell 0
                      have cR1 := R.out.cell 1
                      have lR := R.out.lt
                      simp only [List.getElem?_cons_zero, List.getElem?_cons_succ] at cR0 cR1
                      go_wp2_with fail
                      clear cC0 cC1 lC
                      clear cR0 cR1 lR
                      as_aux_lemma =>
                        with_reducible refine Calls.mono (CM.out _ HT.out) ?_
                        rintro e w23 ⟨rfl, hb⟩
                        replace HT := Lib.hid (HT.out.next hb)
                        replace A := Lib.hid (A.out.next hb)
                        replace B := Lib.hid (B.out.next hb)
                        replace R := Lib.hid (R.out.next hb)
                        replace E := Lib.hid (E.out.next hb)
                        replace GE := Lib.hid (GE.out.next hb)
                        replace SUM := Lib.hid (SUM.out.next hb)
                        replace BB := Lib.hid (Below.andThen BB.out hb)
                        clear hb
                        go_upto_region 24 with (fail)
                        refine wp_named fun v23 hq => ?_
                        obtain ⟨bWHOLE, ebWHOLE⟩ : ∃ b, b = w23.heap.size := ⟨_, rfl⟩
                        have WHOLE := Lib.hid (show Row v23 bWHOLE 23 [.string m1, .string m2] from by rw [hq, ebWHOLE]; first | exact Row.new _ _ _ | exact ((Row.new w23 23 [.string ⟨#[]⟩, .string ⟨#[]⟩]).set 0 (.string m1)).set 1 (.string m2))
                        have hb : Below w23.heap.size w23 v23 := by rw [hq]; first | exact (Below.refl _ _).alloc (Nat.le_refl _) _ | exact (((Below.refl _ _).alloc (Nat.le_refl _) _).setCell (p := ⟨w23.heap.size, 0, none⟩) (Nat.le_refl _) _).setCell (p := ⟨w23.heap.size, 1, none⟩) (Nat.le_refl _) _
                        replace HT := Lib.hid (HT.out.next hb)
                        replace A := Lib.hid (A.out.next hb)
                        replace B := Lib.hid (B.out.next hb)
                        replace R := Lib.hid (R.out.next hb)
                        replace E := Lib.hid (E.out.next hb)
                        replace GE := Lib.hid (GE.out.next hb)
                        replace SUM := Lib.hid (SUM.out.next hb)
                        replace BB := Lib.hid (Below.andThen BB.out hb)
                        rw [← ebWHOLE]
                        clear hq hb ebWHOLE
                        go_cut [231] (fun v wx => v = .bool false ∧ v23 = wx)
                        case first => as_aux_lemma =>
                            clear F1 F2 F3 F4 CO CS CT CU CV CM CX CY H28 H29
                            have cE0 := E.out.cell 0
                            have lE := E.out.lt
                            simp only [List.getElem?_cons_zero, List.getElem?_cons_succ] at cE0
                            have cGE2 := GE.out.cell 2
                            have lGE := GE.out.lt
                            simp only [List.getElem?_cons_zero, List.getElem?_cons_succ] at cGE2
                            obtain ⟨cSUM0, cSUM1⟩ := SUM.out.two
                            have lSUM := SUM.out.lt
                            obtain ⟨cWHOLE0, cWHOLE1⟩ := WHOLE.out.two
                            have lWHOLE := WHOLE.out.lt
                            rcases H24.out with rfl | ⟨rfl, rfl⟩ | ⟨rfl, rfl, rfl⟩ | ⟨rfl, rfl, rfl, rfl⟩ | ⟨rfl, rfl, rfl, rfl, rfl⟩ | ⟨rfl, rfl, rfl, rfl, rfl, rfl, rfl⟩
                            all_goals
                              clear H24
                              go_wp2_with fail
                              go_meet
                              exact ⟨rfl, rfl⟩
                        obtain ⟨rfl, rfl⟩ := hcut
                        as_aux_lemma =>
                          clear H24 SUM WHOLE GE
                          go_upto_region 26 with (fail)
                          obtain ⟨cB0, cB1⟩ := B.out.two
                          have lB := B.out.lt
                          have cR0 := R.out.cell 0
                          have cR1 := R.out.cell 1
                          have lR := R.out.lt
                          simp only [List.getElem?_cons_zero, List.getElem?_cons_succ] at cR0 cR1
                          go_wp2_with fail
                          clear cB0 cB1 lB
                          clear cR0 cR1 lR
                          with_reducible refine Calls.mono (CX.out _ HT.out) ?_
                          rintro e w26 ⟨rfl, hb⟩
                          replace HT := Lib.hid (HT.out.next hb)
                          replace A := Lib.hid (A.out.next hb)
                          replace B := Lib.hid (B.out.next hb)
                          replace R := Lib.hid (R.out.next hb)
                          replace E := Lib.hid (E.out.next hb)
                          replace BB := Lib.hid (Below.andThen BB.out hb)
                          clear hb
                          go_upto_region 27 with (fail)
                          refine wp_named fun v26 hq => ?_
                          obtain ⟨bBACK, ebBACK⟩ : ∃ b, b = w26.heap.size := ⟨_, rfl⟩
                          have BACK := Lib.hid (show Row v26 bBACK 23 [.string x1, .string x2] from by rw [hq, ebBACK]; first | exact Row.new _ _ _ | exact ((Row.new w26 23 [.string ⟨#[]⟩, .string ⟨#[]⟩]).set 0 (.string x1)).set 1 (.string x2))
                          have hb : Below w26.heap.size w26 v26 := by rw [hq]; first | exact (Below.refl _ _).alloc (Nat.le_refl _) _ | exact (((Below.refl _ _).alloc (Nat.le_refl _) _).setCell (p := ⟨w26.heap.size, 0, none⟩) (Nat.le_refl _) _).setCell (p := ⟨w26.heap.size, 1, none⟩) (Nat.le_refl _) _
                          replace HT := Lib.hid (HT.out.next hb)
                          replace A := Lib.hid (A.out.next hb)
                          replace B := Lib.hid (B.out.next hb)
                          replace R := Lib.hid (R.out.next hb)
                          replace E := Lib.hid (E.out.next hb)
                          replace BB := Lib.hid (Below.andThen BB.out hb)
                          rw [← ebBACK]
                          clear hq hb ebBACK
                          obtain ⟨cB0, cB1⟩ := B.out.two
                          have lB := B.out.lt
                          have cR6 := R.out.cell 6
                          have cR7 := R.out.cell 7
                          have lR := R.out.lt
                          simp only [List.getElem?_cons_zero, List.getElem?_cons_succ] at cR6 cR7
                          go_wp2_with fail
                          clear cB0 cB1 lB
                          clear cR6 cR7 lR
                          as_aux_lemma =>
                            with_reducible refine Calls.mono (CY.out _ HT.out) ?_
                            rintro e w27 ⟨rfl, hb⟩
                            replace HT := Lib.hid (HT.out.next hb)
                            replace A := Lib.hid (A.out.next hb)
                            replace E := Lib.hid (E.out.next hb)
                            replace BACK := Lib.hid (BACK.out.next hb)
                            replace BB := Lib.hid (Below.andThen BB.out hb)
                            clear hb
                            go_upto_region 28 with (fail)
                            refine wp_named fun v27 hq => ?_
                            obtain ⟨bAGAIN, ebAGAIN⟩ : ∃ b, b = w27.heap.size := ⟨_, rfl⟩
                            have AGAIN := Lib.hid (show Row v27 bAGAIN 23 [.string y1, .string y2] from by rw [hq, ebAGAIN]; first | exact Row.new _ _ _ | exact ((Row.new w27 23 [.string ⟨#[]⟩, .string ⟨#[]⟩]).set 0 (.string y1)).set 1 (.string y2))
                            have hb : Below w27.heap.size w27 v27 := by rw [hq]; first | exact (Below.refl _ _).alloc (Nat.le_refl _) _ | exact (((Below.refl _ _).alloc (Nat.le_refl _) _).setCell (p := ⟨w27.heap.size, 0, none⟩) (Nat.le_refl _) _).setCell (p := ⟨w27.heap.size, 1, none⟩) (Nat.le_refl _) _
                            replace HT := Lib.hid (HT.out.next hb)
                            replace A := Lib.hid (A.out.next hb)
                            replace E := Lib.hid (E.out.next hb)
                            replace BACK := Lib.hid (BACK.out.next hb)
                            replace BB := Lib.hid (Below.andThen BB.out hb)
                            rw [← ebAGAIN]
                            clear hq hb ebAGAIN
                            as_aux_lemma =>
                              have cE0 := E.out.cell 0
                              have cE3 := E.out.cell 3
                              have lE := E.out.lt
                              simp only [List.getElem?_cons_zero, List.getElem?_cons_succ] at cE0 cE3
                              obtain ⟨cA0, cA1⟩ := A.out.two
                              have lA := A.out.lt
                              obtain ⟨cBACK0, cBACK1⟩ := BACK.out.two
                              have lBACK := BACK.out.lt
                              obtain ⟨cAGAIN0, cAGAIN1⟩ := AGAIN.out.two
                              have lAGAIN := AGAIN.out.lt
                              clear F1 F2 F3 F4 CO CS CT CU CV CM CX CY
                              rcases H28.out with rfl | ⟨rfl, rfl⟩ | ⟨rfl, rfl, rfl, rfl⟩
                              all_goals
                                rcases H29.out with rfl | ⟨rfl, rfl⟩ | ⟨rfl, rfl, rfl, rfl⟩
                              all_goals
                                clear H28 H29
                                go_wp2_with fail
                                go_ret
                                exact ⟨rfl, BB.out⟩
end Go.Proofs.YtlehjmanlccncaaGreatDoor
