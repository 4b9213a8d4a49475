/- For every input, RationalMachine returns true; the listed tables hold what the program's text lays. -/
import Derived.Test.YtlehjmanlccncaaGreatDoorRatMa
set_option linter.unusedVariables false
set_option linter.unusedSimpArgs false
namespace Go.Proofs.YtlehjmanlccncaaGreatDoor
open Go.RowKit Go.ChangeShapes Go.WideShapes Go.ChangeAt

def SinceM (v w : World) : Prop := Below v.heap.size v w
theorem SinceM.next {v w w' : World} (h : SinceM v w) (hb : Below w.heap.size w w') : SinceM v w' := Below.andThen h hb
/-- one of the results: a fraction of small numbers, which is what was wanted -/
def Hit (s1 s2 : ByteArray) (e w0 w1 : Int) : Prop := ∃ u v z : Int, e = 0 ∧ s1 = In.txt u ∧ s2 = In.txt v ∧ Ra.Ok (u, v) ∧ u.natAbs ≤ 1800000000 ∧ 1 ≤ v ∧ v ≤ 900000000 ∧ u * w1 = z ∧ w0 * v = z ∧ z.natAbs ≤ 1620000000000000000
theorem hit_of {o : Option (Int × Int)} {s1 s2 : ByteArray} {e w0 w1 : Int} (ht : Ra.tx o = (s1, s2)) (hk : (e = 40 ∧ o = none) ∨ (e = 0 ∧ o ≠ none))
    (h : ∃ u v z : Int, o = some (u, v) ∧ Ra.Ok (u, v) ∧ u.natAbs ≤ 1800000000 ∧ 1 ≤ v ∧ v ≤ 900000000 ∧ u * w1 = z ∧ w0 * v = z ∧ z.natAbs ≤ 1620000000000000000) : Hit s1 s2 e w0 w1 := by
  obtain ⟨u, v, z, h1, h2, h3, h4, h5, h6, h7, h8⟩ := h
  rcases hk with ⟨-, k⟩ | ⟨k, -⟩
  · rw [h1] at k; cases k
  · rw [h1] at ht
    obtain ⟨e1, e2⟩ := Prod.mk.inj ht
    exact ⟨u, v, z, k, e1.symm, e2.symm, h2, h3, h4, h5, h6, h7, h8⟩
set_option maxRecDepth 100000 in
set_option maxHeartbeats 16000000 in
theorem rationalMachine_law (n0 d0 m0 c0 : Int) (w : World) (T : RW w) (hn0 : -9223372036854775808 ≤ n0 ∧ n0 ≤ 9223372036854775807) (hd0 : -9223372036854775808 ≤ d0 ∧ d0 ≤ 9223372036854775807) (hm0 : -9223372036854775808 ≤ m0 ∧ m0 ≤ 9223372036854775807) (hc0 : -9223372036854775808 ≤ c0 ∧ c0 ≤ 9223372036854775807) :
    Calls Tryz.prog 5 #[.int .i64 n0, .int .i64 d0, .int .i64 m0, .int .i64 c0] w fun r w' => r = .returned (.bool true) ∧ Below w.heap.size w w' := by
  have HT := Lib.hid T
  have BB := Lib.hid (Below.refl w.heap.size w)
  have HS := Lib.hid sane_any
  have kn := pick_in n0 (n := 60001) (by decide)
  have Kn := Lib.hid (fun W => pick_r n0 60001 W (by decide) hn0.1 hn0.2)
  generalize pickZ n0 60001 = pn at *
  have km := pick_in m0 (n := 60001) (by decide)
  have Km := Lib.hid (fun W => pick_r m0 60001 W (by decide) hm0.1 hm0.2)
  generalize pickZ m0 60001 = pm at *
  have kd := pick_in d0 (n := 30000) (by decide)
  have Kd := Lib.hid (fun W => pick_r d0 30000 W (by decide) hd0.1 hd0.2)
  generalize pickZ d0 30000 = pd at *
  have kc := pick_in c0 (n := 30000) (by decide)
  have Kc := Lib.hid (fun W => pick_r c0 30000 W (by decide) hc0.1 hc0.2)
  generalize pickZ c0 30000 = pc at *
  have bn : (pn - 30000).natAbs ≤ 30000 := by omega
  have bm : (pm - 30000).natAbs ≤ 30000 := by omega
  have bd : 1 ≤ 1 + pd ∧ 1 + pd ≤ 30000 := by omega
  have bc : 1 ≤ 1 + pc ∧ 1 + pc ≤ 30000 := by omega
  clear T hn0 hd0 hm0 hc0
  go_enter Tryz.func5, Tryz.ntmps5
  go_wp2_with fail
  with_reducible refine Calls.mono (HS.out _ HT.out) ?_
  rintro e w1 ⟨rfl, hb⟩
  replace HT := Lib.hid (HT.out.next hb)
  replace BB := Lib.hid (Below.andThen BB.out hb)
  clear hb
  go_wp2_with fail
  with_reducible refine Calls.mono (Kn.out _) ?_
  rintro e w' ⟨rfl, rfl⟩
  go_wp2_with fail
  with_reducible refine Calls.mono (Km.out _) ?_
  rintro e w' ⟨rfl, rfl⟩
  go_wp2_with fail
  with_reducible refine Calls.mono (Kd.out _) ?_
  rintro e w' ⟨rfl, rfl⟩
  go_wp2_with fail
  with_reducible refine Calls.mono (Kc.out _) ?_
  rintro e w' ⟨rfl, rfl⟩
  go_upto_region 6 with (fail)
  clear Kn Km Kd Kc kn km kd kc HS
  generalize pn - 30000 = n at *
  generalize pm - 30000 = m at *
  generalize 1 + pd = d at *
  generalize 1 + pc = c at *
  have CO1 := Lib.hid (fun W (T : RW W) => Of_r n d W (by omega) (by omega) T.tab)
  have CO2 := Lib.hid (fun W (T : RW W) => Of_r m c W (by omega) (by omega) T.tab)
  have cN : c.natAbs ≤ 30000 := by omega
  have dN : d.natAbs ≤ 30000 := by omega
  obtain ⟨a, ha, oa, a1, a2, qa, -⟩ := of_small bn bd
  obtain ⟨b, hb, ob, b1, b2, qb, b0⟩ := of_small bm bc
  obtain ⟨M1, M2, M3, M4, M5⟩ := mach_ops bn bd bm bc oa ob a1 a2 b1 b2 qa qb b0
  have mc := mach_cmp bd.1 bc.1 oa ob qa qb
  rw [ha] at CO1
  rw [hb] at CO2
  have C1 := Lib.hid (Cmp_q oa ob mc)
  have va := Ra.val_tx oa
  have vb := Ra.val_tx ob
  obtain ⟨r1, r2, xr, rr, zr, kr⟩ := op_all (Ra.addO (some a) (some b))
  obtain ⟨s1, s2, xs, rs, zs, ks⟩ := op_all (Ra.subO (some a) (some b))
  obtain ⟨t1, t2, xt, rt, zt, kt⟩ := op_all (Ra.mulO (some a) (some b))
  obtain ⟨u1, u2, xu, ru, zu, ku⟩ := op_all (Ra.divO (some a) (some b))
  have F1 := Lib.hid (fun W (T : RW W) => four_any (p0 := r1) (q0 := r2) (e0 := xr) (p1 := s1) (q1 := s2) (e1 := xs) (p2 := t1) (q2 := t2) (e2 := xt) (p3 := u1) (q3 := u2) (e3 := xu) (Ra.tx (some a)) (Ra.tx (some b)) W T.tab (by rw [va, vb]; exact rr) (by rw [va, vb]; exact rs) (by rw [va, vb]; exact rt) (by rw [va, vb]; exact ru))
  rw [show resV (some a) = .tuple #[ratV (Ra.tx (some a)), .int .i64 0] from rfl] at CO1
  rw [show resV (some b) = .tuple #[ratV (Ra.tx (some b)), .int .i64 0] from rfl] at CO2
  obtain ⟨av1, av2, ea⟩ : ∃ u1 u2, Ra.tx (some a) = (u1, u2) := ⟨_, _, rfl⟩
  obtain ⟨bv1, bv2, eb⟩ : ∃ u1 u2, Ra.tx (some b) = (u1, u2) := ⟨_, _, rfl⟩
  rw [ea] at CO1
  rw [eb] at CO2
  rw [ea, eb] at F1 C1
  obtain ⟨nc, hnc⟩ : ∃ z, n * c = z := ⟨_, rfl⟩
  obtain ⟨md, hmd⟩ : ∃ z, m * d = z := ⟨_, rfl⟩
  obtain ⟨dc, hdc⟩ : ∃ z, d * c = z := ⟨_, rfl⟩
  obtain ⟨nm, hnm⟩ : ∃ z, n * m = z := ⟨_, rfl⟩
  obtain ⟨dm, hdm⟩ : ∃ z, d * m = z := ⟨_, rfl⟩
  have bnc := mul_nine bn cN
  have bmd := mul_nine bm dN
  have bdc := mul_nine dN cN
  have bnm := mul_nine bn bm
  have bdm := mul_nine dN bm
  rw [hnc] at bnc
  rw [hmd] at bmd
  rw [hdc] at bdc
  rw [hnm] at bnm
  rw [hdm] at bdm
  rw [hnc, hmd] at M1 M2 C1
  rw [hdc] at M1 M2 M3
  rw [hnm] at M3
  rw [hnc, hdm] at M4
  have H0 := Lib.hid (hit_of zr kr M1)
  have H1 := Lib.hid (hit_of zs ks M2)
  have H2 := Lib.hid (hit_of zt kt M3)
  have H3 := Lib.hid (show (m = 0 ∧ xu = 40 ∧ u1 = ⟨#[]⟩ ∧ u2 = ⟨#[]⟩) ∨ (m ≠ 0 ∧ Hit u1 u2 xu nc dm) from by
    by_cases h : m = 0
    · have h5 := M5 h
      rw [h5] at zu ku
      obtain ⟨e1, e2⟩ := Prod.mk.inj zu
      refine .inl ⟨h, ?_, e1.symm, e2.symm⟩
      rcases ku with ⟨k, -⟩ | ⟨-, k⟩
      · exact k
      · exact absurd rfl k
    · exact .inr ⟨h, hit_of zu ku (M4 h)⟩)
  have HO := Lib.hid (show (decide (nc < md) = true ∧ decide (md < nc) = false ∧ (if nc < md then (-1 : Int) else if md < nc then 1 else 0) = -1) ∨ (decide (nc < md) = false ∧ decide (md < nc) = true ∧ (if nc < md then (-1 : Int) else if md < nc then 1 else 0) = 1) ∨ (decide (nc < md) = false ∧ decide (md < nc) = false ∧ (if nc < md then (-1 : Int) else if md < nc then 1 else 0) = 0) from by
    simp only [decide_eq_true_eq, decide_eq_false_iff_not]
    by_cases h : nc < md
    · exact .inl ⟨h, by omega, if_pos h⟩
    · by_cases h2 : md < nc
      · exact .inr (.inl ⟨h, h2, by rw [if_neg h, if_pos h2]⟩)
      · exact .inr (.inr ⟨h, h2, by rw [if_neg h, if_neg h2]⟩))
  clear M1 M2 M3 M4 M5 mc va vb ea eb ha hb oa ob a1 a2 b1 b2 qa qb b0 rr zr kr rs zs ks rt zt kt ru zu ku
  generalize (if nc < md then (-1 : Int) else if md < nc then 1 else 0) = cmp at *
  go_wp2_with fail
  with_reducible refine Calls.mono (CO1.out _ HT.out) ?_
  rintro e w2 ⟨rfl, hb⟩
  replace HT := Lib.hid (HT.out.next hb)
  replace BB := Lib.hid (Below.andThen BB.out hb)
  clear hb
  go_wp2_with fail
  refine calls_named fun v2 hq => ?_
  obtain ⟨bA, ebA⟩ : ∃ b, b = w2.heap.size := ⟨_, rfl⟩
  have A := Lib.hid (show Row v2 bA 23 [.string av1, .string av2] from by rw [hq, ebA]; first | exact Row.new _ _ _ | exact ((Row.new w2 23 [.string ⟨#[]⟩, .string ⟨#[]⟩]).set 0 (.string av1)).set 1 (.string av2))
  have hb : Below w2.heap.size w2 v2 := by rw [hq]; first | exact (Below.refl _ _).alloc (Nat.le_refl _) _ | exact (((Below.refl _ _).alloc (Nat.le_refl _) _).setCell (p := ⟨w2.heap.size, 0, none⟩) (Nat.le_refl _) _).setCell (p := ⟨w2.heap.size, 1, none⟩) (Nat.le_refl _) _
  replace HT := Lib.hid (HT.out.next hb)
  replace BB := Lib.hid (Below.andThen BB.out hb)
  rw [← ebA]
  clear hq hb ebA
  with_reducible refine Calls.mono (CO2.out _ HT.out) ?_
  rintro e w3 ⟨rfl, hb⟩
  replace HT := Lib.hid (HT.out.next hb)
  replace A := Lib.hid (A.out.next hb)
  replace BB := Lib.hid (Below.andThen BB.out hb)
  clear hb
  go_upto_region 8 with (fail)
  refine wp_named fun v3 hq => ?_
  obtain ⟨bB, ebB⟩ : ∃ b, b = w3.heap.size := ⟨_, rfl⟩
  have B := Lib.hid (show Row v3 bB 23 [.string bv1, .string bv2] from by rw [hq, ebB]; first | exact Row.new _ _ _ | exact ((Row.new w3 23 [.string ⟨#[]⟩, .string ⟨#[]⟩]).set 0 (.string bv1)).set 1 (.string bv2))
  have hb : Below w3.heap.size w3 v3 := by rw [hq]; first | exact (Below.refl _ _).alloc (Nat.le_refl _) _ | exact (((Below.refl _ _).alloc (Nat.le_refl _) _).setCell (p := ⟨w3.heap.size, 0, none⟩) (Nat.le_refl _) _).setCell (p := ⟨w3.heap.size, 1, none⟩) (Nat.le_refl _) _
  replace HT := Lib.hid (HT.out.next hb)
  replace A := Lib.hid (A.out.next hb)
  replace BB := Lib.hid (Below.andThen BB.out hb)
  rw [← ebB]
  clear hq hb ebB
  obtain ⟨cA0, cA1⟩ := A.out.two
  have lA := A.out.lt
  obtain ⟨cB0, cB1⟩ := B.out.two
  have lB := B.out.lt
  go_wp2_with fail
  clear cA0 cA1 lA cB0 cB1 lB
  with_reducible refine Calls.mono (F1.out _ HT.out) ?_
  rintro e w4 ⟨rfl, hb⟩
  replace HT := Lib.hid (HT.out.next hb)
  replace A := Lib.hid (A.out.next hb)
  replace B := Lib.hid (B.out.next hb)
  replace BB := Lib.hid (Below.andThen BB.out hb)
  clear hb
  go_upto_region 9 with (fail)
  refine wp_named fun v4 hq => ?_
  obtain ⟨bR, ebR⟩ : ∃ b, b = w4.heap.size := ⟨_, rfl⟩
  obtain ⟨bE, ebE⟩ : ∃ b, b = w4.heap.size + 1 := ⟨_, rfl⟩
  obtain ⟨hR, hE, hb⟩ := four_rows w4 v4 _ _ _ _ _ _ _ _ _ _ _ _ hq
  have R := Lib.hid (show Row v4 bR 31 [.string r1, .string r2, .string s1, .string s2, .string t1, .string t2, .string u1, .string u2] from by rw [ebR]; exact hR)
  have E := Lib.hid (show Row v4 bE 33 [.int .i64 xr, .int .i64 xs, .int .i64 xt, .int .i64 xu] from by rw [ebE]; exact hE)
  clear hR hE
  replace HT := Lib.hid (HT.out.next hb)
  replace A := Lib.hid (A.out.next hb)
  replace B := Lib.hid (B.out.next hb)
  replace BB := Lib.hid (Below.andThen BB.out hb)
  rw [← ebE, ← ebR]
  clear hq hb ebR ebE
  clear CO1 CO2 F1
  go_upto_region 10 with (fail)
  refine wp_named fun v5 hq => ?_
  obtain ⟨bW, ebW⟩ : ∃ b, b = v4.heap.size := ⟨_, rfl⟩
  have W := Lib.hid (show Row v5 bW 51 [.int .i64 (nc + md), .int .i64 dc, .int .i64 (nc - md), .int .i64 dc, .int .i64 nm, .int .i64 dc, .int .i64 nc, .int .i64 dm] from by rw [hq, ebW]; exact Row.new _ _ _)
  have hb : Below v4.heap.size v4 v5 := by rw [hq]; exact (Below.refl _ _).alloc (Nat.le_refl _) _
  rw [← ebW]
  clear hq ebW
  replace HT := Lib.hid (HT.out.next hb)
  replace A := Lib.hid (A.out.next hb)
  replace B := Lib.hid (B.out.next hb)
  replace R := Lib.hid (R.out.next hb)
  replace E := Lib.hid (E.out.next hb)
  replace BB := Lib.hid (Below.andThen BB.out hb)
  clear hb
  have bs0 := sum_abs bnc bmd
  have bs1 := dif_abs bnc bmd
  generalize nc + md = s0' at *
  generalize nc - md = s1' at *
  go_wp2_with fail
  go_loopw [17] (fun iv wr => ∃ i : Nat, i ≤ 4 ∧ iv = .int .i64 i ∧ Below v5.heap.size v5 wr) (fun iv _ => 4 - (intOf iv).toNat)
  case atStart => exact ⟨0, by omega, rfl, Below.refl _ _⟩
  case round =>
    obtain ⟨i, hi, rfl, hb0⟩ := hrel
    have HB0 := Lib.hid (show SinceM v5 _ from hb0)
    have hb := hb0
    clear hb0
    replace HT := Lib.hid (HT.out.next hb)
    replace A := Lib.hid (A.out.next hb)
    replace B := Lib.hid (B.out.next hb)
    replace R := Lib.hid (R.out.next hb)
    replace E := Lib.hid (E.out.next hb)
    replace W := Lib.hid (W.out.next hb)
    replace BB := Lib.hid (Below.andThen BB.out hb)
    clear hb
    rename World => wr
    have hi3 : i = 0 ∨ i = 1 ∨ i = 2 ∨ i = 3 ∨ i = 4 := by omega
    rcases hi3 with rfl | rfl | rfl | rfl | rfl
    · clear HO C1
      obtain ⟨u, v, z, h0, h1, h2, h3, h4, h5, h6, h7, h8, h9⟩ := H0.out
      subst h0
      subst h1
      subst h2
      have f1 := h3.num
      have f2 := h3.den
      have CU := Lib.hid (toInt_t h4)
      have CV := Lib.hid (toInt_t (u := v) (by omega))
      have CW := Lib.hid (fun W (T : RW W) => Valid_q h3 W T)
      rw [show Ra.tx (some (u, v)) = (In.txt u, In.txt v) from rfl] at CW
      have hv1 : decide (v < 1) = false := by rw [decide_eq_false_iff_not]; omega
      clear f1 f2 h3 h4
      generalize In.txt u = su at *
      generalize In.txt v = sv at *
      have cR0 := R.out.cell 0
      have cR1 := R.out.cell 1
      have lR := R.out.lt
      simp only [List.getElem?_cons_zero, List.getElem?_cons_succ] at cR0 cR1
      have cE0 := E.out.cell 0
      have lE := E.out.lt
      simp only [List.getElem?_cons_zero, List.getElem?_cons_succ] at cE0
      have cW0 := W.out.cell 0
      have cW1 := W.out.cell 1
      have lW := W.out.lt
      simp only [List.getElem?_cons_zero, List.getElem?_cons_succ] at cW0 cW1
      go_wp2_with fail
      clear cR0 cR1 lR cE0 lE cW0 cW1 lW
      with_reducible refine Calls.mono (CU.out _) ?_
      rintro e w11 ⟨rfl, hb⟩
      replace HT := Lib.hid (HT.out.next hb)
      replace A := Lib.hid (A.out.next hb)
      replace B := Lib.hid (B.out.next hb)
      replace R := Lib.hid (R.out.next hb)
      replace E := Lib.hid (E.out.next hb)
      replace W := Lib.hid (W.out.next hb)
      replace HB0 := Lib.hid (HB0.out.next hb)
      replace BB := Lib.hid (Below.andThen BB.out hb)
      clear hb
      have cR0 := R.out.cell 0
      have cR1 := R.out.cell 1
      have lR := R.out.lt
      simp only [List.getElem?_cons_zero, List.getElem?_cons_succ] at cR0 cR1
      have cE0 := E.out.cell 0
      have lE := E.out.lt
      simp only [List.getElem?_cons_zero, List.getElem?_cons_succ] at cE0
      have cW0 := W.out.cell 0
      have cW1 := W.out.cell 1
      have lW := W.out.lt
      simp only [List.getElem?_cons_zero, List.getElem?_cons_succ] at cW0 cW1
      go_wp2_with fail
      clear cR0 cR1 lR cE0 lE cW0 cW1 lW
      with_reducible refine Calls.mono (CV.out _) ?_
      rintro e w12 ⟨rfl, hb⟩
      replace HT := Lib.hid (HT.out.next hb)
      replace A := Lib.hid (A.out.next hb)
      replace B := Lib.hid (B.out.next hb)
      replace R := Lib.hid (R.out.next hb)
      replace E := Lib.hid (E.out.next hb)
      replace W := Lib.hid (W.out.next hb)
      replace HB0 := Lib.hid (HB0.out.next hb)
      replace BB := Lib.hid (Below.andThen BB.out hb)
      clear hb
      have cR0 := R.out.cell 0
      have cR1 := R.out.cell 1
      have lR := R.out.lt
      simp only [List.getElem?_cons_zero, List.getElem?_cons_succ] at cR0 cR1
      have cE0 := E.out.cell 0
      have lE := E.out.lt
      simp only [List.getElem?_cons_zero, List.getElem?_cons_succ] at cE0
      have cW0 := W.out.cell 0
      have cW1 := W.out.cell 1
      have lW := W.out.lt
      simp only [List.getElem?_cons_zero, List.getElem?_cons_succ] at cW0 cW1
      go_upto_region 18 with (fail)
      refine wp_region_kin (by kernel_rfl) (by kernel_rfl) w12.heap.size 0 (by simp) (fun hk => ?_)
      repeat (go_big_quiet_step (first | (go_at_call 29; first | with_reducible exact Calls.kin (CW.out _ (HT.out.next (Kin.below _))))))
      refine wpQuiet_nil ?_
      clear hk
      intro w13 hb
      replace HT := Lib.hid (HT.out.next hb)
      replace A := Lib.hid (A.out.next hb)
      replace B := Lib.hid (B.out.next hb)
      replace R := Lib.hid (R.out.next hb)
      replace E := Lib.hid (E.out.next hb)
      replace W := Lib.hid (W.out.next hb)
      replace HB0 := Lib.hid (HB0.out.next hb)
      replace BB := Lib.hid (Below.andThen BB.out hb)
      clear hb
      clear cR0 cR1 lR cE0 lE cW0 cW1 lW
      go_wp2_with fail
      go_roundw
      case rel => exact ⟨0 + 1, by omega, rfl, HB0.out⟩
      case measure => simp [intOf]
    · clear HO C1
      obtain ⟨u, v, z, h0, h1, h2, h3, h4, h5, h6, h7, h8, h9⟩ := H1.out
      subst h0
      subst h1
      subst h2
      have f1 := h3.num
      have f2 := h3.den
      have CU := Lib.hid (toInt_t h4)
      have CV := Lib.hid (toInt_t (u := v) (by omega))
      have CW := Lib.hid (fun W (T : RW W) => Valid_q h3 W T)
      rw [show Ra.tx (some (u, v)) = (In.txt u, In.txt v) from rfl] at CW
      have hv1 : decide (v < 1) = false := by rw [decide_eq_false_iff_not]; omega
      clear f1 f2 h3 h4
      generalize In.txt u = su at *
      generalize In.txt v = sv at *
      have cR2 := R.out.cell 2
      have cR3 := R.out.cell 3
      have lR := R.out.lt
      simp only [List.getElem?_cons_zero, List.getElem?_cons_succ] at cR2 cR3
      have cE1 := E.out.cell 1
      have lE := E.out.lt
      simp only [List.getElem?_cons_zero, List.getElem?_cons_succ] at cE1
      have cW2 := W.out.cell 2
      have cW3 := W.out.cell 3
      have lW := W.out.lt
      simp only [List.getElem?_cons_zero, List.getElem?_cons_succ] at cW2 cW3
      go_wp2_with fail
      clear cR2 cR3 lR cE1 lE cW2 cW3 lW
      with_reducible refine Calls.mono (CU.out _) ?_
      rintro e w11 ⟨rfl, hb⟩
      replace HT := Lib.hid (HT.out.next hb)
      replace A := Lib.hid (A.out.next hb)
      replace B := Lib.hid (B.out.next hb)
      replace R := Lib.hid (R.out.next hb)
      replace E := Lib.hid (E.out.next hb)
      replace W := Lib.hid (W.out.next hb)
      replace HB0 := Lib.hid (HB0.out.next hb)
      replace BB := Lib.hid (Below.andThen BB.out hb)
      clear hb
      have cR2 := R.out.cell 2
      have cR3 := R.out.cell 3
      have lR := R.out.lt
      simp only [List.getElem?_cons_zero, List.getElem?_cons_succ] at cR2 cR3
      have cE1 := E.out.cell 1
      have lE := E.out.lt
      simp only [List.getElem?_cons_zero, List.getElem?_cons_succ] at cE1
      have cW2 := W.out.cell 2
      have cW3 := W.out.cell 3
      have lW := W.out.lt
      simp only [List.getElem?_cons_zero, List.getElem?_cons_succ] at cW2 cW3
      go_wp2_with fail
      clear cR2 cR3 lR cE1 lE cW2 cW3 lW
      with_reducible refine Calls.mono (CV.out _) ?_
      rintro e w12 ⟨rfl, hb⟩
      replace HT := Lib.hid (HT.out.next hb)
      replace A := Lib.hid (A.out.next hb)
      replace B := Lib.hid (B.out.next hb)
      replace R := Lib.hid (R.out.next hb)
      replace E := Lib.hid (E.out.next hb)
      replace W := Lib.hid (W.out.next hb)
      replace HB0 := Lib.hid (HB0.out.next hb)
      replace BB := Lib.hid (Below.andThen BB.out hb)
      clear hb
      have cR2 := R.out.cell 2
      have cR3 := R.out.cell 3
      have lR := R.out.lt
      simp only [List.getElem?_cons_zero, List.getElem?_cons_succ] at cR2 cR3
      have cE1 := E.out.cell 1
      have lE := E.out.lt
      simp only [List.getElem?_cons_zero, List.getElem?_cons_succ] at cE1
      have cW2 := W.out.cell 2
      have cW3 := W.out.cell 3
      have lW := W.out.lt
      simp only [List.getElem?_cons_zero, List.getElem?_cons_succ] at cW2 cW3
      go_upto_region 18 with (fail)
      refine wp_region_kin (by kernel_rfl) (by kernel_rfl) w12.heap.size 0 (by simp) (fun hk => ?_)
      repeat (go_big_quiet_step (first | (go_at_call 29; first | with_reducible exact Calls.kin (CW.out _ (HT.out.next (Kin.below _))))))
      refine wpQuiet_nil ?_
      clear hk
      intro w13 hb
      replace HT := Lib.hid (HT.out.next hb)
      replace A := Lib.hid (A.out.next hb)
      replace B := Lib.hid (B.out.next hb)
      replace R := Lib.hid (R.out.next hb)
      replace E := Lib.hid (E.out.next hb)
      replace W := Lib.hid (W.out.next hb)
      replace HB0 := Lib.hid (HB0.out.next hb)
      replace BB := Lib.hid (Below.andThen BB.out hb)
      clear hb
      clear cR2 cR3 lR cE1 lE cW2 cW3 lW
      go_wp2_with fail
      go_roundw
      case rel => exact ⟨1 + 1, by omega, rfl, HB0.out⟩
      case measure => simp [intOf]
    · clear HO C1
      obtain ⟨u, v, z, h0, h1, h2, h3, h4, h5, h6, h7, h8, h9⟩ := H2.out
      subst h0
      subst h1
      subst h2
      have f1 := h3.num
      have f2 := h3.den
      have CU := Lib.hid (toInt_t h4)
      have CV := Lib.hid (toInt_t (u := v) (by omega))
      have CW := Lib.hid (fun W (T : RW W) => Valid_q h3 W T)
      rw [show Ra.tx (some (u, v)) = (In.txt u, In.txt v) from rfl] at CW
      have hv1 : decide (v < 1) = false := by rw [decide_eq_false_iff_not]; omega
      clear f1 f2 h3 h4
      generalize In.txt u = su at *
      generalize In.txt v = sv at *
      have cR4 := R.out.cell 4
      have cR5 := R.out.cell 5
      have lR := R.out.lt
      simp only [List.getElem?_cons_zero, List.getElem?_cons_succ] at cR4 cR5
      have cE2 := E.out.cell 2
      have lE := E.out.lt
      simp only [List.getElem?_cons_zero, List.getElem?_cons_succ] at cE2
      have cW4 := W.out.cell 4
      have cW5 := W.out.cell 5
      have lW := W.out.lt
      simp only [List.getElem?_cons_zero, List.getElem?_cons_succ] at cW4 cW5
      go_wp2_with fail
      clear cR4 cR5 lR cE2 lE cW4 cW5 lW
      with_reducible refine Calls.mono (CU.out _) ?_
      rintro e w11 ⟨rfl, hb⟩
      replace HT := Lib.hid (HT.out.next hb)
      replace A := Lib.hid (A.out.next hb)
      replace B := Lib.hid (B.out.next hb)
      replace R := Lib.hid (R.out.next hb)
      replace E := Lib.hid (E.out.next hb)
      replace W := Lib.hid (W.out.next hb)
      replace HB0 := Lib.hid (HB0.out.next hb)
      replace BB := Lib.hid (Below.andThen BB.out hb)
      clear hb
      have cR4 := R.out.cell 4
      have cR5 := R.out.cell 5
      have lR := R.out.lt
      simp only [List.getElem?_cons_zero, List.getElem?_cons_succ] at cR4 cR5
      have cE2 := E.out.cell 2
      have lE := E.out.lt
      simp only [List.getElem?_cons_zero, List.getElem?_cons_succ] at cE2
      have cW4 := W.out.cell 4
      have cW5 := W.out.cell 5
      have lW := W.out.lt
      simp only [List.getElem?_cons_zero, List.getElem?_cons_succ] at cW4 cW5
      go_wp2_with fail
      clear cR4 cR5 lR cE2 lE cW4 cW5 lW
      with_reducible refine Calls.mono (CV.out _) ?_
      rintro e w12 ⟨rfl, hb⟩
      replace HT := Lib.hid (HT.out.next hb)
      replace A := Lib.hid (A.out.next hb)
      replace B := Lib.hid (B.out.next hb)
      replace R := Lib.hid (R.out.next hb)
      replace E := Lib.hid (E.out.next hb)
      replace W := Lib.hid (W.out.next hb)
      replace HB0 := Lib.hid (HB0.out.next hb)
      replace BB := Lib.hid (Below.andThen BB.out hb)
      clear hb
      have cR4 := R.out.cell 4
      have cR5 := R.out.cell 5
      have lR := R.out.lt
      simp only [List.getElem?_cons_zero, List.getElem?_cons_succ] at cR4 cR5
      have cE2 := E.out.cell 2
      have lE := E.out.lt
      simp only [List.getElem?_cons_zero, List.getElem?_cons_succ] at cE2
      have cW4 := W.out.cell 4
      have cW5 := W.out.cell 5
      have lW := W.out.lt
      simp only [List.getElem?_cons_zero, List.getElem?_cons_succ] at cW4 cW5
      go_upto_region 18 with (fail)
      refine wp_region_kin (by kernel_rfl) (by kernel_rfl) w12.heap.size 0 (by simp) (fun hk => ?_)
      repeat (go_big_quiet_step (first | (go_at_call 29; first | with_reducible exact Calls.kin (CW.out _ (HT.out.next (Kin.below _))))))
      refine wpQuiet_nil ?_
      clear hk
      intro w13 hb
      replace HT := Lib.hid (HT.out.next hb)
      replace A := Lib.hid (A.out.next hb)
      replace B := Lib.hid (B.out.next hb)
      replace R := Lib.hid (R.out.next hb)
      replace E := Lib.hid (E.out.next hb)
      replace W := Lib.hid (W.out.next hb)
      replace HB0 := Lib.hid (HB0.out.next hb)
      replace BB := Lib.hid (Below.andThen BB.out hb)
      clear hb
      clear cR4 cR5 lR cE2 lE cW4 cW5 lW
      go_wp2_with fail
      go_roundw
      case rel => exact ⟨2 + 1, by omega, rfl, HB0.out⟩
      case measure => simp [intOf]
    · rcases H3.out with ⟨hm, rfl, rfl, rfl⟩ | ⟨hm, hh⟩
      · have hm1 : (m == 0) = true := by rw [beq_iff_eq]; exact hm
        have hm2 : decide (m = 0) = true := decide_eq_true hm
        clear hm H0 H1 H2 H3 HO C1
        have cR6 := R.out.cell 6
        have cR7 := R.out.cell 7
        have lR := R.out.lt
        simp only [List.getElem?_cons_zero, List.getElem?_cons_succ] at cR6 cR7
        have cE3 := E.out.cell 3
        have lE := E.out.lt
        simp only [List.getElem?_cons_zero, List.getElem?_cons_succ] at cE3
        go_wp2_with fail
        go_roundw
        case rel => exact ⟨3 + 1, by omega, rfl, HB0.out⟩
        case measure => simp [intOf]
      · have hm1 : (m == 0) = false := by rw [beq_eq_false_iff_ne]; exact hm
        have hm2 : decide (m = 0) = false := decide_eq_false hm
        have HH := Lib.hid hh
        clear hm hh H0 H1 H2 H3 HO C1
        obtain ⟨u, v, z, h0, h1, h2, h3, h4, h5, h6, h7, h8, h9⟩ := HH.out
        subst h0
        subst h1
        subst h2
        have f1 := h3.num
        have f2 := h3.den
        have CU := Lib.hid (toInt_t h4)
        have CV := Lib.hid (toInt_t (u := v) (by omega))
        have CW := Lib.hid (fun W (T : RW W) => Valid_q h3 W T)
        rw [show Ra.tx (some (u, v)) = (In.txt u, In.txt v) from rfl] at CW
        have hv1 : decide (v < 1) = false := by rw [decide_eq_false_iff_not]; omega
        clear f1 f2 h3 h4
        generalize In.txt u = su at *
        generalize In.txt v = sv at *
        have cR6 := R.out.cell 6
        have cR7 := R.out.cell 7
        have lR := R.out.lt
        simp only [List.getElem?_cons_zero, List.getElem?_cons_succ] at cR6 cR7
        have cE3 := E.out.cell 3
        have lE := E.out.lt
        simp only [List.getElem?_cons_zero, List.getElem?_cons_succ] at cE3
        have cW6 := W.out.cell 6
        have cW7 := W.out.cell 7
        have lW := W.out.lt
        simp only [List.getElem?_cons_zero, List.getElem?_cons_succ] at cW6 cW7
        go_wp2_with fail
        clear cR6 cR7 lR cE3 lE cW6 cW7 lW
        with_reducible refine Calls.mono (CU.out _) ?_
        rintro e w11 ⟨rfl, hb⟩
        replace HT := Lib.hid (HT.out.next hb)
        replace A := Lib.hid (A.out.next hb)
        replace B := Lib.hid (B.out.next hb)
        replace R := Lib.hid (R.out.next hb)
        replace E := Lib.hid (E.out.next hb)
        replace W := Lib.hid (W.out.next hb)
        replace HB0 := Lib.hid (HB0.out.next hb)
        replace BB := Lib.hid (Below.andThen BB.out hb)
        clear hb
        have cR6 := R.out.cell 6
        have cR7 := R.out.cell 7
        have lR := R.out.lt
        simp only [List.getElem?_cons_zero, List.getElem?_cons_succ] at cR6 cR7
        have cE3 := E.out.cell 3
        have lE := E.out.lt
        simp only [List.getElem?_cons_zero, List.getElem?_cons_succ] at cE3
        have cW6 := W.out.cell 6
        have cW7 := W.out.cell 7
        have lW := W.out.lt
        simp only [List.getElem?_cons_zero, List.getElem?_cons_succ] at cW6 cW7
        go_wp2_with fail
        clear cR6 cR7 lR cE3 lE cW6 cW7 lW
        with_reducible refine Calls.mono (CV.out _) ?_
        rintro e w12 ⟨rfl, hb⟩
        replace HT := Lib.hid (HT.out.next hb)
        replace A := Lib.hid (A.out.next hb)
        replace B := Lib.hid (B.out.next hb)
        replace R := Lib.hid (R.out.next hb)
        replace E := Lib.hid (E.out.next hb)
        replace W := Lib.hid (W.out.next hb)
        replace HB0 := Lib.hid (HB0.out.next hb)
        replace BB := Lib.hid (Below.andThen BB.out hb)
        clear hb
        have cR6 := R.out.cell 6
        have cR7 := R.out.cell 7
        have lR := R.out.lt
        simp only [List.getElem?_cons_zero, List.getElem?_cons_succ] at cR6 cR7
        have cE3 := E.out.cell 3
        have lE := E.out.lt
        simp only [List.getElem?_cons_zero, List.getElem?_cons_succ] at cE3
        have cW6 := W.out.cell 6
        have cW7 := W.out.cell 7
        have lW := W.out.lt
        simp only [List.getElem?_cons_zero, List.getElem?_cons_succ] at cW6 cW7
        go_upto_region 18 with (fail)
        refine wp_region_kin (by kernel_rfl) (by kernel_rfl) w12.heap.size 0 (by simp) (fun hk => ?_)
        repeat (go_big_quiet_step (first | (go_at_call 29; first | with_reducible exact Calls.kin (CW.out _ (HT.out.next (Kin.below _))))))
        refine wpQuiet_nil ?_
        clear hk
        intro w13 hb
        replace HT := Lib.hid (HT.out.next hb)
        replace A := Lib.hid (A.out.next hb)
        replace B := Lib.hid (B.out.next hb)
        replace R := Lib.hid (R.out.next hb)
        replace E := Lib.hid (E.out.next hb)
        replace W := Lib.hid (W.out.next hb)
        replace HB0 := Lib.hid (HB0.out.next hb)
        replace BB := Lib.hid (Below.andThen BB.out hb)
        clear hb
        clear cR6 cR7 lR cE3 lE cW6 cW7 lW
        go_wp2_with fail
        go_roundw
        case rel => exact ⟨3 + 1, by omega, rfl, HB0.out⟩
        case measure => simp [intOf]
    · clear H0 H1 H2 H3 R E W HB0 bs0 bs1
      rcases HO.out with ⟨o1, o2, rfl⟩ | ⟨o1, o2, rfl⟩ | ⟨o1, o2, rfl⟩
      all_goals
        clear HO
        obtain ⟨cA0, cA1⟩ := A.out.two
        have lA := A.out.lt
        obtain ⟨cB0, cB1⟩ := B.out.two
        have lB := B.out.lt
        go_wp2_with fail
        with_reducible refine Calls.mono (C1.out _ HT.out) ?_
        rintro e w14 ⟨rfl, hb⟩
        replace HT := Lib.hid (HT.out.next hb)
        replace BB := Lib.hid (Below.andThen BB.out hb)
        clear hb
        go_wp2_with fail
        go_ret
        exact ⟨rfl, BB.out⟩
namespace rationalMachine
set_option maxRecDepth 100000 in
theorem contract (H : Type) (enc : TypeId × Value → H) (W : World) (base : Nat) (args : Array Value) (ds gs : List (DataW H)) (before : List MemPlace)
    (hval : ∀ (j : Nat) t v, Tryz.f5.params[j]? = some t → args[j]? = some v → Value.okWide Tryz.prog W .any base t v)
    (hW : DataW.Whole enc Tryz.prog Tryz.f5.params.toList Rows.rationalMachineSpec.vars false W args.toList ds gs before) (hL : laidMetH Tryz.prog Rows.rationalMachineRow.laid W) (hsh : W.ShapedOpen Tryz.prog) :
    Calls Tryz.prog 5 args W fun e W' => ∃ v, e = .returned v ∧ Rows.rationalMachineSpec.post enc Tryz.prog Tryz.f5 false true false false W args v W' := by
  have hW' := hW
  obtain ⟨p, q, hA0, hV, rfl, hfz, hnd⟩ := hW
  have hA : DataW.TrodAll enc Tryz.prog W 0 (fun _ => true) true Tryz.f5.params.toList args.toList ds p := hA0
  rw [Tryz.params5] at hA hval
  obtain ⟨v0, vs0, d0, ds0, p0, q0, hargs, rfl, rfl, h0, r0⟩ := trodAll_cons hA
  obtain ⟨v1, vs1, d1, ds1, p1, q1, rfl, rfl, rfl, h1, r1⟩ := trodAll_cons r0
  obtain ⟨v2, vs2, d2, ds2, p2, q2, rfl, rfl, rfl, h2, r2⟩ := trodAll_cons r1
  obtain ⟨v3, vs3, d3, ds3, p3, q3, rfl, rfl, rfl, h3, r3⟩ := trodAll_cons r2
  obtain ⟨rfl, rfl, rfl⟩ := trodAll_nil r3
  obtain rfl : args = #[v0, v1, v2, v3] := by cases args; simp_all
  obtain ⟨a0, rfl, rfl, rfl, k0⟩ := open_int Tryz.underlying3 (hval 0 _ _ rfl rfl) h0
  obtain ⟨a1, rfl, rfl, rfl, k1⟩ := open_int Tryz.underlying3 (hval 1 _ _ rfl rfl) h1
  obtain ⟨a2, rfl, rfl, rfl, k2⟩ := open_int Tryz.underlying3 (hval 2 _ _ rfl rfl) h2
  obtain ⟨a3, rfl, rfl, rfl, k3⟩ := open_int Tryz.underlying3 (hval 3 _ _ rfl rfl) h3
  refine (rationalMachine_law a0 a1 a2 a3 W (rwT hL hsh) (bd_i64 k0) (bd_i64 k1) (bd_i64 k2) (bd_i64 k3)).mono fun e W' ⟨he, hb⟩ => ?_
  subst he
  obtain ⟨rfl, _⟩ := trodVars_none hV
  exact ⟨_, rfl, law_post laidOut (by kernel_rfl) rfl (by kernel_rfl) Tryz.underlying4 hW' rfl hb⟩

noncomputable def laidWorld (os : Os) : World := World.laidAll Tryz.prog os Rows.rationalMachineRow.laid
def args0 : Array Value := #[.int .i64 0, .int .i64 0, .int .i64 0, .int .i64 0]
theorem laid_met (os : Os) : laidMet Tryz.prog Rows.rationalMachineRow.laid ((laidWorld os).forCall (fun _ _ => 0) ⟨#[], args0, []⟩).memory :=
  laidMet_laidAll _ (by kernel_rfl) (by kernel_rfl)
theorem reads (os : Os) {H : Type} (enc : TypeId × Value → H) : ∃ places, DataW.whole enc Tryz.prog ((laidWorld os).forCall (fun _ _ => 0) ⟨#[], args0, []⟩).memory Tryz.f5.params.toList Rows.rationalMachineSpec.vars false args0.toList 8 = some ([.lit (.int .i64 0), .lit (.int .i64 0), .lit (.int .i64 0), .lit (.int .i64 0)], [], places) :=
  ⟨[], by kernel_rfl⟩

set_option maxRecDepth 100000 in
theorem lifted (os : Os) (started : os.Started) (H : Type) (enc : TypeId × Value → H) (F : Stop.Interp) :
    ReturnsInHanded {} Tryz.checked os 5 .any ((OpenSpec.ofChange Rows.rationalMachineSpec).preRow enc Tryz.prog Tryz.f5 Rows.rationalMachineRow.domain false Rows.rationalMachineRow.laid) (((OpenSpec.ofChange Rows.rationalMachineSpec).at F).post enc Tryz.prog Tryz.f5 false true false false) := by
  obtain ⟨places, hx⟩ := reads os enc
  refine returnsInHanded_of_row (C := Tryz.checked) (s := OpenSpec.ofChange Rows.rationalMachineSpec) own started (by kernel_rfl) Tryz.func5
    (witness_row_at (enc := enc) (C := Tryz.checked) false (laidWorld os) args0 (World.laidAll_os _ _ _) (by kernel_rfl) (by kernel_rfl) (by kernel_rfl)
      (OpenSpec.preRow_of_cond 8 hx (by kernel_rfl) (fun k hk => by cases hk) (by kernel_rfl) (laid_met os))) ?_
  intro W base args ds gs before hval hW _ _ _ hL hsh _
  exact contract H enc W base args ds gs before hval hW hL hsh

theorem said : Rows.RationalMachineSaid :=
  OpenClaim.holds_of_cond 5 Tryz.f5 rfl rfl rfl rfl rfl rfl rfl ⟨rfl, rfl, rfl, rfl, rfl⟩ rfl rfl rfl rfl rfl (by kernel_rfl) Tryz.func5 (by kernel_rfl)
    (of_decide_eq_true (by kernel_rfl)) (by unfold Func.isWrapper; first | (rw [if_pos (by decide +kernel)]; kernel_rfl) | (rw [if_neg (by decide +kernel)]; exact ⟨rfl, rfl⟩))
    (fun os started H enc _ F => by rw [OpenClaim.pre_eq_preRow]; exact lifted os started H enc F)

theorem plain (f : FuncId) (fn : Func) (hf : Tryz.pinned.checked.prog.funcNamed "newswire/newswirelaw04.RationalMachine" = some f) (hfn : Tryz.pinned.checked.prog.funcs[f]? = some fn) :
    false = Tryz.pinned.checked.prog.looks [] ∧ ∀ (j : Nat) t, fn.params[j]? = some t → Tryz.pinned.checked.prog.wantsStandIn t = false := by
  obtain rfl : f = 5 := Option.some.inj ((show Tryz.prog.funcNamed "newswire/newswirelaw04.RationalMachine" = some 5 by kernel_rfl).symm.trans hf) |>.symm
  obtain rfl : fn = Tryz.f5 := (Option.some.inj (Tryz.func5.symm.trans hfn)).symm
  refine ⟨by kernel_rfl, fun j t ht => ?_⟩
  have all : (Tryz.f5.params.toList.all fun t => Tryz.prog.wantsStandIn t == false) = true := by kernel_rfl
  have := List.all_eq_true.1 all t (by rw [← Array.mem_def]; exact Array.mem_of_getElem? ht)
  exact (show Tryz.prog.wantsStandIn t = false by simpa using this)

/-- The statement. -/
theorem card : Rows.RationalMachineCardSaid :=
  Claim7.holds_tied_plain_at .later [] _ _ _ _ said (fun _ h => by cases h) (by kernel_rfl) (fun _ h => by cases h) rationalMachine_row_tie rfl ⟨rfl, rfl⟩ (by kernel_rfl) rfl plain (by kernel_rfl)
end rationalMachine
end Go.Proofs.YtlehjmanlccncaaGreatDoor
