/- For every input, IntegerMachine returns true; the listed tables hold what the program's text lays. -/
import Derived.Test.YtjhnfejlkljkjaaDoorIntOps
namespace Go.Proofs.YtjhnfejlkljkjaaDoor
open Go.RowKit Go.ChangeShapes Go.WideShapes Go.ChangeAt

theorem bd_i32 {n : Int} (h : (Lit.int .i32 n).wf = true) : -2147483648 ≤ n ∧ n ≤ 2147483647 := by
  simpa [Lit.wf, IntKind.min, IntKind.max, IntKind.signed, IntKind.bits] using h
theorem toS_fit {n : Int} (h : -9223372036854775808 ≤ n ∧ n ≤ 9223372036854775807) : In.toS (In.txt n) = (n, 0) ∧ In.Fit n := by
  have f : In.Fit n := by
    show n.natAbs < 10 ^ 200
    have h1 : n.natAbs < 10 ^ 19 := by omega
    exact Nat.lt_of_lt_of_le h1 (Nat.pow_le_pow_right (by decide) (by decide))
  rw [In.toS_some (In.num_fit f), if_pos h]
  exact ⟨rfl, f⟩
theorem mul_bd {x y : Int} (hx : -2147483648 ≤ x ∧ x ≤ 2147483647) (hy : -2147483648 ≤ y ∧ y ≤ 2147483647) : -4611686018427387904 ≤ x * y ∧ x * y ≤ 4611686018427387904 := by
  have h : (x * y).natAbs ≤ 2147483648 * 2147483648 := by
    rw [Int.natAbs_mul]
    exact Nat.mul_le_mul (by omega) (by omega)
  omega
/-- from the machine's quotient to the document's -/
theorem quo_is {x y q r : Int} (hy : y ≠ 0) (hq : x.tdiv y = q) (hr : x.tmod y = r) :
    (r < 0 → 0 < y → x / y = q - 1 ∧ x % y = r + y) ∧ (r < 0 → y < 0 → x / y = q + 1 ∧ x % y = r - y) ∧ (0 ≤ r → x / y = q ∧ x % y = r) := by
  have h1 := Int.mul_tdiv_add_tmod x y
  rw [hq, hr] at h1
  have h2 : r.natAbs < y.natAbs := by
    rw [← hr, Int.natAbs_tmod]
    exact Nat.mod_lt _ (by omega)
  have e1 : y * (q - 1) = y * q - y := by rw [Int.mul_sub, Int.mul_one]
  have e2 : y * (q + 1) = y * q + y := by rw [Int.mul_add, Int.mul_one]
  refine ⟨fun a b => ?_, fun a b => ?_, fun a => ?_⟩
  · exact (Int.ediv_emod_unique b).2 ⟨by rw [e1]; omega, by omega, by omega⟩
  · exact (Int.ediv_emod_unique' b).2 ⟨by rw [e2]; omega, by omega, by omega⟩
  · rcases Int.lt_or_gt_of_ne hy with b | b
    · exact (Int.ediv_emod_unique' b).2 ⟨by omega, by omega, by omega⟩
    · exact (Int.ediv_emod_unique b).2 ⟨by omega, by omega, by omega⟩
theorem tdiv_bd {x y : Int} (hx : -2147483648 ≤ x ∧ x ≤ 2147483647) : -2147483648 ≤ x.tdiv y ∧ x.tdiv y ≤ 2147483648 := by
  have h : (x.tdiv y).natAbs ≤ x.natAbs := by rw [Int.natAbs_tdiv]; exact Nat.div_le_self _ _
  omega
theorem tmod_bd {x y : Int} (hx : -2147483648 ≤ x ∧ x ≤ 2147483647) : -2147483648 ≤ x.tmod y ∧ x.tmod y ≤ 2147483648 := by
  have h : (x.tmod y).natAbs ≤ x.natAbs := by rw [Int.natAbs_tmod]; exact Nat.mod_le _ _
  omega
set_option maxRecDepth 100000 in
set_option maxHeartbeats 8000000 in
theorem integerMachine_law (x y : Int) (w : World) (TT : TabI w ∧ TabE w) (hx : -2147483648 ≤ x ∧ x ≤ 2147483647) (hy : -2147483648 ≤ y ∧ y ≤ 2147483647) :
    Calls Tryd.prog 3 #[.int .i32 x, .int .i32 y] w fun r w' => r = .returned (.bool true) ∧ Below w.heap.size w w' := by
  have HT := Lib.hid TT.1
  have HE := Lib.hid TT.2
  have BB := Lib.hid (Below.refl w.heap.size w)
  have HS := Lib.hid sane_any
  have hm := mul_bd hx hy
  obtain ⟨p, hp⟩ : ∃ p, x * y = p := ⟨_, rfl⟩
  obtain ⟨t1, fx⟩ := toS_fit (n := x) (by omega)
  have fy := (toS_fit (n := y) (by omega)).2
  have fa := (toS_fit (n := x + y) (by omega)).2
  have fs := (toS_fit (n := x - y) (by omega)).2
  have fm := (toS_fit (n := x * y) (by omega)).2
  have F1 := Lib.hid (fun W h => FromInt_any x W (by omega) h)
  have F2 := Lib.hid (fun W h => FromInt_any y W (by omega) h)
  have F3 := Lib.hid (fun W h => FromInt_any (x + y) W (by omega) h)
  have F4 := Lib.hid (fun W h => FromInt_any (x - y) W (by omega) h)
  have F5 := Lib.hid (fun W h => FromInt_any (x * y) W (by omega) h)
  have I1 := Lib.hid (ToInt_any (In.txt x))
  rw [t1] at I1
  have A1 := Lib.hid (Add_t fx fy fa)
  have S1 := Lib.hid (Sub_t fx fy fs)
  have P1 := Lib.hid (Mul_t fx fy fm)
  have C1 := Lib.hid (Cmp_t fx fy)
  have hord : (decide (x < y) = true ∧ decide (y < x) = false ∧ In.cmpZ x y = -1) ∨ (decide (x < y) = false ∧ decide (y < x) = true ∧ In.cmpZ x y = 1) ∨ (decide (x < y) = false ∧ decide (y < x) = false ∧ In.cmpZ x y = 0) := by
    simp only [decide_eq_true_eq, decide_eq_false_iff_not]
    unfold In.cmpZ
    split
    · exact .inl ⟨by assumption, by omega, rfl⟩
    · split
      · exact .inr (.inl ⟨by assumption, by assumption, rfl⟩)
      · exact .inr (.inr ⟨by assumption, by assumption, rfl⟩)
  have HO := Lib.hid hord
  rw [hp] at hm F5 P1
  clear t1 fa fs fm TT hord
  by_cases h0 : y = 0
  · subst h0
    have D1 := Lib.hid (Div_z fx)
    rw [Int.mul_zero] at hp
    subst hp
    rw [Int.add_zero] at A1 F3
    rw [Int.sub_zero] at S1 F4
    clear fx fy
    generalize In.txt x = s4 at *
    generalize In.txt 0 = s5 at *
    go_enter Tryd.func3, Tryd.ntmps3
    go_wp2_with fail
    with_reducible refine Calls.mono (HS.out _ HT.out) ?_
    rintro e w1 ⟨rfl, hb⟩
    replace HT := Lib.hid (HT.out.next hb)
    replace HE := Lib.hid (HE.out.next hb)
    replace BB := Lib.hid (Below.andThen BB.out hb)
    clear hb
    go_wp2_with fail
    with_reducible refine Calls.mono (F1.out _ HT.out) ?_
    rintro e w2 ⟨rfl, hb⟩
    replace HT := Lib.hid (HT.out.next hb)
    replace HE := Lib.hid (HE.out.next hb)
    replace BB := Lib.hid (Below.andThen BB.out hb)
    clear hb
    go_wp2_with fail
    with_reducible refine Calls.mono (F2.out _ HT.out) ?_
    rintro e w3 ⟨rfl, hb⟩
    replace HT := Lib.hid (HT.out.next hb)
    replace HE := Lib.hid (HE.out.next hb)
    replace BB := Lib.hid (Below.andThen BB.out hb)
    clear hb
    go_wp2_with fail
    with_reducible refine Calls.mono (I1.out _ HE.out) ?_
    rintro e w4 ⟨rfl, hb⟩
    replace HT := Lib.hid (HT.out.next hb)
    replace HE := Lib.hid (HE.out.next hb)
    replace BB := Lib.hid (Below.andThen BB.out hb)
    clear hb
    go_wp2_with fail
    with_reducible refine Calls.mono (A1.out _ HT.out) ?_
    rintro e w5 ⟨rfl, hb⟩
    replace HT := Lib.hid (HT.out.next hb)
    replace HE := Lib.hid (HE.out.next hb)
    replace BB := Lib.hid (Below.andThen BB.out hb)
    clear hb
    go_wp2_with fail
    with_reducible refine Calls.mono (S1.out _ HT.out) ?_
    rintro e w6 ⟨rfl, hb⟩
    replace HT := Lib.hid (HT.out.next hb)
    replace HE := Lib.hid (HE.out.next hb)
    replace BB := Lib.hid (Below.andThen BB.out hb)
    clear hb
    go_wp2_with fail
    with_reducible refine Calls.mono (P1.out _ HT.out) ?_
    rintro e w7 ⟨rfl, hb⟩
    replace HT := Lib.hid (HT.out.next hb)
    replace HE := Lib.hid (HE.out.next hb)
    replace BB := Lib.hid (Below.andThen BB.out hb)
    clear hb
    go_wp2_with fail
    with_reducible refine Calls.mono (F3.out _ HT.out) ?_
    rintro e w8 ⟨rfl, hb⟩
    replace HT := Lib.hid (HT.out.next hb)
    replace HE := Lib.hid (HE.out.next hb)
    replace BB := Lib.hid (Below.andThen BB.out hb)
    clear hb
    go_wp2_with fail
    with_reducible refine Calls.mono (F4.out _ HT.out) ?_
    rintro e w9 ⟨rfl, hb⟩
    replace HT := Lib.hid (HT.out.next hb)
    replace HE := Lib.hid (HE.out.next hb)
    replace BB := Lib.hid (Below.andThen BB.out hb)
    clear hb
    go_wp2_with fail
    with_reducible refine Calls.mono (F5.out _ HT.out) ?_
    rintro e w10 ⟨rfl, hb⟩
    replace HT := Lib.hid (HT.out.next hb)
    replace BB := Lib.hid (Below.andThen BB.out hb)
    clear hb
    rcases HO.out with ⟨o1, o2, hc⟩ | ⟨o1, o2, hc⟩ | ⟨o1, o2, hc⟩
    all_goals
      rw [hc] at C1
      clear hc HO
      go_wp2_with fail
      with_reducible refine Calls.mono (C1.out _) ?_
      rintro e w11 ⟨rfl, hb⟩
      replace HT := Lib.hid (HT.out.next hb)
      replace BB := Lib.hid (Below.andThen BB.out hb)
      clear hb
      go_wp2_with fail
      with_reducible refine Calls.mono (D1.out _ HT.out) ?_
      rintro e w12 ⟨rfl, hb⟩
      replace HT := Lib.hid (HT.out.next hb)
      replace BB := Lib.hid (Below.andThen BB.out hb)
      clear hb
      go_wp2_with fail
      go_ret
      exact ⟨rfl, BB.out⟩
  · have D1 := Lib.hid (Div_t fx fy h0)
    obtain ⟨q, hq⟩ : ∃ q, x.tdiv y = q := ⟨_, rfl⟩
    obtain ⟨r, hr⟩ : ∃ r, x.tmod y = r := ⟨_, rfl⟩
    have bq := tdiv_bd (y := y) hx
    have br := tmod_bd (y := y) hx
    rw [hq] at bq
    rw [hr] at br
    have HQ := Lib.hid (quo_is h0 hq hr)
    obtain ⟨eq, heq⟩ : ∃ z, z = x / y := ⟨_, rfl⟩
    obtain ⟨er, her⟩ : ∃ z, z = x % y := ⟨_, rfl⟩
    rw [← heq, ← her] at D1 HQ
    have hr2 := Int.emod_nonneg x h0
    have HC := Lib.hid (show (r < 0 ∧ 0 < y) ∨ (r < 0 ∧ y < 0) ∨ 0 ≤ r from by omega)
    have HR2 := Lib.hid (show 0 ≤ er from by rw [her]; exact hr2)
    clear fx fy heq her hr2
    generalize In.txt (x + y) = s1 at *
    generalize In.txt (x - y) = s2 at *
    generalize In.txt p = s3 at *
    generalize In.txt x = s4 at *
    generalize In.txt y = s5 at *
    go_enter Tryd.func3, Tryd.ntmps3
    go_wp2_with fail
    with_reducible refine Calls.mono (HS.out _ HT.out) ?_
    rintro e w1 ⟨rfl, hb⟩
    replace HT := Lib.hid (HT.out.next hb)
    replace HE := Lib.hid (HE.out.next hb)
    replace BB := Lib.hid (Below.andThen BB.out hb)
    clear hb
    go_wp2_with fail
    with_reducible refine Calls.mono (F1.out _ HT.out) ?_
    rintro e w2 ⟨rfl, hb⟩
    replace HT := Lib.hid (HT.out.next hb)
    replace HE := Lib.hid (HE.out.next hb)
    replace BB := Lib.hid (Below.andThen BB.out hb)
    clear hb
    go_wp2_with fail
    with_reducible refine Calls.mono (F2.out _ HT.out) ?_
    rintro e w3 ⟨rfl, hb⟩
    replace HT := Lib.hid (HT.out.next hb)
    replace HE := Lib.hid (HE.out.next hb)
    replace BB := Lib.hid (Below.andThen BB.out hb)
    clear hb
    go_wp2_with fail
    with_reducible refine Calls.mono (I1.out _ HE.out) ?_
    rintro e w4 ⟨rfl, hb⟩
    replace HT := Lib.hid (HT.out.next hb)
    replace HE := Lib.hid (HE.out.next hb)
    replace BB := Lib.hid (Below.andThen BB.out hb)
    clear hb
    go_wp2_with fail
    with_reducible refine Calls.mono (A1.out _ HT.out) ?_
    rintro e w5 ⟨rfl, hb⟩
    replace HT := Lib.hid (HT.out.next hb)
    replace HE := Lib.hid (HE.out.next hb)
    replace BB := Lib.hid (Below.andThen BB.out hb)
    clear hb
    go_wp2_with fail
    with_reducible refine Calls.mono (S1.out _ HT.out) ?_
    rintro e w6 ⟨rfl, hb⟩
    replace HT := Lib.hid (HT.out.next hb)
    replace HE := Lib.hid (HE.out.next hb)
    replace BB := Lib.hid (Below.andThen BB.out hb)
    clear hb
    go_wp2_with fail
    with_reducible refine Calls.mono (P1.out _ HT.out) ?_
    rintro e w7 ⟨rfl, hb⟩
    replace HT := Lib.hid (HT.out.next hb)
    replace HE := Lib.hid (HE.out.next hb)
    replace BB := Lib.hid (Below.andThen BB.out hb)
    clear hb
    go_wp2_with fail
    with_reducible refine Calls.mono (F3.out _ HT.out) ?_
    rintro e w8 ⟨rfl, hb⟩
    replace HT := Lib.hid (HT.out.next hb)
    replace HE := Lib.hid (HE.out.next hb)
    replace BB := Lib.hid (Below.andThen BB.out hb)
    clear hb
    go_wp2_with fail
    with_reducible refine Calls.mono (F4.out _ HT.out) ?_
    rintro e w9 ⟨rfl, hb⟩
    replace HT := Lib.hid (HT.out.next hb)
    replace HE := Lib.hid (HE.out.next hb)
    replace BB := Lib.hid (Below.andThen BB.out hb)
    clear hb
    go_wp2_with fail
    with_reducible refine Calls.mono (F5.out _ HT.out) ?_
    rintro e w10 ⟨rfl, hb⟩
    replace HT := Lib.hid (HT.out.next hb)
    replace BB := Lib.hid (Below.andThen BB.out hb)
    clear hb
    rcases HO.out with ⟨o1, o2, hc⟩ | ⟨o1, o2, hc⟩ | ⟨o1, o2, hc⟩
    all_goals
      rw [hc] at C1
      clear hc HO
      go_wp2_with fail
      with_reducible refine Calls.mono (C1.out _) ?_
      rintro e w11 ⟨rfl, hb⟩
      replace HT := Lib.hid (HT.out.next hb)
      replace BB := Lib.hid (Below.andThen BB.out hb)
      clear hb
      go_wp2_with fail
      with_reducible refine Calls.mono (D1.out _ HT.out) ?_
      rintro e w12 ⟨rfl, hb⟩
      replace HT := Lib.hid (HT.out.next hb)
      replace BB := Lib.hid (Below.andThen BB.out hb)
      clear hb o1 o2
      rcases HC.out with ⟨c1, c2⟩ | ⟨c1, c2⟩ | c1
      · obtain ⟨u, v⟩ := HQ.out.1 c1 c2
        subst u v
        have d9 : decide (r + y < 0) = false := by rw [decide_eq_false_iff_not]; have := HR2.out; omega
        have F6 := Lib.hid (fun W h => FromInt_any (q - 1) W (by omega) h)
        have F7 := Lib.hid (fun W h => FromInt_any (r + y) W (by omega) h)
        generalize In.txt (q - 1) = s6 at *
        generalize In.txt (r + y) = s7 at *
        clear HQ HC
        go_wp2_with fail
        with_reducible refine Calls.mono (F6.out _ HT.out) ?_
        rintro e w13 ⟨rfl, hb⟩
        replace HT := Lib.hid (HT.out.next hb)
        replace BB := Lib.hid (Below.andThen BB.out hb)
        clear hb
        go_wp2_with fail
        with_reducible refine Calls.mono (F7.out _ HT.out) ?_
        rintro e w14 ⟨rfl, hb⟩
        replace HT := Lib.hid (HT.out.next hb)
        replace BB := Lib.hid (Below.andThen BB.out hb)
        clear hb
        go_wp2_with fail
        go_ret
        exact ⟨rfl, BB.out⟩
      · obtain ⟨u, v⟩ := HQ.out.2.1 c1 c2
        subst u v
        have F6 := Lib.hid (fun W h => FromInt_any (q + 1) W (by omega) h)
        have F7 := Lib.hid (fun W h => FromInt_any (r - y) W (by omega) h)
        generalize In.txt (q + 1) = s6 at *
        generalize In.txt (r - y) = s7 at *
        clear HQ HC
        go_wp2_with fail
        with_reducible refine Calls.mono (F6.out _ HT.out) ?_
        rintro e w13 ⟨rfl, hb⟩
        replace HT := Lib.hid (HT.out.next hb)
        replace BB := Lib.hid (Below.andThen BB.out hb)
        clear hb
        go_wp2_with fail
        with_reducible refine Calls.mono (F7.out _ HT.out) ?_
        rintro e w14 ⟨rfl, hb⟩
        replace HT := Lib.hid (HT.out.next hb)
        replace BB := Lib.hid (Below.andThen BB.out hb)
        clear hb
        go_wp2_with fail
        go_ret
        exact ⟨rfl, BB.out⟩
      · obtain ⟨u, v⟩ := HQ.out.2.2 c1
        subst u v
        have F6 := Lib.hid (fun W h => FromInt_any eq W (by omega) h)
        have F7 := Lib.hid (fun W h => FromInt_any er W (by omega) h)
        generalize In.txt eq = s6 at *
        generalize In.txt er = s7 at *
        clear HQ HC
        go_wp2_with fail
        with_reducible refine Calls.mono (F6.out _ HT.out) ?_
        rintro e w13 ⟨rfl, hb⟩
        replace HT := Lib.hid (HT.out.next hb)
        replace BB := Lib.hid (Below.andThen BB.out hb)
        clear hb
        go_wp2_with fail
        with_reducible refine Calls.mono (F7.out _ HT.out) ?_
        rintro e w14 ⟨rfl, hb⟩
        replace HT := Lib.hid (HT.out.next hb)
        replace BB := Lib.hid (Below.andThen BB.out hb)
        clear hb
        go_wp2_with fail
        go_ret
        exact ⟨rfl, BB.out⟩
namespace integerMachine
set_option maxRecDepth 100000 in
theorem contract (H : Type) (enc : TypeId × Value → H) (W : World) (base : Nat) (args : Array Value) (ds gs : List (DataW H)) (before : List MemPlace)
    (hval : ∀ (j : Nat) t v, Tryd.f3.params[j]? = some t → args[j]? = some v → Value.okWide Tryd.prog W .any base t v)
    (hW : DataW.Whole enc Tryd.prog Tryd.f3.params.toList Rows.integerMachineSpec.vars false W args.toList ds gs before) (hL : laidMetH Tryd.prog Rows.integerMachineRow.laid W) :
    Calls Tryd.prog 3 args W fun e W' => ∃ v, e = .returned v ∧ Rows.integerMachineSpec.post enc Tryd.prog Tryd.f3 false true false false W args v W' := by
  have hW' := hW
  obtain ⟨p, q, hA0, hV, rfl, hfz, hnd⟩ := hW
  have hA : DataW.TrodAll enc Tryd.prog W 0 (fun _ => true) true Tryd.f3.params.toList args.toList ds p := hA0
  rw [Tryd.params3] at hA hval
  obtain ⟨v0, vs0, d0, ds0, p0, q0, hargs, rfl, rfl, h0, r0⟩ := trodAll_cons hA
  obtain ⟨v1, vs1, d1, ds1, p1, q1, rfl, rfl, rfl, h1, r1⟩ := trodAll_cons r0
  obtain ⟨rfl, rfl, rfl⟩ := trodAll_nil r1
  obtain rfl : args = #[v0, v1] := by cases args; simp_all
  obtain ⟨a0, rfl, rfl, rfl, k0⟩ := open_int Tryd.underlying21 (hval 0 _ _ rfl rfl) h0
  obtain ⟨a1, rfl, rfl, rfl, k1⟩ := open_int Tryd.underlying21 (hval 1 _ _ rfl rfl) h1
  refine (integerMachine_law a0 a1 W (⟨tabI hL, tabE hL⟩) (bd_i32 k0) (bd_i32 k1)).mono fun e W' ⟨he, hb⟩ => ?_
  subst he
  obtain ⟨rfl, _⟩ := trodVars_none hV
  exact ⟨_, rfl, law_post laidOut (by kernel_rfl) rfl (by kernel_rfl) Tryd.underlying4 hW' rfl hb⟩

noncomputable def laidWorld (os : Os) : World := World.laidAll Tryd.prog os Rows.integerMachineRow.laid
def args0 : Array Value := #[.int .i32 0, .int .i32 0]
theorem laid_met (os : Os) : laidMet Tryd.prog Rows.integerMachineRow.laid ((laidWorld os).forCall (fun _ _ => 0) ⟨#[], args0, []⟩).memory :=
  laidMet_laidAll _ (by kernel_rfl) (by kernel_rfl)
theorem reads (os : Os) {H : Type} (enc : TypeId × Value → H) : ∃ places, DataW.whole enc Tryd.prog ((laidWorld os).forCall (fun _ _ => 0) ⟨#[], args0, []⟩).memory Tryd.f3.params.toList Rows.integerMachineSpec.vars false args0.toList 8 = some ([.lit (.int .i32 0), .lit (.int .i32 0)], [], places) :=
  ⟨[], by kernel_rfl⟩

set_option maxRecDepth 100000 in
theorem lifted (os : Os) (started : os.Started) (H : Type) (enc : TypeId × Value → H) (F : Stop.Interp) :
    ReturnsInHanded {} Tryd.checked os 3 .any ((OpenSpec.ofChange Rows.integerMachineSpec).preRow enc Tryd.prog Tryd.f3 Rows.integerMachineRow.domain false Rows.integerMachineRow.laid) (((OpenSpec.ofChange Rows.integerMachineSpec).at F).post enc Tryd.prog Tryd.f3 false true false false) := by
  obtain ⟨places, hx⟩ := reads os enc
  refine returnsInHanded_of_row (C := Tryd.checked) (s := OpenSpec.ofChange Rows.integerMachineSpec) own started (by kernel_rfl) Tryd.func3
    (witness_row_at (enc := enc) (C := Tryd.checked) false (laidWorld os) args0 (World.laidAll_os _ _ _) (by kernel_rfl) (by kernel_rfl) (by kernel_rfl)
      (OpenSpec.preRow_of_cond 8 hx (by kernel_rfl) (fun k hk => by cases hk) (by kernel_rfl) (laid_met os))) ?_
  intro W base args ds gs before hval hW _ _ _ hL _ _
  exact contract H enc W base args ds gs before hval hW hL

theorem said : Rows.IntegerMachineSaid :=
  OpenClaim.holds_of_cond 3 Tryd.f3 rfl rfl rfl rfl rfl rfl rfl ⟨rfl, rfl, rfl, rfl, rfl⟩ rfl rfl rfl rfl rfl (by kernel_rfl) Tryd.func3 (by kernel_rfl)
    (of_decide_eq_true (by kernel_rfl)) (by unfold Func.isWrapper; first | (rw [if_pos (by decide +kernel)]; kernel_rfl) | (rw [if_neg (by decide +kernel)]; exact ⟨rfl, rfl⟩))
    (fun os started H enc _ F => by rw [OpenClaim.pre_eq_preRow]; exact lifted os started H enc F)

theorem plain (f : FuncId) (fn : Func) (hf : Tryd.pinned.checked.prog.funcNamed "newswire/newswirelaw03.IntegerMachine" = some f) (hfn : Tryd.pinned.checked.prog.funcs[f]? = some fn) :
    true = Tryd.pinned.checked.prog.looks [] ∧ ∀ (j : Nat) t, fn.params[j]? = some t → Tryd.pinned.checked.prog.wantsStandIn t = false := by
  obtain rfl : f = 3 := Option.some.inj ((show Tryd.prog.funcNamed "newswire/newswirelaw03.IntegerMachine" = some 3 by kernel_rfl).symm.trans hf) |>.symm
  obtain rfl : fn = Tryd.f3 := (Option.some.inj (Tryd.func3.symm.trans hfn)).symm
  refine ⟨by kernel_rfl, fun j t ht => ?_⟩
  have all : (Tryd.f3.params.toList.all fun t => Tryd.prog.wantsStandIn t == false) = true := by kernel_rfl
  have := List.all_eq_true.1 all t (by rw [← Array.mem_def]; exact Array.mem_of_getElem? ht)
  exact (show Tryd.prog.wantsStandIn t = false by simpa using this)

/-- The statement. -/
theorem card : Rows.IntegerMachineCardSaid :=
  Claim7.holds_tied_plain_at .later [] _ _ _ _ said (fun _ h => by cases h) (by kernel_rfl) (fun _ h => by cases h) integerMachine_row_tie rfl ⟨rfl, rfl⟩ (by kernel_rfl) rfl plain (by kernel_rfl)
end integerMachine
end Go.Proofs.YtjhnfejlkljkjaaDoor
